/- Out of the listed variables: package sha's two tables in memory; and a world for the witness. -/
import Derived.Test.YtheabbknflmnfaaDoorCards
import Derived.Test.YtheabbknflmnfaaDoorTie
import Derived.Test.YtheabbknflmnfaaDoorShaCalls
import Derived.Lib.LaidIn
import Derived.Lib.LaidU8T
import Derived.Deep.DeepHandedRow
import Derived.Deep.DeepWitnessRowRef
import Derived.ProofKit
import Derived.OpenShut
import Derived.ShutString
namespace Go.Proofs.YtheabbknflmnfaaDoor
open Go.ChangeShapes Go.WideShapes Go.ChangeAt Go.RowKit Go.Lib Go.Shelf

/-- a listed array of 32-bit numbers, cell by cell -/
theorem u32_of_reads {w : World} {name : String} {g t : Nat} {n : Nat} (L : List Nat) (hL : L.length = n) (hn : Tryd.prog.globalNamed name = some g) (hy : (Tryd.prog.globals[g]?).map (·.type) = some t)
    (hu : Tryd.prog.underlying t = some (.array n 146)) (hc : Tryd.prog.cellsOf 146 = 1)
    (h : VarReads Tryd.prog w name (.agg (L.map fun n : Nat => .lit (.int .u32 (n : Int))))) (i : Nat) (hi : i < n) : w.cell? ⟨g, i, none⟩ = some (.int .u32 (L.getD i 0 : Nat)) := by
  obtain ⟨g', t', cs, fuel, p, hg, hty, hvar, hd⟩ := h
  obtain rfl := Option.some.inj (hn.symm.trans hg)
  obtain rfl := Option.some.inj (hy.symm.trans hty)
  obtain ⟨fuel', d, q, hdi, he⟩ := array_elem hu hd i hi
  rw [hc] at he
  obtain ⟨z, e0, x0, _⟩ := DataW.trod_int Tryd.underlying146 he
  have hd2 : d = .lit (.int .u32 (L.getD i 0 : Nat)) := by
    have hlt : i < L.length := by omega
    rw [List.getElem?_map, List.getElem?_eq_getElem hlt] at hdi
    rw [List.getD_eq_getElem?_getD, List.getElem?_eq_getElem hlt]
    exact (Option.some.inj hdi).symm
  rw [hd2] at x0
  rw [World.var?_cell hn hvar i]
  have := congrArg (fun l : List Value => l[0]?) e0
  simp [List.getElem?_take, List.getElem?_drop] at this
  rw [this]
  simp only [Prod.mk.injEq, DataW.lit.injEq, Lit.int.injEq, true_and] at x0
  rw [x0.1]

theorem start_is : (Rows.laid_plumbob_sha_start : DataW Unit) = .agg (start.list.map fun n : Nat => .lit (.int .u32 (n : Int))) := by kernel_rfl
theorem roots_is : (Rows.laid_plumbob_sha_roots : DataW Unit) = .agg (rootsL.map fun n : Nat => .lit (.int .u32 (n : Int))) := by kernel_rfl
theorem nStart : Tryd.prog.globalNamed "plumbob/sha.start" = some 0 := by kernel_rfl
theorem yStart : (Tryd.prog.globals[0]?).map (·.type) = some 148 := by kernel_rfl
theorem nRoots : Tryd.prog.globalNamed "plumbob/sha.roots" = some 1 := by kernel_rfl
theorem yRoots : (Tryd.prog.globals[1]?).map (·.type) = some 160 := by kernel_rfl
theorem cU32 : Tryd.prog.cellsOf 146 = 1 := by kernel_rfl
theorem shaReady_of_laid {w : World} (h : laidMet Tryd.prog [("plumbob/sha.start", Rows.laid_plumbob_sha_start), ("plumbob/sha.roots", Rows.laid_plumbob_sha_roots)] w) : ShaReady w := by
  have h1 := Lib.laidMet.reads h (.head _)
  have h2 := Lib.laidMet.reads h (.tail _ (.head _))
  rw [start_is] at h1
  rw [roots_is] at h2
  refine ⟨fun j v hv => ?_, fun i hi => u32_of_reads rootsL rfl nRoots yRoots Tryd.underlying160 cU32 h2 i hi⟩
  have hj : j < 8 := by
    have := (List.getElem?_eq_some_iff.1 hv).1
    rwa [u32s_length, St.list_length] at this
  rw [Nat.zero_add, u32_of_reads start.list rfl nStart yStart Tryd.underlying148 cU32 h1 j hj, ← hv, u32s_at _ _ (by rw [St.list_length]; exact hj)]

/-- the settled world, the two variables holding what their texts lay -/
noncomputable def shaWorld (os : Os) : World :=
  let w0 := World.holding Tryd.prog os ⟨#[], #[], []⟩
  let put (h : Array Obj) (g : Nat) (cs : Array Value) : Array Obj := h.modify g fun
    | .cells _ t frozen => .cells cs t frozen
    | o => o
  let h1 := put w0.heap 0 (u32s start.list).toArray
  let h2 := put h1 1 (u32s rootsL).toArray
  { w0 with heap := h2 }
theorem sha_met (os : Os) (args : Array Value) : laidMet Tryd.prog [("plumbob/sha.start", Rows.laid_plumbob_sha_start), ("plumbob/sha.roots", Rows.laid_plumbob_sha_roots)] ((shaWorld os).forCall (fun _ _ => 0) ⟨#[], args, []⟩).memory :=
  (LaidIn.of_run (l := [("plumbob/sha.start", Rows.laid_plumbob_sha_start), ("plumbob/sha.roots", Rows.laid_plumbob_sha_roots)]) [0, 1] 8 (by kernel_rfl) (by kernel_rfl) (by kernel_rfl) (by kernel_rfl)).met
theorem own : ownKnob Tryd.prog.godebug = none := by kernel_rfl
end Go.Proofs.YtheabbknflmnfaaDoor
