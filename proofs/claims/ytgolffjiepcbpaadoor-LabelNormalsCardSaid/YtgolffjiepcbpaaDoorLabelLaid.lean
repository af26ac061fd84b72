/- Out of the listed variables: the three tables in memory; and a world for the witness. -/
import Derived.Test.YtgolffjiepcbpaaDoorCards
import Derived.Test.YtgolffjiepcbpaaDoorTie
import Derived.Test.YtgolffjiepcbpaaDoorLabelSpeaks
import Derived.Lib.LaidIn
import Derived.Lib.LaidU8T
import Derived.Deep.DeepHandedRow
import Derived.Deep.DeepWitnessRowRef
import Derived.ProofKit
import Derived.OpenShut
import Derived.ShutString
namespace Go.Proofs.YtgolffjiepcbpaaDoor
open Go.ChangeShapes Go.WideShapes Go.ChangeAt Go.RowKit Go.Lib Go.Shelf

section
variable {H : Type} {enc : TypeId × Value → H} {P : Program} {w : World} {base : Nat} {spare : Nat → Bool} {held : Bool}
theorem struct3_cells {t : TypeId} {f0 f1 f2 : Field} {k0 k1 k2 : IntKind} {fuel : Nat} {cs : List Value} {a b c : Int} {q : List MemPlace}
    (ht : P.underlying t = some (.struct #[f0, f1, f2])) (o0 : f0.offset = 0) (o1 : f1.offset = 1) (o2 : f2.offset = 2) (c0 : P.cellsOf f0.type = 1) (c1 : P.cellsOf f1.type = 1) (c2 : P.cellsOf f2.type = 1)
    (u0 : P.underlying f0.type = some (.int k0)) (u1 : P.underlying f1.type = some (.int k1)) (u2 : P.underlying f2.type = some (.int k2))
    (h : DataW.trod enc P w base spare held fuel t cs = some (.agg [.lit (.int k0 a), .lit (.int k1 b), .lit (.int k2 c)], q)) :
    cs[0]? = some (.int k0 a) ∧ cs[1]? = some (.int k1 b) ∧ cs[2]? = some (.int k2 c) := by
  obtain ⟨ys, n, hn, hy, hlen, hyl, hf⟩ := DataW.trod_struct ht h
  simp only [Prod.mk.injEq, DataW.agg.injEq] at hy
  obtain ⟨hy, -⟩ := hy
  have g0 := hf 0 f0 rfl
  have g1 := hf 1 f1 rfl
  have g2 := hf 2 f2 rfl
  rw [o0, c0] at g0
  rw [o1, c1] at g1
  rw [o2, c2] at g2
  match ys, hyl with
  | [y0, y1, y2], _ =>
    simp at hy
    obtain ⟨h0, h1, h2⟩ := hy
    obtain ⟨z0, e0, x0, _⟩ := DataW.trod_int u0 (g0.trans rfl)
    obtain ⟨z1, e1, x1, _⟩ := DataW.trod_int u1 (g1.trans rfl)
    obtain ⟨z2, e2, x2, _⟩ := DataW.trod_int u2 (g2.trans rfl)
    subst x0 x1 x2
    simp at h0 h1 h2
    subst h0 h1 h2
    have r0 := congrArg (fun l : List Value => l[0]?) e0
    have r1 := congrArg (fun l : List Value => l[0]?) e1
    have r2 := congrArg (fun l : List Value => l[0]?) e2
    simp at r0 r1 r2
    exact ⟨r0, r1, r2⟩
end

theorem nAlpha : Tryd.prog.globalNamed "plumbob/label.alphabets" = some 2 := by kernel_rfl
theorem yAlpha : (Tryd.prog.globals[2]?).map (·.type) = some 68 := by kernel_rfl
theorem cAlpha : Tryd.prog.cellsOf 67 = 3 := by kernel_rfl
theorem cInt : Tryd.prog.cellsOf 3 = 1 := by kernel_rfl
theorem cRune : Tryd.prog.cellsOf 21 = 1 := by kernel_rfl

theorem alpha_of_reads {w : World} (h : VarReads Tryd.prog w "plumbob/label.alphabets" Rows.laid_plumbob_label_alphabets) : AlphaAt w := by
  obtain ⟨g, t, cs, fuel, p, hg, hty, hvar, hd⟩ := h
  obtain rfl := Option.some.inj (nAlpha.symm.trans hg)
  obtain rfl := Option.some.inj (yAlpha.symm.trans hty)
  have row : ∀ (i : Nat) (a b c : Int), i < 3 → [DataW.agg [.lit (.int .i64 1), .lit (.int .i32 97), .lit (.int .i32 122)], .agg [.lit (.int .i64 2), .lit (.int .i32 945), .lit (.int .i32 969)], .agg [.lit (.int .i64 4), .lit (.int .i32 1072), .lit (.int .i32 1103)]][i]? = some (.agg [.lit (.int .i64 a), .lit (.int .i32 b), .lit (.int .i32 c)] : DataW Unit) →
      cs.toList[3 * i]? = some (.int .i64 a) ∧ cs.toList[3 * i + 1]? = some (.int .i32 b) ∧ cs.toList[3 * i + 2]? = some (.int .i32 c) := by
    intro i a b c hi hrow
    obtain ⟨fuel', d, q, hdi, he⟩ := array_elem Tryd.underlying68 hd i hi
    obtain rfl := Option.some.inj (hrow.symm.trans hdi)
    rw [cAlpha] at he
    have := struct3_cells Tryd.underlying67 rfl rfl rfl cInt cRune cRune Tryd.underlying3 Tryd.underlying21 Tryd.underlying21 he
    simp only [List.getElem?_take, List.getElem?_drop] at this
    simpa [Nat.mul_comm] using this
  intro k v hk
  rw [World.var?_cell nAlpha hvar k, ← Array.getElem?_toList]
  have r0 := row 0 1 97 122 (by decide) rfl
  have r1 := row 1 2 945 969 (by decide) rfl
  have r2 := row 2 4 1072 1103 (by decide) rfl
  match k, hk with
  | 0, hk => cases hk; exact r0.1
  | 1, hk => cases hk; exact r0.2.1
  | 2, hk => cases hk; exact r0.2.2
  | 3, hk => cases hk; exact r1.1
  | 4, hk => cases hk; exact r1.2.1
  | 5, hk => cases hk; exact r1.2.2
  | 6, hk => cases hk; exact r2.1
  | 7, hk => cases hk; exact r2.2.1
  | 8, hk => cases hk; exact r2.2.2
  | k + 9, hk => simp [alphaCells] at hk

theorem first_is : Rows.laid_unicode_utf8_first = Lib.firstData := by kernel_rfl
theorem accept_is : Rows.laid_unicode_utf8_acceptRanges = Lib.acceptData := by kernel_rfl
theorem ready_of_laid {w : World} (h : laidMet Tryd.prog [("unicode/utf8.acceptRanges", Rows.laid_unicode_utf8_acceptRanges), ("plumbob/label.alphabets", Rows.laid_plumbob_label_alphabets), ("unicode/utf8.first", Rows.laid_unicode_utf8_first)] w) : Ready w := by
  have hA := alpha_of_reads (Lib.laidMet.reads h (.tail _ (.head _)))
  have hT : TabsAt w := utf8Tabs_of_readsT (U8Types.of196 Tryd.laysValid) ⟨by kernel_rfl, by kernel_rfl, by kernel_rfl, by kernel_rfl, by kernel_rfl, by kernel_rfl, by kernel_rfl⟩ (first_is ▸ Lib.laidMet.reads h (.tail _ (.tail _ (.head _)))) (accept_is ▸ Lib.laidMet.reads h (.head _))
  exact ⟨hA, World.block_lt_of_cell? w _ (hA 0 _ rfl), hT⟩

/-- the settled world, the three variables holding what their texts lay -/
noncomputable def laidWorld (os : Os) : World :=
  let w0 := World.holding Tryd.prog os ⟨#[], #[], []⟩
  let put (h : Array Obj) (g : Nat) (cs : Array Value) : Array Obj := h.modify g fun
    | .cells _ t frozen => .cells cs t frozen
    | o => o
  let h1 := put w0.heap 0 (Lib.firstTab.map fun z => Value.int .u8 z).toArray
  let h2 := put h1 1 ((List.range 16).flatMap fun i => [Value.int .u8 (Lib.accLo i), Value.int .u8 (Lib.accHi i)]).toArray
  let h3 := put h2 2 alphaCells.toArray
  { w0 with heap := h3 }
theorem laid_met (os : Os) (args : Array Value) : laidMet Tryd.prog [("unicode/utf8.acceptRanges", Rows.laid_unicode_utf8_acceptRanges), ("plumbob/label.alphabets", Rows.laid_plumbob_label_alphabets), ("unicode/utf8.first", Rows.laid_unicode_utf8_first)] ((laidWorld os).forCall (fun _ _ => 0) ⟨#[], args, []⟩).memory :=
  (LaidIn.of_run (l := [("unicode/utf8.acceptRanges", Rows.laid_unicode_utf8_acceptRanges), ("plumbob/label.alphabets", Rows.laid_plumbob_label_alphabets), ("unicode/utf8.first", Rows.laid_unicode_utf8_first)]) [1, 2, 0] 8 (by kernel_rfl) (by kernel_rfl) (by kernel_rfl) (by kernel_rfl)).met
theorem own : ownKnob Tryd.prog.godebug = none := by kernel_rfl
end Go.Proofs.YtgolffjiepcbpaaDoor
