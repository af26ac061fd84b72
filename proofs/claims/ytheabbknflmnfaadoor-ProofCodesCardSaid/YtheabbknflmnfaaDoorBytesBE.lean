/- Texts out of rows of bytes. No walk. · Arrays of sixteen bytes: sliced, loaded, held against one another. No walk. -/
import Derived.Test.YtheabbknflmnfaaDoorMem
import Derived.Test.YtheabbknflmnfaaDoorOctetSpec
import Derived.Laws.IdiomStrings
import Derived.ChangeKeysEq
namespace Go.Proofs.YtheabbknflmnfaaDoor
open Go.RowKit

def bytesV (l : List UInt8) : List Value := l.map fun c => .int .u8 c.toNat
theorem infoB : (Tryd.prog.info? 5).map (fun i => (i.zero, i.size, i.bytes)) = some (some (.int .u8 0), 1, 1) := by kernel_rfl
theorem made_bytes (n : Nat) : (madeCells #[Value.int .u8 0] n).toList = bytesV (List.replicate n 0) := by
  apply List.ext_getElem?
  intro i
  simp [madeCells, bytesV, List.getElem?_replicate]
  by_cases h : i < n <;> simp [h, Nat.mod_one]
/-- 'string(b)', b a row of the call's own that holds bytes -/
theorem own_str {wr : World} {B g k cap : Nat} {l : List UInt8} (h : wr.ownsRow B 5 1 (.slice (some ⟨g, 0, none⟩) k cap) k (bytesV l)) :
    (convert 74 9 (.slice (some ⟨g, 0, none⟩) k cap)).run Tryd.prog wr = .ok (.string (str l)) wr := by
  have hl : l.length = k := by simpa [bytesV] using h.1
  subst hl
  refine run_convert_bytes_back wr 74 9 5 _ cap l Tryd.underlying74 Tryd.underlying5 Tryd.underlying9 fun j hj => ?_
  rw [show Addr.add ⟨g, 0, none⟩ j = (⟨g, j, none⟩ : Addr) from by simp [Addr.add]; omega, h.cellAt j (by simpa using hj)]
  simp [bytesV, List.getElem?_eq_getElem hj]
/-- 'string(b[:])', b a block of bytes -/
theorem blk_str {w : World} {g : Nat} {l : List UInt8} {t : TypeId} (h : w.heap[g]? = some (.cells (bytesV l).toArray t (0, 0))) (cap : Nat) :
    (convert 74 9 (.slice (some ⟨g, 0, none⟩) l.length cap)).run Tryd.prog w = .ok (.string (str l)) w := by
  refine run_convert_bytes_back w 74 9 5 _ cap l Tryd.underlying74 Tryd.underlying5 Tryd.underlying9 fun j hj => ?_
  rw [show Addr.add ⟨g, 0, none⟩ j = (⟨g, j, none⟩ : Addr) from by simp [Addr.add]; omega, cell_of h, List.getElem?_toArray]
  simp [bytesV, List.getElem?_eq_getElem hj]
end Go.Proofs.YtheabbknflmnfaaDoor

namespace Go.Proofs.YtheabbknflmnfaaDoor
open Go.RowKit

theorem sixteen_size (l : List UInt8) (h : l.length = 16) : (bytesV l).toArray.size = 16 := by simp [bytesV, h]
theorem sixteen_info (l : List UInt8) (h : l.length = 16) : (Tryd.prog.info? 99).map (·.size) = some (bytesV l).toArray.size := by
  have e : (Tryd.prog.info? 99).map (·.size) = some 16 := by kernel_rfl
  rw [e, sixteen_size l h]
theorem slice_sixteen (B : Nat) (w : World) : (Instr.sliceAt 99 (.pointer (some ⟨B, 0, none⟩)) none none none).run Tryd.prog w = .ok (.slice (some ⟨B, 0, none⟩) 16 16) w := by
  have hl : Tryd.prog.arrayLen 99 = 16 := by kernel_rfl
  have he : Tryd.prog.elem 99 = 5 := by kernel_rfl
  obtain ⟨i0, h0⟩ : ∃ i0, Tryd.prog.info? 5 = some i0 := Option.isSome_iff_exists.1 (by kernel_rfl)
  have hc : Tryd.prog.cellsOf 5 = 1 := by kernel_rfl
  rw [run_sliceAt_array_all w 99 ⟨B, 0, none⟩ (by rw [hl, he]; exact Tryd.underlying99), hl, he, run_sizeOf w h0, hc]
  simp [Result.andThen, slicedAt, Addr.add]
theorem eqItems_bytes (d : Nat) (la lb : List UInt8) (w : World) : ∀ is : List Nat, (∀ i ∈ is, i < la.length ∧ i < lb.length) →
    (Op.eqItems (d + 1) 5 1 (bytesV la).toArray (bytesV lb).toArray is).run Tryd.prog w = .ok (is.all fun i => la.getD i 0 == lb.getD i 0) w
  | [], _ => by simp [Op.eqItems]
  | i :: is, h => by
    have hp : Tryd.prog.plainKey 5 = true := by kernel_rfl
    obtain ⟨ha, hb⟩ := h i (by simp)
    have xa : (bytesV la).toArray[i * 1]? = some (.int .u8 (la.getD i 0).toNat) := by
      simp [bytesV, List.getElem?_eq_getElem ha, List.getD_eq_getElem?_getD]
    have xb : (bytesV lb).toArray[i * 1]? = some (.int .u8 (lb.getD i 0).toNat) := by
      simp [bytesV, List.getElem?_eq_getElem hb, List.getD_eq_getElem?_getD]
    have ih := eqItems_bytes d la lb w is (fun j hj => h j (by simp [hj]))
    have e : (((la.getD i 0).toNat : Int) == ((lb.getD i 0).toNat : Int)) = (la.getD i 0 == lb.getD i 0) := by
      rw [Bool.eq_iff_iff, beq_iff_eq, beq_iff_eq, ← UInt8.toNat_inj]
      omega
    simp only [Op.eqItems, Sem.run_bind, run_part_plain w hp xa, run_part_plain w hp xb, Result.andThen_ok, run_equalIn_int w d _ _ _ _ _ Tryd.underlying5, e, List.all_cons]
    cases la.getD i 0 == lb.getD i 0
    · simp
    · simpa using ih
set_option maxRecDepth 100000 in
theorem sixteen_eq (la lb : List UInt8) (ha : la.length = 16) (hb : lb.length = 16) (w : World) :
    (Op.equalIn 10000 99 (.agg (bytesV la).toArray) (.agg (bytesV lb).toArray)).run Tryd.prog w = .ok (la == lb) w := by
  obtain ⟨i0, h0⟩ : ∃ i0, Tryd.prog.info? 5 = some i0 := Option.isSome_iff_exists.1 (by kernel_rfl)
  have hc : Tryd.prog.cellsOf 5 = 1 := by kernel_rfl
  rw [run_equalIn_array w 9999 _ _ Tryd.underlying99 h0, hc, eqItems_bytes 9998 la lb w _ (fun i hi => by have := List.mem_range.1 hi; omega)]
  congr 1
  rw [Bool.eq_iff_iff, List.all_eq_true, beq_iff_eq]
  constructor
  · intro h
    apply List.ext_getElem (by omega)
    intro i h1 h2
    have := h i (List.mem_range.2 (by omega))
    simpa [List.getD_eq_getElem?_getD, List.getElem?_eq_getElem h1, List.getElem?_eq_getElem h2] using this
  · rintro rfl
    simp
end Go.Proofs.YtheabbknflmnfaaDoor
