/- The walks of octet.number, numMayBe, and of a Writer's calls. -/
import Derived.Test.YtgolffjiepcbpaaRows
import Derived.Test.YtgolffjiepcbpaaOctetSpec
import Derived.WalkSpells
import Derived.WalkLawsBesides
import Derived.Lib.Hide
import Derived.Laws.IdiomStrings
namespace Go.Proofs.Ytgolffjiepcbpaa
open Go.RowKit

set_option maxHeartbeats 400000 in
theorem numMayBe_any (k : Int) (w : World) :
    Calls Try.prog 17 #[.int .i64 k] w fun e w' => e = .returned (.bool (decide (1 ≤ k) && decide (k ≤ 8))) ∧ w = w' := by
  by_cases h1 : 1 ≤ k
  · go_enter Try.func17, Try.ntmps17
    go_wp2
    go_ret
    exact ⟨by simp [h1], rfl⟩
  · go_enter Try.func17, Try.ntmps17
    go_wp2
    go_ret
    have h0 : decide (1 ≤ k) = false := decide_eq_false (by omega)
    exact ⟨by rw [h0]; rfl, rfl⟩

theorem infoByte : (Try.prog.info? 5).map (fun i => (i.zero, i.size, i.bytes)) = some (some (.int .u8 0), 1, 1) := by kernel_rfl

/-- 'string(b)', b a row of the call's own that holds bytes -/
theorem own_string {wr : World} {B g k cap : Nat} {l : List UInt8} (h : wr.ownsRow B 5 1 (.slice (some ⟨g, 0, none⟩) k cap) k (l.map fun c => .int .u8 c.toNat)) :
    (convert 49 9 (.slice (some ⟨g, 0, none⟩) k cap)).run Try.prog wr = .ok (.string (str l)) wr := by
  have hl : l.length = k := by simpa using h.1
  subst hl
  refine run_convert_bytes_back wr 49 9 5 _ cap l Try.underlying49 Try.underlying5 Try.underlying9 fun j hj => ?_
  rw [show Addr.add ⟨g, 0, none⟩ j = (⟨g, j, none⟩ : Addr) from by simp [Addr.add]; omega, h.cellAt j (by simpa using hj)]
  simp [List.getElem?_eq_getElem hj]

set_option maxHeartbeats 400000 in
theorem number_any (n : Nat) (k : Nat) (hn : n ≤ 18446744073709551615) (hk : k ≤ 8) (w : World) :
    Calls Try.prog 20 #[.int .u64 n, .int .i64 k] w fun e w' => e = .returned (.string (str (be n k))) ∧ Below w.heap.size w w' := by
  obtain ⟨i0, hi, hz0, hz1, hz2⟩ := info_parts infoByte
  go_enter Try.func20, Try.ntmps20
  go_wp2_with (at_make; refine wpList_make_full _ rfl _ _ 49 rfl w.heap.size 5 i0 (.int .u8 0) 1 Try.underlying49 hi hz0 hz1 _ _ _ _ k rfl rfl rfl rfl ?c1 ?c2 ?c3 ?_)
  case c1 => rw [hz2]; omega
  case c2 => unfold maxLen; omega
  case c3 => omega
  intro w1 hown hg
  rw [rowAt_zero n] at hown
  go_wp2_with fail
  go_loopw [6, 10] (fun _ i wr => ∃ j : Nat, j ≤ k ∧ i = .int .i64 j ∧ wr.ownsRow w.heap.size 5 1 (.slice (some ⟨w.heap.size, 0, none⟩) k k) k (rowAt n k j) ∧ Below w.heap.size w wr)
    (fun _ i _ => k - (intOf i).toNat)
  case atStart => exact ⟨0, Nat.zero_le _, rfl, hown, (Below.refl _ _).grown hg (Nat.le_refl _) (by intro k h; cases h)⟩
  case round =>
    clear hown hg
    obtain ⟨j, hj, rfl, hown, hb⟩ := hrel
    have hf := fun x => hown.frozenAt x
    by_cases hlt : j < k
    · have hc : wr.cell? ⟨w.heap.size, k - 1 - j, none⟩ = some (.int .u8 0) := by
        rw [hown.cellAt _ (by omega), rowAt_cell n k j hlt]
      go_wp2
      go_roundw
      case rel =>
        refine ⟨j + 1, by omega, by go_num, ?_, hb.setCell (Nat.le_refl _) _⟩
        rw [rowAt_succ n k j hlt]
        exact (hown.stored _ _).1
      case measure => simp [intOf]; omega
    · have : j = k := by omega
      subst this
      rw [rowAt_end] at hown
      have hs := own_string hown
      go_wp2
      go_ret
      exact ⟨rfl, hb⟩
end Go.Proofs.Ytgolffjiepcbpaa
