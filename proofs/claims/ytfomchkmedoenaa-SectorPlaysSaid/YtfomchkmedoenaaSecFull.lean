/- The walk of the document's Full. -/
import Derived.Test.YtfomchkmedoenaaSecA
namespace Go.Proofs.Ytfomchkmedoenaa
open Go.RowKit

set_option maxHeartbeats 400000 in
theorem full_any (s : ByteArray) (hs : s.size ≤ 1000000000000) (w : World) :
    Calls Try.prog 6 #[.string s] w fun e w' => e = .returned (.string (fullT s)) ∧ w = w' := by
  go_enter Try.func6, Try.ntmps6
  go_wp2_with fail
  go_loop [0] (fun tv => ∃ (k : Nat) (t : ByteArray), tv = .string t ∧ t.size = s.size + k ∧ k ≤ 64 - s.size ∧ Hid (t.data.toList = s.data.toList ++ zeros k)) (fun tv => match tv with | .string t => 64 - t.size | _ => 0)
  case atStart => exact ⟨0, s, rfl, rfl, Nat.zero_le _, by show _ = _; simp [zeros]⟩
  case round =>
    obtain ⟨k, t, rfl, hz, hk, HT⟩ := hrel
    have hz2 : t.size ≤ 1000000000064 := by omega
    have HZ := Lib.hid hz
    by_cases hlt : t.size < 64
    · have hk2 : k + 1 ≤ 64 - s.size := by omega
      clear hz
      have e1 : (⟨#[0]⟩ : ByteArray).size = 1 := rfl
      have hb : t.size + (⟨#[0]⟩ : ByteArray).size ≤ 9223372036854775807 := by rw [e1]; omega
      have e2 : (t ++ (⟨#[0]⟩ : ByteArray)).size = t.size + 1 := by rw [ByteArray.size_append]; rfl
      have E2 := Lib.hid e2
      clear e1 e2
      go_wp2_with fail
      go_round
      case rel =>
        refine ⟨k + 1, _, rfl, by rw [E2.out, HZ.out]; omega, hk2, ?_⟩
        show _ = _
        rw [ByteArray.data_append, Array.toList_append, HT.out]
        simp [zeros, List.replicate_succ']
      case measure => simp only [E2.out]; omega
    · have hk2 : k = 64 - s.size := by omega
      clear hz
      have hge : 64 ≤ t.size := by omega
      go_wp2_with fail
      go_ret
      exact ⟨full_end HT.out hk2, rfl⟩

/-! ### nil -/
end Go.Proofs.Ytfomchkmedoenaa
