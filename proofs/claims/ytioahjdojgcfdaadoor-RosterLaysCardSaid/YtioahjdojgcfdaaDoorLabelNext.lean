/- The walk of the document's Next (plumbobref01). -/
import Derived.Test.YtioahjdojgcfdaaDoorRows
import Derived.Test.YtioahjdojgcfdaaDoorRosterLaysB2
import Derived.WalkSpells
import Derived.WalkLawsBesides
import Derived.Lib.Hide
namespace Go.Proofs.YtioahjdojgcfdaaDoor
open Go.RowKit

theorem tup_eq {A B : Int} {x : Nat × Nat} (h : ∃ a b : Nat, x = (a, b) ∧ A = a ∧ B = b) : Ending.returned (.tuple #[.int .i64 A, .int .i64 B]) = .returned (.tuple #[.int .i64 x.1, .int .i64 x.2]) := by
  obtain ⟨a, b, rfl, rfl, rfl⟩ := h
  rfl

theorem refB_0 {n b0 b1 b2 b3 : Nat} (h : b0 < 128) : refB n b0 b1 b2 b3 = (b0, 1) := by unfold refB; rw [if_pos h]
theorem refB_none {n b0 b1 b2 b3 : Nat} (h : (128 ≤ b0 ∧ b0 < 192) ∨ 248 ≤ b0) : refB n b0 b1 b2 b3 = (0, 0) := by
  unfold refB; rw [if_neg (by omega), if_neg (by omega), if_neg (by omega), if_neg (by omega)]
theorem refB_short {n b0 b1 b2 b3 : Nat} (h : (192 ≤ b0 ∧ b0 < 224 ∧ n < 2) ∨ (224 ≤ b0 ∧ b0 < 240 ∧ n < 3) ∨ (240 ≤ b0 ∧ b0 < 248 ∧ n < 4)) : refB n b0 b1 b2 b3 = (0, 0) := by
  unfold refB
  rcases h with h | h | h
  · rw [if_neg (by omega), if_pos (by omega), if_pos (by omega)]
  · rw [if_neg (by omega), if_neg (by omega), if_pos (by omega), if_pos (by omega)]
  · rw [if_neg (by omega), if_neg (by omega), if_neg (by omega), if_pos (by omega), if_pos (by omega)]

/-- what the walk is told of a text and its first bytes -/
def NextSays (w : World) (s : ByteArray) (x : Nat × Nat) : Prop :=
  Calls Tryd.prog 117 #[.string s] w fun e w' => e = .returned (.tuple #[.int .i64 x.1, .int .i64 x.2]) ∧ w = w'

set_option maxRecDepth 100000 in
set_option maxHeartbeats 1000000 in
theorem next_ascii (s : ByteArray) (h : 0 < s.size) (w : World) (b0 : Nat) (c0 : (s[0]'h).toNat = b0) (h2 : b0 < 128) : NextSays w s (b0, 1) := by
  have hne : ((s.size : Int) == 0) = false := by rw [beq_eq_false_iff_ne]; omega
  go_enter Tryd.func117, Tryd.ntmps117
  go_wp2
  go_ret2
  exact ⟨rfl, rfl⟩

set_option maxRecDepth 100000 in
set_option maxHeartbeats 1000000 in
theorem next_cont (s : ByteArray) (h : 0 < s.size) (w : World) (b0 : Nat) (c0 : (s[0]'h).toNat = b0) (h1 : 128 ≤ b0) (h2 : b0 < 192) : NextSays w s (0, 0) := by
  have hne : ((s.size : Int) == 0) = false := by rw [beq_eq_false_iff_ne]; omega
  go_enter Tryd.func117, Tryd.ntmps117
  go_wp2
  go_ret2
  exact ⟨rfl, rfl⟩

set_option maxRecDepth 100000 in
set_option maxHeartbeats 1000000 in
theorem next_high (s : ByteArray) (h : 0 < s.size) (w : World) (b0 : Nat) (c0 : (s[0]'h).toNat = b0) (h1 : 248 ≤ b0) (h2 : b0 < 256) : NextSays w s (0, 0) := by
  have hne : ((s.size : Int) == 0) = false := by rw [beq_eq_false_iff_ne]; omega
  go_enter Tryd.func117, Tryd.ntmps117
  go_wp2
  go_ret2
  exact ⟨rfl, rfl⟩

set_option maxRecDepth 100000 in
set_option maxHeartbeats 1000000 in
theorem next_short2 (s : ByteArray) (h : 0 < s.size) (w : World) (b0 : Nat) (c0 : (s[0]'h).toNat = b0) (h1 : 192 ≤ b0) (h2 : b0 < 224) (hs : s.size < 2) : NextSays w s (0, 0) := by
  have hne : ((s.size : Int) == 0) = false := by rw [beq_eq_false_iff_ne]; omega
  go_enter Tryd.func117, Tryd.ntmps117
  go_wp2
  go_ret2
  exact ⟨rfl, rfl⟩

set_option maxRecDepth 100000 in
set_option maxHeartbeats 1000000 in
theorem next_short3 (s : ByteArray) (h : 0 < s.size) (w : World) (b0 : Nat) (c0 : (s[0]'h).toNat = b0) (h1 : 224 ≤ b0) (h2 : b0 < 240) (hs : s.size < 3) : NextSays w s (0, 0) := by
  have hne : ((s.size : Int) == 0) = false := by rw [beq_eq_false_iff_ne]; omega
  go_enter Tryd.func117, Tryd.ntmps117
  go_wp2
  go_ret2
  exact ⟨rfl, rfl⟩

set_option maxRecDepth 100000 in
set_option maxHeartbeats 1000000 in
theorem next_short4 (s : ByteArray) (h : 0 < s.size) (w : World) (b0 : Nat) (c0 : (s[0]'h).toNat = b0) (h1 : 240 ≤ b0) (h2 : b0 < 248) (hs : s.size < 4) : NextSays w s (0, 0) := by
  have hne : ((s.size : Int) == 0) = false := by rw [beq_eq_false_iff_ne]; omega
  go_enter Tryd.func117, Tryd.ntmps117
  go_wp2
  go_ret2
  exact ⟨rfl, rfl⟩

set_option maxRecDepth 100000 in
set_option maxHeartbeats 1000000 in
theorem next2_bad (s : ByteArray) (h : 0 < s.size) (w : World) (b0 : Nat) (c0 : (s[0]'h).toNat = b0) (h1 : 192 ≤ b0) (h2 : b0 < 224) (hs : 2 ≤ s.size) (b1 : Nat) (c1 : (s[1]'hs).toNat = b1) (k1 : b1 < 128 ∨ (192 ≤ b1 ∧ b1 < 256)) : NextSays w s (0, 0) := by
  have hne : ((s.size : Int) == 0) = false := by rw [beq_eq_false_iff_ne]; omega
  rcases k1 with k1 | ⟨k1, k2⟩
  all_goals
    go_enter Tryd.func117, Tryd.ntmps117
    go_wp2_with fail
    refine wp_loop_rounds 1 ?_
    rw [rounds_succ]
    go_wp2
    go_ret2
    exact ⟨rfl, rfl⟩

set_option maxRecDepth 100000 in
set_option maxHeartbeats 1000000 in
theorem next2_small (s : ByteArray) (h : 0 < s.size) (w : World) (b0 : Nat) (c0 : (s[0]'h).toNat = b0) (h1 : 192 ≤ b0) (h2 : b0 < 224) (hs : 2 ≤ s.size) (b1 : Nat) (c1 : (s[1]'(by omega)).toNat = b1) (g1 : 128 ≤ b1 ∧ b1 < 192) (v : (b0 - 192) * 64 + (b1 - 128) < 128) : NextSays w s (0, 0) := by
  have hne : ((s.size : Int) == 0) = false := by rw [beq_eq_false_iff_ne]; omega
  obtain ⟨g1, g1'⟩ := g1
  go_enter Tryd.func117, Tryd.ntmps117
  go_wp2_with fail
  refine wp_loop_rounds 2 ?_
  iterate 2 (first | (rw [rounds_succ]; go_wp2) | skip)
  go_ret2
  exact ⟨rfl, rfl⟩

set_option maxRecDepth 100000 in
set_option maxHeartbeats 1000000 in
theorem next2_good (s : ByteArray) (h : 0 < s.size) (w : World) (b0 : Nat) (c0 : (s[0]'h).toNat = b0) (h1 : 192 ≤ b0) (h2 : b0 < 224) (hs : 2 ≤ s.size) (b1 : Nat) (c1 : (s[1]'(by omega)).toNat = b1) (g1 : 128 ≤ b1 ∧ b1 < 192) (v : Nat) (hv : v = (b0 - 192) * 64 + (b1 - 128)) (hv2 : 128 ≤ v) : NextSays w s (v, 2) := by
  have hne : ((s.size : Int) == 0) = false := by rw [beq_eq_false_iff_ne]; omega
  obtain ⟨g1, g1'⟩ := g1
  have HV : Hid (64 * ((b0 : Int) - 192) + (b1 : Int) - 128 = (v : Int)) := by show _ = _; omega
  have hge : 128 ≤ 64 * ((b0 : Int) - 192) + (b1 : Int) - 128 := by omega
  clear hv hv2
  go_enter Tryd.func117, Tryd.ntmps117
  go_wp2_with fail
  refine wp_loop_rounds 2 ?_
  iterate 2 (first | (rw [rounds_succ]; go_wp2) | skip)
  go_ret2
  refine ⟨?_, rfl⟩
  show Ending.returned (.tuple #[.int .i64 (64 * ((b0 : Int) - 192) + (b1 : Int) - 128), .int .i64 2]) = _
  rw [HV.out]
  rfl

end Go.Proofs.YtioahjdojgcfdaaDoor
