/- The walk of the document's Next (plumbobref01): runes of three and four bytes. -/
import Derived.Test.YtioahjdojgcfdaaDoorLabelNext
namespace Go.Proofs.YtioahjdojgcfdaaDoor
open Go.RowKit

set_option maxRecDepth 100000 in
set_option maxHeartbeats 1000000 in
theorem next3_bad1 (s : ByteArray) (h : 0 < s.size) (w : World) (b0 : Nat) (c0 : (s[0]'h).toNat = b0) (h1 : 224 ≤ b0) (h2 : b0 < 240) (hs : 3 ≤ s.size) (b1 : Nat) (c1 : (s[1]'(by omega)).toNat = b1) (k1 : b1 < 128 ∨ (192 ≤ b1 ∧ b1 < 256)) : NextSays w s (0, 0) := by
  have hne : ((s.size : Int) == 0) = false := by rw [beq_eq_false_iff_ne]; omega
  rcases k1 with k1 | ⟨k1, k2⟩
  all_goals
    go_enter Tryd.func117, Tryd.ntmps117
    go_wp2_with fail
    refine wp_loop_rounds 1 ?_
    iterate 1 (first | (rw [rounds_succ]; go_wp2) | skip)
    go_ret2
    exact ⟨rfl, rfl⟩

set_option maxRecDepth 100000 in
set_option maxHeartbeats 1000000 in
theorem next3_bad2 (s : ByteArray) (h : 0 < s.size) (w : World) (b0 : Nat) (c0 : (s[0]'h).toNat = b0) (h1 : 224 ≤ b0) (h2 : b0 < 240) (hs : 3 ≤ s.size) (b1 : Nat) (c1 : (s[1]'(by omega)).toNat = b1) (g1 : 128 ≤ b1 ∧ b1 < 192) (b2 : Nat) (c2 : (s[2]'(by omega)).toNat = b2) (k2 : b2 < 128 ∨ (192 ≤ b2 ∧ b2 < 256)) : NextSays w s (0, 0) := by
  have hne : ((s.size : Int) == 0) = false := by rw [beq_eq_false_iff_ne]; omega
  obtain ⟨g1, g1'⟩ := g1
  rcases k2 with k1 | ⟨k1, k2⟩
  all_goals
    go_enter Tryd.func117, Tryd.ntmps117
    go_wp2_with fail
    refine wp_loop_rounds 2 ?_
    iterate 2 (first | (rw [rounds_succ]; go_wp2) | skip)
    go_ret2
    exact ⟨rfl, rfl⟩

set_option maxRecDepth 100000 in
set_option maxHeartbeats 1000000 in
theorem next4_bad1 (s : ByteArray) (h : 0 < s.size) (w : World) (b0 : Nat) (c0 : (s[0]'h).toNat = b0) (h1 : 240 ≤ b0) (h2 : b0 < 248) (hs : 4 ≤ s.size) (b1 : Nat) (c1 : (s[1]'(by omega)).toNat = b1) (k1 : b1 < 128 ∨ (192 ≤ b1 ∧ b1 < 256)) : NextSays w s (0, 0) := by
  have hne : ((s.size : Int) == 0) = false := by rw [beq_eq_false_iff_ne]; omega
  rcases k1 with k1 | ⟨k1, k2⟩
  all_goals
    go_enter Tryd.func117, Tryd.ntmps117
    go_wp2_with fail
    refine wp_loop_rounds 1 ?_
    iterate 1 (first | (rw [rounds_succ]; go_wp2) | skip)
    go_ret2
    exact ⟨rfl, rfl⟩

set_option maxRecDepth 100000 in
set_option maxHeartbeats 1000000 in
theorem next4_bad2 (s : ByteArray) (h : 0 < s.size) (w : World) (b0 : Nat) (c0 : (s[0]'h).toNat = b0) (h1 : 240 ≤ b0) (h2 : b0 < 248) (hs : 4 ≤ s.size) (b1 : Nat) (c1 : (s[1]'(by omega)).toNat = b1) (g1 : 128 ≤ b1 ∧ b1 < 192) (b2 : Nat) (c2 : (s[2]'(by omega)).toNat = b2) (k2 : b2 < 128 ∨ (192 ≤ b2 ∧ b2 < 256)) : NextSays w s (0, 0) := by
  have hne : ((s.size : Int) == 0) = false := by rw [beq_eq_false_iff_ne]; omega
  obtain ⟨g1, g1'⟩ := g1
  rcases k2 with k1 | ⟨k1, k2⟩
  all_goals
    go_enter Tryd.func117, Tryd.ntmps117
    go_wp2_with fail
    refine wp_loop_rounds 2 ?_
    iterate 2 (first | (rw [rounds_succ]; go_wp2) | skip)
    go_ret2
    exact ⟨rfl, rfl⟩

set_option maxRecDepth 100000 in
set_option maxHeartbeats 1000000 in
theorem next4_bad3 (s : ByteArray) (h : 0 < s.size) (w : World) (b0 : Nat) (c0 : (s[0]'h).toNat = b0) (h1 : 240 ≤ b0) (h2 : b0 < 248) (hs : 4 ≤ s.size) (b1 : Nat) (c1 : (s[1]'(by omega)).toNat = b1) (g1 : 128 ≤ b1 ∧ b1 < 192) (b2 : Nat) (c2 : (s[2]'(by omega)).toNat = b2) (g2 : 128 ≤ b2 ∧ b2 < 192) (b3 : Nat) (c3 : (s[3]'(by omega)).toNat = b3) (k3 : b3 < 128 ∨ (192 ≤ b3 ∧ b3 < 256)) : NextSays w s (0, 0) := by
  have hne : ((s.size : Int) == 0) = false := by rw [beq_eq_false_iff_ne]; omega
  obtain ⟨g1, g1'⟩ := g1
  obtain ⟨g2, g2'⟩ := g2
  rcases k3 with k1 | ⟨k1, k2⟩
  all_goals
    go_enter Tryd.func117, Tryd.ntmps117
    go_wp2_with fail
    refine wp_loop_rounds 3 ?_
    iterate 3 (first | (rw [rounds_succ]; go_wp2) | skip)
    go_ret2
    exact ⟨rfl, rfl⟩

set_option maxRecDepth 100000 in
set_option maxHeartbeats 1000000 in
theorem next3_small (s : ByteArray) (h : 0 < s.size) (w : World) (b0 : Nat) (c0 : (s[0]'h).toNat = b0) (h1 : 224 ≤ b0) (h2 : b0 < 240) (hs : 3 ≤ s.size) (b1 : Nat) (c1 : (s[1]'(by omega)).toNat = b1) (g1 : 128 ≤ b1 ∧ b1 < 192) (b2 : Nat) (c2 : (s[2]'(by omega)).toNat = b2) (g2 : 128 ≤ b2 ∧ b2 < 192) (v : Nat) (hv : v = (b0 - 224) * 4096 + (b1 - 128) * 64 + (b2 - 128)) (hv2 : v < 2048) : NextSays w s (0, 0) := by
  have hne : ((s.size : Int) == 0) = false := by rw [beq_eq_false_iff_ne]; omega
  obtain ⟨g1, g1'⟩ := g1
  obtain ⟨g2, g2'⟩ := g2
  have q1 : 64 * (64 * ((b0 : Int) - 224) + (b1 : Int) - 128) + (b2 : Int) - 128 < 2048 := by omega
  clear hv
  go_enter Tryd.func117, Tryd.ntmps117
  go_wp2_with fail
  refine wp_loop_rounds 3 ?_
  iterate 3 (first | (rw [rounds_succ]; go_wp2) | skip)
  go_ret2
  exact ⟨rfl, rfl⟩

set_option maxRecDepth 100000 in
set_option maxHeartbeats 1000000 in
theorem next3_sur (s : ByteArray) (h : 0 < s.size) (w : World) (b0 : Nat) (c0 : (s[0]'h).toNat = b0) (h1 : 224 ≤ b0) (h2 : b0 < 240) (hs : 3 ≤ s.size) (b1 : Nat) (c1 : (s[1]'(by omega)).toNat = b1) (g1 : 128 ≤ b1 ∧ b1 < 192) (b2 : Nat) (c2 : (s[2]'(by omega)).toNat = b2) (g2 : 128 ≤ b2 ∧ b2 < 192) (v : Nat) (hv : v = (b0 - 224) * 4096 + (b1 - 128) * 64 + (b2 - 128)) (hv2 : 55296 ≤ v ∧ v < 57344) : NextSays w s (0, 0) := by
  have hne : ((s.size : Int) == 0) = false := by rw [beq_eq_false_iff_ne]; omega
  obtain ⟨g1, g1'⟩ := g1
  obtain ⟨g2, g2'⟩ := g2
  have q1 : 55296 ≤ 64 * (64 * ((b0 : Int) - 224) + (b1 : Int) - 128) + (b2 : Int) - 128 := by omega
  have q2 : 64 * (64 * ((b0 : Int) - 224) + (b1 : Int) - 128) + (b2 : Int) - 128 < 57344 := by omega
  clear hv
  go_enter Tryd.func117, Tryd.ntmps117
  go_wp2_with fail
  refine wp_loop_rounds 3 ?_
  iterate 3 (first | (rw [rounds_succ]; go_wp2) | skip)
  go_ret2
  exact ⟨rfl, rfl⟩

set_option maxRecDepth 100000 in
set_option maxHeartbeats 1000000 in
theorem next3_goodA (s : ByteArray) (h : 0 < s.size) (w : World) (b0 : Nat) (c0 : (s[0]'h).toNat = b0) (h1 : 224 ≤ b0) (h2 : b0 < 240) (hs : 3 ≤ s.size) (b1 : Nat) (c1 : (s[1]'(by omega)).toNat = b1) (g1 : 128 ≤ b1 ∧ b1 < 192) (b2 : Nat) (c2 : (s[2]'(by omega)).toNat = b2) (g2 : 128 ≤ b2 ∧ b2 < 192) (v : Nat) (hv : v = (b0 - 224) * 4096 + (b1 - 128) * 64 + (b2 - 128)) (hv2 : 2048 ≤ v ∧ v < 55296) : NextSays w s (v, 3) := by
  have hne : ((s.size : Int) == 0) = false := by rw [beq_eq_false_iff_ne]; omega
  obtain ⟨g1, g1'⟩ := g1
  obtain ⟨g2, g2'⟩ := g2
  have HV : Hid (64 * (64 * ((b0 : Int) - 224) + (b1 : Int) - 128) + (b2 : Int) - 128 = (v : Int)) := by show _ = _; omega
  have q1 : 2048 ≤ 64 * (64 * ((b0 : Int) - 224) + (b1 : Int) - 128) + (b2 : Int) - 128 := by omega
  have q2 : 64 * (64 * ((b0 : Int) - 224) + (b1 : Int) - 128) + (b2 : Int) - 128 < 55296 := by omega
  clear hv
  go_enter Tryd.func117, Tryd.ntmps117
  go_wp2_with fail
  refine wp_loop_rounds 3 ?_
  iterate 3 (first | (rw [rounds_succ]; go_wp2) | skip)
  go_ret2
  refine ⟨?_, rfl⟩
  show Ending.returned (.tuple #[.int .i64 (64 * (64 * ((b0 : Int) - 224) + (b1 : Int) - 128) + (b2 : Int) - 128), .int .i64 3]) = _
  first | (rw [HV.out]; done) | (rw [HV.out]; rfl)

set_option maxRecDepth 100000 in
set_option maxHeartbeats 1000000 in
theorem next3_goodB (s : ByteArray) (h : 0 < s.size) (w : World) (b0 : Nat) (c0 : (s[0]'h).toNat = b0) (h1 : 224 ≤ b0) (h2 : b0 < 240) (hs : 3 ≤ s.size) (b1 : Nat) (c1 : (s[1]'(by omega)).toNat = b1) (g1 : 128 ≤ b1 ∧ b1 < 192) (b2 : Nat) (c2 : (s[2]'(by omega)).toNat = b2) (g2 : 128 ≤ b2 ∧ b2 < 192) (v : Nat) (hv : v = (b0 - 224) * 4096 + (b1 - 128) * 64 + (b2 - 128)) (hv2 : 57344 ≤ v) : NextSays w s (v, 3) := by
  have hne : ((s.size : Int) == 0) = false := by rw [beq_eq_false_iff_ne]; omega
  obtain ⟨g1, g1'⟩ := g1
  obtain ⟨g2, g2'⟩ := g2
  have HV : Hid (64 * (64 * ((b0 : Int) - 224) + (b1 : Int) - 128) + (b2 : Int) - 128 = (v : Int)) := by show _ = _; omega
  have q1 : 57344 ≤ 64 * (64 * ((b0 : Int) - 224) + (b1 : Int) - 128) + (b2 : Int) - 128 := by omega
  clear hv
  go_enter Tryd.func117, Tryd.ntmps117
  go_wp2_with fail
  refine wp_loop_rounds 3 ?_
  iterate 3 (first | (rw [rounds_succ]; go_wp2) | skip)
  go_ret2
  refine ⟨?_, rfl⟩
  show Ending.returned (.tuple #[.int .i64 (64 * (64 * ((b0 : Int) - 224) + (b1 : Int) - 128) + (b2 : Int) - 128), .int .i64 3]) = _
  first | (rw [HV.out]; done) | (rw [HV.out]; rfl)

set_option maxRecDepth 100000 in
set_option maxHeartbeats 1000000 in
theorem next4_small (s : ByteArray) (h : 0 < s.size) (w : World) (b0 : Nat) (c0 : (s[0]'h).toNat = b0) (h1 : 240 ≤ b0) (h2 : b0 < 248) (hs : 4 ≤ s.size) (b1 : Nat) (c1 : (s[1]'(by omega)).toNat = b1) (g1 : 128 ≤ b1 ∧ b1 < 192) (b2 : Nat) (c2 : (s[2]'(by omega)).toNat = b2) (g2 : 128 ≤ b2 ∧ b2 < 192) (b3 : Nat) (c3 : (s[3]'(by omega)).toNat = b3) (g3 : 128 ≤ b3 ∧ b3 < 192) (v : Nat) (hv : v = (b0 - 240) * 262144 + (b1 - 128) * 4096 + (b2 - 128) * 64 + (b3 - 128)) (hv2 : v < 65536) : NextSays w s (0, 0) := by
  have hne : ((s.size : Int) == 0) = false := by rw [beq_eq_false_iff_ne]; omega
  obtain ⟨g1, g1'⟩ := g1
  obtain ⟨g2, g2'⟩ := g2
  obtain ⟨g3, g3'⟩ := g3
  have q1 : 64 * (64 * (64 * ((b0 : Int) - 240) + (b1 : Int) - 128) + (b2 : Int) - 128) + (b3 : Int) - 128 < 65536 := by omega
  clear hv
  go_enter Tryd.func117, Tryd.ntmps117
  go_wp2_with fail
  refine wp_loop_rounds 4 ?_
  iterate 4 (first | (rw [rounds_succ]; go_wp2) | skip)
  go_ret2
  exact ⟨rfl, rfl⟩

set_option maxRecDepth 100000 in
set_option maxHeartbeats 1000000 in
theorem next4_great (s : ByteArray) (h : 0 < s.size) (w : World) (b0 : Nat) (c0 : (s[0]'h).toNat = b0) (h1 : 240 ≤ b0) (h2 : b0 < 248) (hs : 4 ≤ s.size) (b1 : Nat) (c1 : (s[1]'(by omega)).toNat = b1) (g1 : 128 ≤ b1 ∧ b1 < 192) (b2 : Nat) (c2 : (s[2]'(by omega)).toNat = b2) (g2 : 128 ≤ b2 ∧ b2 < 192) (b3 : Nat) (c3 : (s[3]'(by omega)).toNat = b3) (g3 : 128 ≤ b3 ∧ b3 < 192) (v : Nat) (hv : v = (b0 - 240) * 262144 + (b1 - 128) * 4096 + (b2 - 128) * 64 + (b3 - 128)) (hv2 : 1114111 < v) : NextSays w s (0, 0) := by
  have hne : ((s.size : Int) == 0) = false := by rw [beq_eq_false_iff_ne]; omega
  obtain ⟨g1, g1'⟩ := g1
  obtain ⟨g2, g2'⟩ := g2
  obtain ⟨g3, g3'⟩ := g3
  have q1 : 1114111 < 64 * (64 * (64 * ((b0 : Int) - 240) + (b1 : Int) - 128) + (b2 : Int) - 128) + (b3 : Int) - 128 := by omega
  clear hv
  go_enter Tryd.func117, Tryd.ntmps117
  go_wp2_with fail
  refine wp_loop_rounds 4 ?_
  iterate 4 (first | (rw [rounds_succ]; go_wp2) | skip)
  go_ret2
  exact ⟨rfl, rfl⟩

set_option maxRecDepth 100000 in
set_option maxHeartbeats 1000000 in
theorem next4_good (s : ByteArray) (h : 0 < s.size) (w : World) (b0 : Nat) (c0 : (s[0]'h).toNat = b0) (h1 : 240 ≤ b0) (h2 : b0 < 248) (hs : 4 ≤ s.size) (b1 : Nat) (c1 : (s[1]'(by omega)).toNat = b1) (g1 : 128 ≤ b1 ∧ b1 < 192) (b2 : Nat) (c2 : (s[2]'(by omega)).toNat = b2) (g2 : 128 ≤ b2 ∧ b2 < 192) (b3 : Nat) (c3 : (s[3]'(by omega)).toNat = b3) (g3 : 128 ≤ b3 ∧ b3 < 192) (v : Nat) (hv : v = (b0 - 240) * 262144 + (b1 - 128) * 4096 + (b2 - 128) * 64 + (b3 - 128)) (hv2 : 65536 ≤ v ∧ v ≤ 1114111) : NextSays w s (v, 4) := by
  have hne : ((s.size : Int) == 0) = false := by rw [beq_eq_false_iff_ne]; omega
  obtain ⟨g1, g1'⟩ := g1
  obtain ⟨g2, g2'⟩ := g2
  obtain ⟨g3, g3'⟩ := g3
  have HV : Hid (64 * (64 * (64 * ((b0 : Int) - 240) + (b1 : Int) - 128) + (b2 : Int) - 128) + (b3 : Int) - 128 = (v : Int)) := by show _ = _; omega
  have q1 : 65536 ≤ 64 * (64 * (64 * ((b0 : Int) - 240) + (b1 : Int) - 128) + (b2 : Int) - 128) + (b3 : Int) - 128 := by omega
  have q2 : 64 * (64 * (64 * ((b0 : Int) - 240) + (b1 : Int) - 128) + (b2 : Int) - 128) + (b3 : Int) - 128 ≤ 1114111 := by omega
  clear hv
  go_enter Tryd.func117, Tryd.ntmps117
  go_wp2_with fail
  refine wp_loop_rounds 4 ?_
  iterate 4 (first | (rw [rounds_succ]; go_wp2) | skip)
  go_ret2
  refine ⟨?_, rfl⟩
  show Ending.returned (.tuple #[.int .i64 (64 * (64 * (64 * ((b0 : Int) - 240) + (b1 : Int) - 128) + (b2 : Int) - 128) + (b3 : Int) - 128), .int .i64 4]) = _
  first | (rw [HV.out]; done) | (rw [HV.out]; rfl)


set_option maxHeartbeats 400000 in
theorem next_empty (s : ByteArray) (h : s.size = 0) (w : World) : NextSays w s (0, 0) := by
  have hne : ((s.size : Int) == 0) = true := by rw [beq_iff_eq]; omega
  go_enter Tryd.func117, Tryd.ntmps117
  go_wp2
  go_ret2
  exact ⟨rfl, rfl⟩

theorem refNext_by (s : ByteArray) (h : 0 < s.size) (w : World) (b0 b1 b2 b3 : Nat) (c0 : (s[0]'h).toNat = b0) (c1 : ∀ h : 1 < s.size, (s[1]'h).toNat = b1) (c2 : ∀ h : 2 < s.size, (s[2]'h).toNat = b2) (c3 : ∀ h : 3 < s.size, (s[3]'h).toNat = b3)
    (l0 : b0 < 256) (l1 : b1 < 256) (l2 : b2 < 256) (l3 : b3 < 256) : NextSays w s (refB s.size b0 b1 b2 b3) := by
  by_cases a0 : b0 < 128
  · rw [refB_0 a0]; exact next_ascii s h w b0 c0 a0
  by_cases a1 : b0 < 192
  · rw [refB_none (.inl ⟨by omega, a1⟩)]; exact next_cont s h w b0 c0 (by omega) a1
  by_cases a2 : b0 < 224
  · by_cases hs : s.size < 2
    · rw [refB_short (.inl ⟨by omega, a2, hs⟩)]; exact next_short2 s h w b0 c0 (by omega) a2 hs
    · have e : refB s.size b0 b1 b2 b3 = if b1 < 128 ∨ 192 ≤ b1 then (0, 0) else if (b0 - 192) * 64 + (b1 - 128) < 128 then (0, 0) else ((b0 - 192) * 64 + (b1 - 128), 2) := by
        unfold refB; rw [if_neg a0, if_pos (by omega), if_neg hs]
      rw [e]
      by_cases k1 : b1 < 128 ∨ 192 ≤ b1
      · rw [if_pos k1]; exact next2_bad s h w b0 c0 (by omega) a2 (by omega) b1 (c1 _) (by omega)
      · rw [if_neg k1]
        by_cases v : (b0 - 192) * 64 + (b1 - 128) < 128
        · rw [if_pos v]; exact next2_small s h w b0 c0 (by omega) a2 (by omega) b1 (c1 _) (by omega) v
        · rw [if_neg v]; exact next2_good s h w b0 c0 (by omega) a2 (by omega) b1 (c1 _) (by omega) _ rfl (by omega)
  by_cases a3 : b0 < 240
  · by_cases hs : s.size < 3
    · rw [refB_short (.inr (.inl ⟨by omega, a3, hs⟩))]; exact next_short3 s h w b0 c0 (by omega) a3 hs
    · obtain ⟨v, hv⟩ : ∃ v, v = (b0 - 224) * 4096 + (b1 - 128) * 64 + (b2 - 128) := ⟨_, rfl⟩
      have e : refB s.size b0 b1 b2 b3 = if b1 < 128 ∨ 192 ≤ b1 then (0, 0) else if b2 < 128 ∨ 192 ≤ b2 then (0, 0) else if v < 2048 ∨ (55296 ≤ v ∧ v < 57344) then (0, 0) else (v, 3) := by
        unfold refB; rw [if_neg a0, if_neg (by omega), if_pos (by omega), if_neg hs, ← hv]
      rw [e]
      by_cases k1 : b1 < 128 ∨ 192 ≤ b1
      · rw [if_pos k1]; exact next3_bad1 s h w b0 c0 (by omega) a3 (by omega) b1 (c1 _) (by omega)
      rw [if_neg k1]
      by_cases k2 : b2 < 128 ∨ 192 ≤ b2
      · rw [if_pos k2]; exact next3_bad2 s h w b0 c0 (by omega) a3 (by omega) b1 (c1 _) (by omega) b2 (c2 _) (by omega)
      rw [if_neg k2]
      by_cases q : v < 2048
      · rw [if_pos (.inl q)]; exact next3_small s h w b0 c0 (by omega) a3 (by omega) b1 (c1 _) (by omega) b2 (c2 _) (by omega) v hv q
      by_cases q2 : 55296 ≤ v ∧ v < 57344
      · rw [if_pos (.inr q2)]; exact next3_sur s h w b0 c0 (by omega) a3 (by omega) b1 (c1 _) (by omega) b2 (c2 _) (by omega) v hv q2
      rw [if_neg (by omega)]
      by_cases q3 : v < 55296
      · exact next3_goodA s h w b0 c0 (by omega) a3 (by omega) b1 (c1 _) (by omega) b2 (c2 _) (by omega) v hv (by omega)
      · exact next3_goodB s h w b0 c0 (by omega) a3 (by omega) b1 (c1 _) (by omega) b2 (c2 _) (by omega) v hv (by omega)
  by_cases a4 : b0 < 248
  · by_cases hs : s.size < 4
    · rw [refB_short (.inr (.inr ⟨by omega, a4, hs⟩))]; exact next_short4 s h w b0 c0 (by omega) a4 hs
    · obtain ⟨v, hv⟩ : ∃ v, v = (b0 - 240) * 262144 + (b1 - 128) * 4096 + (b2 - 128) * 64 + (b3 - 128) := ⟨_, rfl⟩
      have e : refB s.size b0 b1 b2 b3 = if b1 < 128 ∨ 192 ≤ b1 then (0, 0) else if b2 < 128 ∨ 192 ≤ b2 then (0, 0) else if b3 < 128 ∨ 192 ≤ b3 then (0, 0) else if v < 65536 ∨ 1114111 < v then (0, 0) else (v, 4) := by
        unfold refB; rw [if_neg a0, if_neg (by omega), if_neg (by omega), if_pos (by omega), if_neg hs, ← hv]
      rw [e]
      by_cases k1 : b1 < 128 ∨ 192 ≤ b1
      · rw [if_pos k1]; exact next4_bad1 s h w b0 c0 (by omega) a4 (by omega) b1 (c1 _) (by omega)
      rw [if_neg k1]
      by_cases k2 : b2 < 128 ∨ 192 ≤ b2
      · rw [if_pos k2]; exact next4_bad2 s h w b0 c0 (by omega) a4 (by omega) b1 (c1 _) (by omega) b2 (c2 _) (by omega)
      rw [if_neg k2]
      by_cases k3 : b3 < 128 ∨ 192 ≤ b3
      · rw [if_pos k3]; exact next4_bad3 s h w b0 c0 (by omega) a4 (by omega) b1 (c1 _) (by omega) b2 (c2 _) (by omega) b3 (c3 _) (by omega)
      rw [if_neg k3]
      by_cases q : v < 65536
      · rw [if_pos (.inl q)]; exact next4_small s h w b0 c0 (by omega) a4 (by omega) b1 (c1 _) (by omega) b2 (c2 _) (by omega) b3 (c3 _) (by omega) v hv q
      by_cases q2 : 1114111 < v
      · rw [if_pos (.inr q2)]; exact next4_great s h w b0 c0 (by omega) a4 (by omega) b1 (c1 _) (by omega) b2 (c2 _) (by omega) b3 (c3 _) (by omega) v hv q2
      rw [if_neg (by omega)]
      exact next4_good s h w b0 c0 (by omega) a4 (by omega) b1 (c1 _) (by omega) b2 (c2 _) (by omega) b3 (c3 _) (by omega) v hv (by omega)
  · rw [refB_none (.inr (by omega))]; exact next_high s h w b0 c0 (by omega) l0

end Go.Proofs.YtioahjdojgcfdaaDoor
