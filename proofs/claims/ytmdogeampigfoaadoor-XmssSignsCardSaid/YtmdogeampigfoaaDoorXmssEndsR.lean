/- The ends of chains, evaluated by the kernel. Made by mkwotsnum.py. No walk of the program. -/
import Derived.Test.YtmdogeampigfoaaDoorXmssLits
namespace Go.Proofs.YtmdogeampigfoaaDoor
set_option maxRecDepth 100000
theorem endsR_0 : ((List.range 9).all fun c => Nat.beq (walkF openN 1 (c + 0) (dig2.getD (c + 0) 0) (15 - dig2.getD (c + 0) 0) (walkF openN 1 (c + 0) 0 (dig1.getD (c + 0) 0) (secretF seedN 1 (c + 0)))) (endsR.getD (c + 0) 0)) = true := by kernel_rfl
theorem endsR_1 : ((List.range 9).all fun c => Nat.beq (walkF openN 1 (c + 9) (dig2.getD (c + 9) 0) (15 - dig2.getD (c + 9) 0) (walkF openN 1 (c + 9) 0 (dig1.getD (c + 9) 0) (secretF seedN 1 (c + 9)))) (endsR.getD (c + 9) 0)) = true := by kernel_rfl
theorem endsR_2 : ((List.range 9).all fun c => Nat.beq (walkF openN 1 (c + 18) (dig2.getD (c + 18) 0) (15 - dig2.getD (c + 18) 0) (walkF openN 1 (c + 18) 0 (dig1.getD (c + 18) 0) (secretF seedN 1 (c + 18)))) (endsR.getD (c + 18) 0)) = true := by kernel_rfl
theorem endsR_3 : ((List.range 8).all fun c => Nat.beq (walkF openN 1 (c + 27) (dig2.getD (c + 27) 0) (15 - dig2.getD (c + 27) 0) (walkF openN 1 (c + 27) 0 (dig1.getD (c + 27) 0) (secretF seedN 1 (c + 27)))) (endsR.getD (c + 27) 0)) = true := by kernel_rfl
theorem endsR_is (c : Nat) (h : c < 35) : walkF openN 1 c (dig2.getD c 0) (15 - dig2.getD c 0) (walkF openN 1 c 0 (dig1.getD c 0) (secretF seedN 1 c)) = endsR.getD c 0 := by
  by_cases h0 : 0 ≤ c ∧ c < 9
  · have := Nat.eq_of_beq_eq_true (List.all_eq_true.1 endsR_0 (c - 0) (List.mem_range.2 (by omega)))
    rw [show c - 0 + 0 = c from by omega] at this
    exact this
  by_cases h1 : 9 ≤ c ∧ c < 18
  · have := Nat.eq_of_beq_eq_true (List.all_eq_true.1 endsR_1 (c - 9) (List.mem_range.2 (by omega)))
    rw [show c - 9 + 9 = c from by omega] at this
    exact this
  by_cases h2 : 18 ≤ c ∧ c < 27
  · have := Nat.eq_of_beq_eq_true (List.all_eq_true.1 endsR_2 (c - 18) (List.mem_range.2 (by omega)))
    rw [show c - 18 + 18 = c from by omega] at this
    exact this
  by_cases h3 : 27 ≤ c ∧ c < 35
  · have := Nat.eq_of_beq_eq_true (List.all_eq_true.1 endsR_3 (c - 27) (List.mem_range.2 (by omega)))
    rw [show c - 27 + 27 = c from by omega] at this
    exact this
  omega
end Go.Proofs.YtmdogeampigfoaaDoor
