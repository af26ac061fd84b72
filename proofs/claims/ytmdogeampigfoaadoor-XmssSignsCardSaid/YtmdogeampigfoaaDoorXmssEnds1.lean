/- The ends of chains, evaluated by the kernel. Made by mkwotsnum.py. No walk of the program. -/
import Derived.Test.YtmdogeampigfoaaDoorXmssLits
namespace Go.Proofs.YtmdogeampigfoaaDoor
set_option maxRecDepth 100000
theorem ends1_0 : ((List.range 9).all fun c => Nat.beq (walkF openN 1 (c + 0) 0 15 (secretF seedN 1 (c + 0))) (ends1.getD (c + 0) 0)) = true := by kernel_rfl
theorem ends1_1 : ((List.range 9).all fun c => Nat.beq (walkF openN 1 (c + 9) 0 15 (secretF seedN 1 (c + 9))) (ends1.getD (c + 9) 0)) = true := by kernel_rfl
theorem ends1_2 : ((List.range 9).all fun c => Nat.beq (walkF openN 1 (c + 18) 0 15 (secretF seedN 1 (c + 18))) (ends1.getD (c + 18) 0)) = true := by kernel_rfl
theorem ends1_3 : ((List.range 8).all fun c => Nat.beq (walkF openN 1 (c + 27) 0 15 (secretF seedN 1 (c + 27))) (ends1.getD (c + 27) 0)) = true := by kernel_rfl
theorem ends1_is (c : Nat) (h : c < 35) : walkF openN 1 c 0 15 (secretF seedN 1 c) = ends1.getD c 0 := by
  by_cases h0 : 0 ≤ c ∧ c < 9
  · have := Nat.eq_of_beq_eq_true (List.all_eq_true.1 ends1_0 (c - 0) (List.mem_range.2 (by omega)))
    rw [show c - 0 + 0 = c from by omega] at this
    exact this
  by_cases h1 : 9 ≤ c ∧ c < 18
  · have := Nat.eq_of_beq_eq_true (List.all_eq_true.1 ends1_1 (c - 9) (List.mem_range.2 (by omega)))
    rw [show c - 9 + 9 = c from by omega] at this
    exact this
  by_cases h2 : 18 ≤ c ∧ c < 27
  · have := Nat.eq_of_beq_eq_true (List.all_eq_true.1 ends1_2 (c - 18) (List.mem_range.2 (by omega)))
    rw [show c - 18 + 18 = c from by omega] at this
    exact this
  by_cases h3 : 27 ≤ c ∧ c < 35
  · have := Nat.eq_of_beq_eq_true (List.all_eq_true.1 ends1_3 (c - 27) (List.mem_range.2 (by omega)))
    rw [show c - 27 + 27 = c from by omega] at this
    exact this
  omega
end Go.Proofs.YtmdogeampigfoaaDoor
