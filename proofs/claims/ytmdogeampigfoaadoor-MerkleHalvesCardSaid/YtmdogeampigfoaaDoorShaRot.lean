/- The walk of bits.RotateLeft32 by a negative number. -/
import Derived.Test.YtmdogeampigfoaaDoorShaSpec
import Derived.WalkSpells
import Derived.WalkLawsBesides
import Derived.Lib.Hide
import Derived.Deep.QuietTactic
import Derived.Laws.BitsAllLaws
namespace Go.Proofs.YtmdogeampigfoaaDoor
open Go.RowKit

theorem val_int {k : IntKind} {a b : Int} (h : a = b) : Value.int k a = Value.int k b := by rw [h]
theorem ret_int {k : IntKind} {a b : Int} (h : a = b) : Ending.returned (.int k a) = .returned (.int k b) := by rw [h]
theorem rot_amount (n : Nat) (h0 : 0 < n) (h1 : n < 32) : bits .and .u64 (IntKind.u64.wrap (-(n : Int))) 31 = ((32 - n : Nat) : Int) := by
  have e : IntKind.u64.wrap (-(n : Int)) = ((18446744073709551616 - n : Nat) : Int) := by
    simp only [IntKind.wrap, IntKind.bits, IntKind.signed, IntKind.min, IntKind.max]; simp; omega
  rw [e, show (31 : Int) = ((31 : Nat) : Int) from rfl, u64_and_nat _ _ (by omega) (by omega)]
  congr 1
  rw [show (31 : Nat) = 2 ^ 5 - 1 from rfl, Nat.and_two_pow_sub_one_eq_mod]
  omega

theorem rot_or (x n m : Nat) (h : n + m = 32) (hx : x < 4294967296) : (x * 2 ^ m % 4294967296 ||| x / 2 ^ n) = rotr n x := by
  have e32 : (4294967296 : Nat) = 2 ^ n * 2 ^ m := by rw [← Nat.pow_add, h]
  have h1 : x * 2 ^ m % 4294967296 = 2 ^ m * (x % 2 ^ n) := by
    rw [e32, Nat.mul_mod_mul_right, Nat.mul_comm]
  have h2 : x / 2 ^ n < 2 ^ m := by
    rw [Nat.div_lt_iff_lt_mul (Nat.two_pow_pos n), Nat.mul_comm, ← e32]; exact hx
  rw [h1, ← Nat.two_pow_add_eq_or_of_lt h2, rotr, show 32 - n = m from by omega]
  rw [Nat.mul_comm (x % 2 ^ n), Nat.add_comm]
theorem rot_bits (x n m : Nat) (h : n + m = 32) (hx : x < 4294967296) : bits .or .u32 ((x : Int) * 2 ^ m % 4294967296) ((x : Int) / 2 ^ n) = (rotr n x : Nat) := by
  have h1 : (x : Int) * 2 ^ m % 4294967296 = ((x * 2 ^ m % 4294967296 : Nat) : Int) := by simp
  have h2 : (x : Int) / 2 ^ n = ((x / 2 ^ n : Nat) : Int) := by simp
  rw [h1, h2, u32_or_nat _ _ (Nat.mod_lt _ (by decide)) (div_lt32 hx), rot_or x n m h hx]

set_option maxHeartbeats 400000 in
theorem rot_any (x n : Nat) (hx : x < 4294967296) (hn : 0 < n) (hn2 : n < 32) (w : World) :
    Calls Tryd.prog 62 #[.int .u32 x, .int .i64 (-n)] w fun e w' => e = .returned (.int .u32 (rotr n x : Nat)) ∧ w = w' := by
  have e1 := rot_amount n hn hn2
  generalize hm : 32 - n = m at e1
  have hm0 : 0 < m := by omega
  have hm1 : m < 32 := by omega
  have HM := Lib.hid hm
  clear hm
  go_enter Tryd.func62, Tryd.ntmps62
  go_wp2
  go_ret
  have hnm : 32 - m = n := by have := HM.out; omega
  refine ⟨ret_int ?_, rfl⟩
  rw [hnm]
  exact rot_bits x n m (by omega) hx
/-- the same, the number as it stands at a call -/
theorem rot_c (x : Nat) (c : Int) (hx : x < 4294967296) (hc : -32 < c ∧ c < 0) (w : World) :
    Calls Tryd.prog 62 #[.int .u32 x, .int .i64 c] w fun e w' => e = .returned (.int .u32 (rotr c.natAbs x : Nat)) ∧ w = w' := by
  obtain ⟨n, rfl⟩ : ∃ n : Nat, c = -(n : Int) := ⟨c.natAbs, by omega⟩
  have : (-(n : Int)).natAbs = n := by omega
  rw [this]
  exact rot_any x n hx (by omega) (by omega) w
theorem rot_q (x : Nat) (c : Int) (hx : x < 4294967296) (hc : -32 < c ∧ c < 0) (w : World) :
    Calls Tryd.prog 62 #[.int .u32 x, .int .i64 c] w fun e w' => e = .returned (.int .u32 (rotr c.natAbs x : Nat)) ∧ w' = w :=
  (rot_c x c hx hc w).mono fun _ _ h => ⟨h.1, h.2.symm⟩
/-- a second region that only reads, behind a first one -/
theorem quiet_add_same {P : Program} {f : FuncId} {args : Array Value} {w : World} {a n : Nat} {v : Value}
    (h : Calls P f args (w.drewN (a + n)) fun e w' => e = .returned v ∧ w' = w.drewN (a + n)) :
    Calls P f args (w.drewN (a + n)) fun e w'' => e = .returned v ∧ ∃ m, w'' = w.drewN (a + m) :=
  h.mono fun _ _ ⟨he, hm⟩ => ⟨he, n, hm⟩
end Go.Proofs.YtmdogeampigfoaaDoor
