/- Plain functions for package octet: the bytes of a number. Nothing here names the program. -/
import Derived.WalkKit
namespace Go.Proofs.YtemgeelgkokpcaaDoor

/-- the bytes of a number, the highest first -/
def be (n : Nat) : Nat → List UInt8
  | 0 => []
  | k + 1 => be (n / 256) k ++ [UInt8.ofNat (n % 256)]
theorem be_length (n k : Nat) : (be n k).length = k := by
  induction k generalizing n with
  | zero => rfl
  | succ k ih => simp [be, ih]
theorem be_cons (n k : Nat) : be n (k + 1) = UInt8.ofNat (n / 256 ^ k % 256) :: be n k := by
  induction k generalizing n with
  | zero => simp [be]
  | succ k ih =>
    rw [be, ih, be, Nat.div_div_eq_div_mul, Nat.pow_succ, Nat.mul_comm]
    rfl

/-- a text out of bytes -/
def str (l : List UInt8) : ByteArray := ⟨l.toArray⟩
theorem str_size (l : List UInt8) : (str l).size = l.length := rfl
theorem str_data (l : List UInt8) : (str l).data.toList = l := rfl

/-- the row's cells behind i rounds -/
def rowAt (n k i : Nat) : List Value := (List.replicate (k - i) (0 : UInt8) ++ be n i).map fun c => .int .u8 c.toNat

theorem rowAt_zero (n k : Nat) : (madeCells #[Value.int .u8 0] k).toList = rowAt n k 0 := by
  apply List.ext_getElem?
  intro i
  simp [madeCells, rowAt, be, List.getElem?_replicate]
  by_cases h : i < k <;> simp [h, Nat.mod_one]

theorem rowAt_succ (n k j : Nat) (h : j < k) : rowAt n k (j + 1) = (rowAt n k j).set (k - 1 - j) (.int .u8 (↑n / 2 ^ (8 * j) % 256)) := by
  have e : (UInt8.ofNat (n / 256 ^ j % 256)).toNat = n / 256 ^ j % 256 := by simp
  have p : (2 : Int) ^ (8 * j) = 256 ^ j := by rw [Int.pow_mul]; rfl
  unfold rowAt
  rw [be_cons, show k - j = (k - (j + 1)) + 1 from by omega, List.replicate_succ', List.map_append, List.map_append, List.map_append, List.append_assoc]
  rw [List.set_append_right _ _ (by simp; omega)]
  simp [show k - 1 - j - (k - (j + 1)) = 0 from by omega]
  rw [p]

theorem rowAt_cell (n k j : Nat) (h : j < k) : (rowAt n k j)[k - 1 - j]? = some (.int .u8 0) := by
  unfold rowAt
  rw [List.map_append, List.getElem?_append_left (by simp; omega)]
  simp [List.getElem?_replicate]
  omega

theorem rowAt_end (n k : Nat) : rowAt n k k = (be n k).map fun c => .int .u8 c.toNat := by
  simp [rowAt]
end Go.Proofs.YtemgeelgkokpcaaDoor
