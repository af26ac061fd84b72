/- Plain words: letters, places by remainder. No walk. -/
import Derived.Test.YtemgeelgkokpcaaMem
import Derived.Test.YtemgeelgkokpcaaTurn
import Derived.Test.YtemgeelgkokpcaaBytes
import Derived.IntWalk
namespace Go.Proofs.Ytemgeelgkokpcaa
open Go.RowKit

structure LetS where
  t : Int
  f : Int
  k : Int
  b : ByteArray
def LetS.cells (x : LetS) : List Value := [.int .i64 x.t, .int .i64 x.f, .int .i64 x.k, .string x.b]
def LetS.val (x : LetS) : Value := .agg x.cells.toArray
def letsV (L : List LetS) : List Value := L.flatMap LetS.cells
theorem letsV_len : ∀ L : List LetS, (letsV L).length = L.length * 4
  | [] => rfl
  | x :: r => by
    have := letsV_len r
    have e : letsV (x :: r) = x.cells ++ letsV r := rfl
    rw [e, List.length_append, this, List.length_cons]
    show 4 + r.length * 4 = _
    omega
theorem letsV_append (L M : List LetS) : letsV (L ++ M) = letsV L ++ letsV M := by simp [letsV]
theorem letsV_one (x : LetS) : letsV [x] = x.cells := by simp [letsV]
theorem letsV_cons (x : LetS) (r : List LetS) : letsV (x :: r) = x.cells ++ letsV r := rfl
theorem letsV_at : ∀ (L : List LetS) (i j : Nat) (h : i < L.length), j < 4 → (letsV L)[i * 4 + j]? = (L[i]).cells[j]?
  | x :: r, 0, j, _, hj => by
    rw [letsV_cons, Nat.zero_mul, Nat.zero_add, List.getElem?_append_left (show j < 4 from hj)]
    rfl
  | x :: r, i + 1, j, h, hj => by
    have ih := letsV_at r i j (by simpa using h) hj
    have hl : x.cells.length = 4 := rfl
    rw [letsV_cons, List.getElem?_append_right (by omega), hl, show (i + 1) * 4 + j - 4 = i * 4 + j by omega, ih]
    rfl
theorem letsV_onecell (L : List LetS) : ∀ u ∈ letsV L, u.oneCell' = true := by
  intro u hu
  obtain ⟨x, _, hx⟩ := List.mem_flatMap.1 hu
  simp only [LetS.cells, List.mem_cons, List.not_mem_nil, or_false] at hx
  rcases hx with rfl | rfl | rfl | rfl <;> rfl
theorem letsV_take : ∀ (L : List LetS) (n : Nat), (letsV L).take (n * 4) = letsV (L.take n)
  | [], n => by simp [letsV]
  | x :: r, 0 => by simp [letsV]
  | x :: r, n + 1 => by
    have ih := letsV_take r n
    have hl : x.cells.length = 4 := rfl
    rw [List.take_succ_cons, letsV_cons, letsV_cons, List.take_append, hl, show (n + 1) * 4 - 4 = n * 4 by omega, ih, List.take_of_length_le (by rw [hl]; omega)]
theorem letsV_drop : ∀ (L : List LetS) (n : Nat), (letsV L).drop (n * 4) = letsV (L.drop n)
  | [], n => by simp [letsV]
  | x :: r, 0 => by simp [letsV]
  | x :: r, n + 1 => by
    have ih := letsV_drop r n
    have hl : x.cells.length = 4 := rfl
    rw [List.drop_succ_cons, letsV_cons, List.drop_append, hl, show (n + 1) * 4 - 4 = n * 4 by omega, ih, List.drop_of_length_le (by rw [hl]; omega), List.nil_append]
/-- a body is turned -/
def LetS.body (x : LetS) (b : ByteArray) : LetS := { x with b := b }
theorem letsV_body : ∀ (L : List LetS) (i : Nat) (h : i < L.length) (b : ByteArray), (letsV L).set (i * 4 + 3) (.string b) = letsV (L.set i ((L[i]).body b))
  | x :: r, 0, _, b => rfl
  | x :: r, i + 1, h, b => by
    have ih := letsV_body r i (by simpa using h) b
    have hl : x.cells.length = 4 := rfl
    rw [List.set_cons_succ, letsV_cons, letsV_cons, List.set_append_right _ _ (by rw [hl]; omega), hl, show (i + 1) * 4 + 3 - 4 = i * 4 + 3 by omega, ih]
    rfl

/-- the place of a number among n -/
def placeI (i : Int) (n : Nat) : Nat := (i % n).toNat
theorem placeI_lt (i : Int) (n : Nat) (h : 0 < n) : placeI i n < n := by
  have h1 := Int.emod_nonneg i (show (n : Int) ≠ 0 by omega)
  have h2 := Int.emod_lt_of_pos i (show (0 : Int) < n by omega)
  unfold placeI
  omega
theorem placeI_cast (i : Int) (n : Nat) (h : 0 < n) : ((placeI i n : Nat) : Int) = i % n := by
  have h1 := Int.emod_nonneg i (show (n : Int) ≠ 0 by omega)
  unfold placeI
  omega
theorem tmod_bounds (i : Int) (n : Nat) (h : 0 < n) : -(n : Int) < Int.tmod i n ∧ Int.tmod i n < n := by
  refine ⟨?_, Int.tmod_lt_of_pos i (by omega)⟩
  rcases Int.le_total 0 i with h1 | h1
  · have := Int.tmod_nonneg (n : Int) h1; omega
  · have := Int.tmod_lt_of_pos (-i) (show (0 : Int) < n by omega)
    rw [Int.neg_tmod] at this
    omega
theorem tmod_emod (i : Int) (n : Nat) : (Int.tmod i n) % n = i % n := by
  have h1 := Int.mul_tdiv_add_tmod i n
  conv => rhs; rw [← h1]
  rw [Int.add_comm, Int.add_mul_emod_self_left]
theorem tmod_place (i : Int) (n : Nat) (h : 0 < n) : Int.tmod (Int.tmod i n + n) n = ((placeI i n : Nat) : Int) := by
  have hb := tmod_bounds i n h
  rw [Int.tmod_eq_emod_of_nonneg (by omega), Int.add_emod_right, tmod_emod, placeI_cast i n h]
theorem place_ref (i : Int) (n : Nat) (h : 0 < n) : (if Int.tmod i n < 0 then Int.tmod i n + n else Int.tmod i n) = ((placeI i n : Nat) : Int) := by
  have hb := tmod_bounds i n h
  rw [placeI_cast i n h, ← tmod_emod]
  split
  · rw [← Int.add_emod_right, Int.emod_eq_of_lt (by omega) (by omega)]
  · rw [Int.emod_eq_of_lt (by omega) (by omega)]
/-- the first place whose letter is to a node -/
def forL (L : List LetS) (node : Int) : Int := match L.findIdx? (fun x => decide (x.t = node)) with | none => -1 | some k => (k : Int)
/-- one byte of a text turned -/
def turnB (s : ByteArray) (at_ : Int) (d : Nat) : ByteArray := str (s.data.toList.set (placeI at_ s.size) (UInt8.ofNat ((s.data.toList.getD (placeI at_ s.size) 0).toNat ^^^ d)))
end Go.Proofs.Ytemgeelgkokpcaa
