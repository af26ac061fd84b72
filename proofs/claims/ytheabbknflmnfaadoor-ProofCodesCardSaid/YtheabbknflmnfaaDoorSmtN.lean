/- Plain words: a node of both its halves. No walk. -/
import Derived.Test.YtheabbknflmnfaaDoorSmtQ
import Derived.Test.YtheabbknflmnfaaDoorSmtG
import Derived.Test.YtheabbknflmnfaaDoorBitsC
namespace Go.Proofs.YtheabbknflmnfaaDoor
open Go.RowKit
attribute [local irreducible] shaL

theorem half_bits {k s : ByteArray} {d b : Nat} (hb : b ≤ 1) (h : ∀ i, bitS s i = if i < d + 1 then (2 * bandN k d + b) / 2 ^ (d + 1 - 1 - i) % 2 else 0) : (∀ i, i < d → bitS s i = bitS k i) ∧ bitS s d = b := by
  constructor
  · intro i hi
    rw [h i, if_pos (by omega), ← bandN_bit k d i hi, show d + 1 - 1 - i = (d - 1 - i) + 1 by omega, Nat.pow_succ, Nat.mul_comm (2 ^ _) 2, ← Nat.div_div_eq_div_mul]
    congr 2
    omega
  · rw [h d, if_pos (by omega), show d + 1 - 1 - d = 0 by omega]
    omega
theorem start_half {M : List PairS} {k s : ByteArray} {d b : Nat} (h1 : ∀ i, i < d → bitS s i = bitS k i) (h2 : bitS s d = b) : startM M s (d + 1) = side b d (startM M k d) := by
  unfold startM side
  rw [List.filter_filter]
  refine List.filter_congr fun x _ => ?_
  have e : belowB x.1 s d = belowB x.1 k d := by
    rw [Bool.eq_iff_iff, belowB_iff, belowB_iff]
    exact ⟨fun h i hi => (h i hi).trans (h1 i hi), fun h i hi => (h i hi).trans (h1 i hi).symm⟩
  rw [belowB_succ, e, h2, Bool.and_comm]
theorem join_half (l : List PairS) (d : Nat) (hd : d ≤ 15) : joinN (nodeN (127 - d) (side 0 d l) (d + 1)) (nodeN (127 - d) (side 1 d l) (d + 1)) = nodeN (128 - d) l d := by
  by_cases h2 : 2 ≤ l.length
  · rw [show 128 - d = (127 - d) + 1 by omega, nodeN_more _ _ _ h2]
  · match l, h2 with
    | [], _ =>
      show joinN (nodeN _ [] _) (nodeN _ [] _) = _
      rw [nodeN_nil, nodeN_nil]
      unfold joinN
      rw [if_pos ⟨rfl, .inl rfl⟩]
    | [x], _ =>
      have hb := bitS_le x.1 d
      rw [nodeN_one]
      by_cases h : bitS x.1 d = 0
      · have e0 : side 0 d [x] = [x] := by unfold side; simp [h]
        have e1 : side 1 d [x] = [] := by unfold side; simp [h]
        rw [e0, e1, nodeN_one, nodeN_nil]
        unfold joinN
        rw [if_neg (fun q => leafS_ne _ _ q.1), if_pos ⟨rfl, leafS_leaf _ _⟩]
      · have h1 : bitS x.1 d = 1 := by omega
        have e0 : side 0 d [x] = [] := by unfold side; simp [h1]
        have e1 : side 1 d [x] = [x] := by unfold side; simp [h1]
        rw [e0, e1, nodeN_one, nodeN_nil]
        unfold joinN
        rw [if_pos ⟨rfl, .inr (leafS_leaf _ _)⟩]
    | x :: y :: r, h2 => simp at h2
theorem nodeAt_half {M : List PairS} {k s : ByteArray} {d b : Nat} (hd : d ≤ 15) (hb : b ≤ 1) (h : ∀ i, bitS s i = if i < d + 1 then (2 * bandN k d + b) / 2 ^ (d + 1 - 1 - i) % 2 else 0) : nodeAt M s (d + 1) = nodeN (127 - d) (side b d (startM M k d)) (d + 1) := by
  obtain ⟨h1, h2⟩ := half_bits hb h
  unfold nodeAt
  rw [start_half h1 h2, show 128 - (d + 1) = 127 - d by omega]
theorem nodeAt_join {M : List PairS} {k s0 s1 : ByteArray} {d : Nat} (hd : d ≤ 15) (h0 : ∀ i, bitS s0 i = if i < d + 1 then (2 * bandN k d + 0) / 2 ^ (d + 1 - 1 - i) % 2 else 0) (h1 : ∀ i, bitS s1 i = if i < d + 1 then (2 * bandN k d + 1) / 2 ^ (d + 1 - 1 - i) % 2 else 0) :
    joinN (nodeAt M s0 (d + 1)) (nodeAt M s1 (d + 1)) = nodeAt M k d := by
  rw [nodeAt_half hd (by omega) h0, nodeAt_half hd (by omega) h1, join_half _ d hd]
  rfl
end Go.Proofs.YtheabbknflmnfaaDoor
