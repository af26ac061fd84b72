/- What BitsOrder and BitsBands need of plain bits. No walk. -/
import Derived.Test.YtheabbknflmnfaaDoorBitsC
namespace Go.Proofs.YtheabbknflmnfaaDoor
open Go.RowKit

theorem bandN_same (a b : ByteArray) : ∀ d, (∀ i, i < d → bitS a i = bitS b i) → bandN a d = bandN b d
  | 0, _ => rfl
  | d + 1, h => by rw [bandN, bandN, bandN_same a b d (fun i hi => h i (by omega)), h d (by omega)]
theorem bandN_less (a b : ByteArray) (k : Nat) (h : ∀ i, i < k → bitS a i = bitS b i) (h0 : bitS a k = 0) (h1 : bitS b k = 1) : ∀ d, k < d → bandN a d < bandN b d
  | 0, hd => by omega
  | d + 1, hd => by
    rw [bandN, bandN]
    by_cases e : k = d
    · subst e
      rw [bandN_same a b k h, h0, h1]; omega
    · have := bandN_less a b k h h0 h1 d (by omega)
      have := bitS_le a d
      omega
theorem bandN_bit (a : ByteArray) : ∀ d i, i < d → bandN a d / 2 ^ (d - 1 - i) % 2 = bitS a i
  | 0, i, h => by omega
  | d + 1, i, h => by
    have hb := bitS_le a d
    rw [bandN]
    by_cases e : i = d
    · subst e
      rw [show i + 1 - 1 - i = 0 from by omega, Nat.pow_zero, Nat.div_one]; omega
    · have ih := bandN_bit a d i (by omega)
      rw [show d + 1 - 1 - i = (d - 1 - i) + 1 from by omega, Nat.pow_succ, Nat.mul_comm (2 ^ _) 2, ← Nat.div_div_eq_div_mul, show (2 * bandN a d + bitS a d) / 2 = bandN a d from by omega]
      exact ih
/-- a text with the bits of a band's number has that band -/
theorem band_of_bits (s : ByteArray) (b d : Nat) (h : ∀ i, i < d → bitS s i = b / 2 ^ (d - 1 - i) % 2) : ∀ k, k ≤ d → bandN s k = b / 2 ^ (d - k) % 2 ^ k
  | 0, _ => by rw [Nat.pow_zero, Nat.mod_one]; rfl
  | k + 1, hk => by
    rw [bandN, band_of_bits s b d h k (by omega), h k (by omega), show d - 1 - k = d - (k + 1) from by omega, show d - k = (d - (k + 1)) + 1 from by omega, Nat.pow_succ 2 (d - (k + 1)), ← Nat.div_div_eq_div_mul]
    generalize b / 2 ^ (d - (k + 1)) = x
    rw [Nat.pow_succ, Nat.mul_comm (2 ^ k) 2, Nat.mod_mul]
    omega
/-- bytes of the same bits are the same -/
theorem top_bits (a b r : Nat) (ha : a < 256) (hb : b < 256) : ∀ m, m ≤ 8 → (∀ j, j < m → a / 2 ^ (7 - j) % 2 = b / 2 ^ (7 - j) % 2) → a / 2 ^ (8 - m) = b / 2 ^ (8 - m)
  | 0, _, _ => by rw [show 2 ^ (8 - 0) = 256 from rfl]; omega
  | m + 1, hm, h => by
    have ih := top_bits a b r ha hb m (by omega) (fun j hj => h j (by omega))
    have h1 := h m (by omega)
    rw [show 8 - m = (7 - m) + 1 from by omega, Nat.pow_succ, ← Nat.div_div_eq_div_mul, ← Nat.div_div_eq_div_mul] at ih
    rw [show 8 - (m + 1) = 7 - m from by omega]
    omega
theorem bitL_byte (l : List UInt8) (q j : Nat) (h : j < 8) : bitL l (8 * q + j) = ((l[q]?).getD 0).toNat / 2 ^ (7 - j) % 2 := by
  unfold bitL
  rw [show (8 * q + j) / 8 = q from by omega, show (8 * q + j) % 8 = j from by omega]
theorem byte_same (l m : List UInt8) (q : Nat) (h : ∀ i, i < 8 → bitL l (8 * q + i) = bitL m (8 * q + i)) : (l[q]?).getD 0 = (m[q]?).getD 0 := by
  have := top_bits _ _ 0 (UInt8.toNat_lt ((l[q]?).getD 0)) (UInt8.toNat_lt ((m[q]?).getD 0)) 8 (Nat.le_refl _) (fun j hj => by
    have := h j hj
    rwa [bitL_byte l q j hj, bitL_byte m q j hj] at this)
  rw [show 2 ^ (8 - 8) = 1 from rfl, Nat.div_one, Nat.div_one] at this
  exact UInt8.toNat_inj.1 this
theorem bits_all (l m : List UInt8) (n : Nat) (hl : l.length = n) (hm : m.length = n) (h : ∀ i, i < 8 * n → bitL l i = bitL m i) : l = m := by
  apply List.ext_getElem (by omega)
  intro q h1 h2
  have := byte_same l m q (fun i hi => h _ (by omega))
  rwa [List.getElem?_eq_getElem h1, List.getElem?_eq_getElem h2] at this
/-- the first bit that is not the same tells the order -/
theorem less_cons (x y : UInt8) (l m : List UInt8) : Op.bytesLess (x :: l) (y :: m) = (decide (x < y) || (x == y && Op.bytesLess l m)) := rfl
theorem less_first : ∀ (q : Nat) (l m : List UInt8), l.length = m.length → q < l.length → (∀ i, i < q → (l[i]?).getD 0 = (m[i]?).getD 0) → (l[q]?).getD 0 < (m[q]?).getD 0 → Op.bytesLess l m = true ∧ Op.bytesLess m l = false
  | _, [], _, _, h, _, _ => by simp at h
  | _, _ :: _, [], h, _, _, _ => by simp at h
  | 0, x :: l, y :: m, _, _, _, h => by
    have hxy : x < y := by simpa using h
    have h2 := UInt8.lt_iff_toNat_lt.1 hxy
    rw [less_cons, less_cons]
    constructor
    · simp [hxy]
    · have h3 : ¬ y < x := by rw [UInt8.lt_iff_toNat_lt]; omega
      have h4 : (y == x) = false := by
        rw [beq_eq_false_iff_ne]
        rintro rfl
        omega
      simp [h3, h4]
  | q + 1, x :: l, y :: m, hl, hq, hs, h => by
    have h0 := hs 0 (by omega)
    have hxy : x = y := by simpa using h0
    subst hxy
    obtain ⟨i1, i2⟩ := less_first q l m (by simpa using hl) (by simpa using hq) (fun i hi => by simpa using hs (i + 1) (by omega)) (by simpa using h)
    have h3 : ¬ x < x := by rw [UInt8.lt_iff_toNat_lt]; omega
    rw [less_cons, less_cons, i1, i2]
    simp [h3]
theorem less_of_bit (l m : List UInt8) (k : Nat) (hl : l.length = m.length) (hk : k < 8 * l.length) (hs : ∀ i, i < k → bitL l i = bitL m i) (h0 : bitL l k = 0) (h1 : bitL m k = 1) : Op.bytesLess l m = true ∧ Op.bytesLess m l = false := by
  obtain ⟨q, hq⟩ : ∃ q, k / 8 = q := ⟨_, rfl⟩
  obtain ⟨r, hr⟩ : ∃ r, k % 8 = r := ⟨_, rfl⟩
  have hkq : k = 8 * q + r := by omega
  subst hkq
  refine less_first q l m hl (by omega) (fun i hi => byte_same l m i (fun j hj => hs _ (by omega))) ?_
  rw [bitL_byte l q r (by omega)] at h0
  rw [bitL_byte m q r (by omega)] at h1
  have ht := top_bits _ _ 0 (UInt8.toNat_lt ((l[q]?).getD 0)) (UInt8.toNat_lt ((m[q]?).getD 0)) r (by omega) (fun j hj => by
    have := hs (8 * q + j) (by omega)
    rwa [bitL_byte l q j (by omega), bitL_byte m q j (by omega)] at this)
  rw [UInt8.lt_iff_toNat_lt]
  generalize ((l[q]?).getD 0).toNat = a at h0 ht ⊢
  generalize ((m[q]?).getD 0).toNat = b at h1 ht ⊢
  rw [show 8 - r = (7 - r) + 1 from by omega, Nat.pow_succ, ← Nat.div_div_eq_div_mul, ← Nat.div_div_eq_div_mul] at ht
  rcases Nat.lt_or_ge a b with h | h
  · exact h
  · have := Nat.div_le_div_right (c := 2 ^ (7 - r)) h
    omega
/-- what the two texts' order says of the first bit that is not the same -/
theorem order_bit (p q : List UInt8) (k : Nat) (hp : p.length = 16) (hq : q.length = 16) (hk : k < 128) (hs : ∀ i, i < k → bitL p i = bitL q i) (hne : bitL p k ≠ bitL q k) (h : Op.bytesLess q p = false) : bitL p k = 0 ∧ bitL q k = 1 := by
  have h1 : bitL p k ≤ 1 := bitS_le (str p) k
  have h2 : bitL q k ≤ 1 := bitS_le (str q) k
  rcases (by omega : (bitL p k = 0 ∧ bitL q k = 1) ∨ (bitL q k = 0 ∧ bitL p k = 1)) with h3 | ⟨h3, h4⟩
  · exact h3
  · rw [(less_of_bit q p k (by omega) (by omega) (fun i hi => (hs i hi).symm) h3 h4).1] at h
    cases h
theorem less_irr : ∀ l : List UInt8, Op.bytesLess l l = false
  | [] => rfl
  | x :: l => by
    have h3 : ¬ x < x := by rw [UInt8.lt_iff_toNat_lt]; omega
    rw [less_cons, less_irr l]
    simp [h3]
theorem less_asym : ∀ l m : List UInt8, Op.bytesLess l m = true → Op.bytesLess m l = false
  | [], [], h => by simp [Op.bytesLess] at h
  | [], _ :: _, _ => rfl
  | _ :: _, [], h => by simp [Op.bytesLess] at h
  | x :: l, y :: m, h => by
    rw [less_cons] at h ⊢
    simp only [Bool.or_eq_true, Bool.and_eq_true, decide_eq_true_eq, beq_iff_eq] at h
    rcases h with h | ⟨rfl, h⟩
    · have h1 := UInt8.lt_iff_toNat_lt.1 h
      have h3 : ¬ y < x := by rw [UInt8.lt_iff_toNat_lt]; omega
      have h4 : (y == x) = false := by
        rw [beq_eq_false_iff_ne]
        rintro rfl
        omega
      simp [h3, h4]
    · have h3 : ¬ x < x := by rw [UInt8.lt_iff_toNat_lt]; omega
      rw [less_asym l m h]
      simp [h3]
theorem str_list (l : List UInt8) : (str l).toList = l := by rw [ByteArray.toList_eq]; rfl
end Go.Proofs.YtheabbknflmnfaaDoor
