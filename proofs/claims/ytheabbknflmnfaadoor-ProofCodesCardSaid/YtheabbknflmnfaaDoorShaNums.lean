/- Numbers in pieces of 16 bits; the roots of primes. Plain; no walk. -/
import Derived.Test.YtheabbknflmnfaaDoorShaSpec
namespace Go.Proofs.YtheabbknflmnfaaDoor

/-- the value of pieces, the lowest first -/
def V : List Nat → Nat
  | [] => 0
  | d :: l => d + 65536 * V l
def Dig (l : List Nat) : Prop := ∀ i, l.getD i 0 < 65536

theorem V_take_drop (l : List Nat) (n : Nat) : V l = V (l.take n) + 65536 ^ n * V (l.drop n) := by
  induction n generalizing l with
  | zero => simp [V]
  | succ n ih =>
    cases l with
    | nil => simp [V]
    | cons d l =>
      simp only [List.take_succ_cons, List.drop_succ_cons, V]
      rw [ih l, Nat.pow_succ, Nat.mul_add]
      rw [Nat.add_assoc, Nat.mul_comm (65536 ^ n) 65536, Nat.mul_assoc]
theorem V_set (l : List Nat) (i x : Nat) (h : i < l.length) : V (l.set i x) + l.getD i 0 * 65536 ^ i = V l + x * 65536 ^ i := by
  induction l generalizing i with
  | nil => cases h
  | cons d l ih =>
    cases i with
    | zero => simp [V]; omega
    | succ i =>
      have := ih i (by simpa using h)
      simp only [List.set_cons_succ, V, List.getD_cons_succ, Nat.pow_succ]
      have e1 : l.getD i 0 * (65536 ^ i * 65536) = 65536 * (l.getD i 0 * 65536 ^ i) := by rw [← Nat.mul_assoc, Nat.mul_comm]
      have e2 : x * (65536 ^ i * 65536) = 65536 * (x * 65536 ^ i) := by rw [← Nat.mul_assoc, Nat.mul_comm]
      rw [e1, e2]
      omega
theorem V_zero (n : Nat) : V (List.replicate n 0) = 0 := by
  induction n with
  | zero => rfl
  | succ n ih => rw [List.replicate_succ, V, ih]
theorem Dig.cons {d : Nat} {l : List Nat} (h : Dig (d :: l)) : d < 65536 ∧ Dig l := ⟨h 0, fun i => by simpa using h (i + 1)⟩
theorem V_lt (l : List Nat) (h : Dig l) : V l < 65536 ^ l.length := by
  induction l with
  | nil => simp [V]
  | cons d l ih =>
    obtain ⟨h1, h2⟩ := h.cons
    have := ih h2
    rw [V, List.length_cons, Nat.pow_succ]
    omega
theorem V_succ (l : List Nat) (k : Nat) (h : k < l.length) : V (l.take (k + 1)) = V (l.take k) + l.getD k 0 * 65536 ^ k := by
  induction k generalizing l with
  | zero =>
    cases l with
    | nil => cases h
    | cons d l => simp [V]
  | succ k ih =>
    cases l with
    | nil => cases h
    | cons d l =>
      have := ih l (by simpa using h)
      simp only [List.take_succ_cons, V, List.getD_cons_succ] at this ⊢
      rw [this, Nat.pow_succ, Nat.mul_add, ← Nat.mul_assoc (l.getD k 0), Nat.mul_comm (l.getD k 0 * 65536 ^ k) 65536]
      omega
theorem V_drop (l : List Nat) (k : Nat) (h : k < l.length) : V (l.drop k) = l.getD k 0 + 65536 * V (l.drop (k + 1)) := by
  rw [List.drop_eq_getElem_cons h, V, List.getD_eq_getElem?_getD, List.getElem?_eq_getElem h]
  rfl

/-! the product, as it is reckoned -/
def tIn (ai i : Nat) (b : List Nat) (out : List Nat) : Nat → List Nat × Nat
  | 0 => (out, 0)
  | k + 1 => ((tIn ai i b out k).1.set (i + k) (((tIn ai i b out k).1.getD (i + k) 0 + ai * b.getD k 0 + (tIn ai i b out k).2) % 65536), ((tIn ai i b out k).1.getD (i + k) 0 + ai * b.getD k 0 + (tIn ai i b out k).2) / 65536)
def tOut (a b : List Nat) : Nat → List Nat
  | 0 => List.replicate (a.length + b.length) 0
  | i + 1 => (tIn (a.getD i 0) i b (tOut a b i) b.length).1.set (i + b.length) ((tIn (a.getD i 0) i b (tOut a b i) b.length).1.getD (i + b.length) 0 + (tIn (a.getD i 0) i b (tOut a b i) b.length).2)
def timesL (a b : List Nat) : List Nat := tOut a b a.length

theorem getD_set (l : List Nat) (i j x : Nat) : (l.set i x).getD j 0 = if i = j ∧ j < l.length then x else l.getD j 0 := by
  rw [List.getD_eq_getElem?_getD, List.getElem?_set, List.getD_eq_getElem?_getD]
  by_cases h : i = j
  · subst h
    by_cases h2 : i < l.length
    · simp [h2]
    · simp [h2]
  · simp [h]
theorem dig_set {l : List Nat} (h : Dig l) (i x : Nat) (hx : x < 65536) : Dig (l.set i x) := fun j => by
  rw [getD_set]
  split
  · exact hx
  · exact h j
theorem t_lt {o ai b c : Nat} (ho : o < 65536) (ha : ai < 65536) (hb : b < 65536) (hc : c < 65536) : o + ai * b + c < 4294967296 := by
  have : ai * b ≤ 65535 * 65535 := Nat.mul_le_mul (by omega) (by omega)
  omega

structure InOk (ai i : Nat) (b out : List Nat) (k : Nat) : Prop where
  len : (tIn ai i b out k).1.length = out.length
  dig : Dig (tIn ai i b out k).1
  carry : (tIn ai i b out k).2 < 65536
  far : ∀ j, i + b.length ≤ j → (tIn ai i b out k).1.getD j 0 = out.getD j 0
  val : V (tIn ai i b out k).1 + (tIn ai i b out k).2 * 65536 ^ (i + k) = V out + ai * V (b.take k) * 65536 ^ i
theorem inOk {ai i : Nat} {b out : List Nat} (ha : ai < 65536) (hb : Dig b) (ho : Dig out) (hl : i + b.length < out.length) (k : Nat) (hk : k ≤ b.length) : InOk ai i b out k := by
  induction k with
  | zero => exact ⟨rfl, ho, by simp [tIn], fun _ _ => rfl, by simp [tIn, V]⟩
  | succ k ih =>
    obtain ⟨h1, h2, h3, h4, h5⟩ := ih (by omega)
    have ht := t_lt (h2 (i + k)) ha (hb k) h3
    refine ⟨?_, ?_, ?_, ?_, ?_⟩
    · rw [tIn]; simp only; rw [List.length_set, h1]
    · rw [tIn]; exact dig_set h2 _ _ (Nat.mod_lt _ (by decide))
    · rw [tIn]; simp only; omega
    · intro j hj
      rw [tIn]
      simp only
      rw [getD_set, if_neg (by omega), h4 j hj]
    · rw [tIn]
      simp only
      have hs := V_set (tIn ai i b out k).1 (i + k) (((tIn ai i b out k).1.getD (i + k) 0 + ai * b.getD k 0 + (tIn ai i b out k).2) % 65536) (by omega)
      have hv := V_succ b k (by omega)
      rw [hv]
      generalize (tIn ai i b out k).1 = o at *
      generalize (tIn ai i b out k).2 = c at *
      generalize o.getD (i + k) 0 = d at *
      generalize b.getD k 0 = e at *
      generalize V (b.take k) = Vb at *
      obtain ⟨P, hP⟩ : ∃ P, P = 65536 ^ (i + k) := ⟨_, rfl⟩
      obtain ⟨R, hR⟩ : ∃ R, R = 65536 ^ i := ⟨_, rfl⟩
      have hPR : P = 65536 ^ k * R := by rw [hP, hR, ← Nat.pow_add, Nat.add_comm]
      rw [← Nat.add_assoc i k 1, Nat.pow_succ, ← hP, ← hR]
      rw [← hP, ← hR] at h5
      rw [← hP] at hs
      have e1 : (d + ai * e + c) / 65536 * (P * 65536) = (65536 * ((d + ai * e + c) / 65536)) * P := by rw [Nat.mul_comm P, ← Nat.mul_assoc, Nat.mul_comm _ 65536]
      rw [e1]
      have e2 : (d + ai * e + c) % 65536 * P + 65536 * ((d + ai * e + c) / 65536) * P = (d + ai * e + c) * P := by rw [← Nat.add_mul, Nat.mod_add_div]
      have e3 : (d + ai * e + c) * P = d * P + ai * e * P + c * P := by rw [Nat.add_mul, Nat.add_mul]
      have e4 : ai * (Vb + e * 65536 ^ k) * R = ai * Vb * R + ai * e * P := by
        rw [hPR, Nat.mul_add, Nat.add_mul, ← Nat.mul_assoc, ← Nat.mul_assoc]
      rw [e4]
      omega

structure OutOk (a b : List Nat) (i : Nat) : Prop where
  len : (tOut a b i).length = a.length + b.length
  dig : Dig (tOut a b i)
  far : ∀ j, i + b.length ≤ j → (tOut a b i).getD j 0 = 0
  val : V (tOut a b i) = V (a.take i) * V b
theorem outOk {a b : List Nat} (ha : Dig a) (hb : Dig b) (i : Nat) (hi : i ≤ a.length) : OutOk a b i := by
  induction i with
  | zero =>
    refine ⟨by simp [tOut], fun j => ?_, fun j _ => ?_, by simp [tOut, V, V_zero]⟩
    · rw [tOut, List.getD_eq_getElem?_getD, List.getElem?_replicate]; split <;> simp
    · rw [tOut, List.getD_eq_getElem?_getD, List.getElem?_replicate]; split <;> simp
  | succ i ih =>
    obtain ⟨h1, h2, h3, h4⟩ := ih (by omega)
    have hin := inOk (i := i) (ha i) hb h2 (by omega) b.length (Nat.le_refl _)
    obtain ⟨g1, g2, g3, g4, g5⟩ := hin
    have hz := g4 (i + b.length) (Nat.le_refl _)
    rw [h3 _ (Nat.le_refl _)] at hz
    refine ⟨?_, ?_, ?_, ?_⟩
    · rw [tOut, List.length_set, g1, h1]
    · rw [tOut]; exact dig_set g2 _ _ (by rw [hz]; omega)
    · intro j hj
      rw [tOut, getD_set, if_neg (by omega), g4 j (by omega), h3 j (by omega)]
    · rw [tOut]
      have hs := V_set (tIn (a.getD i 0) i b (tOut a b i) b.length).1 (i + b.length) ((tIn (a.getD i 0) i b (tOut a b i) b.length).1.getD (i + b.length) 0 + (tIn (a.getD i 0) i b (tOut a b i) b.length).2) (by omega)
      rw [hz] at hs ⊢
      rw [Nat.zero_add] at hs ⊢
      rw [Nat.zero_mul, Nat.add_zero] at hs
      rw [hs, g5, h4, List.take_of_length_le (Nat.le_refl _), V_succ a i (by omega), Nat.add_mul]
      rw [Nat.mul_assoc, Nat.mul_assoc, Nat.mul_comm (V b)]
theorem V_times {a b : List Nat} (ha : Dig a) (hb : Dig b) : V (timesL a b) = V a * V b := by
  have := (outOk ha hb a.length (Nat.le_refl _)).val
  rwa [List.take_of_length_le (Nat.le_refl _)] at this
theorem timesL_length {a b : List Nat} (ha : Dig a) (hb : Dig b) : (timesL a b).length = a.length + b.length := (outOk ha hb a.length (Nat.le_refl _)).len
theorem timesL_dig {a b : List Nat} (ha : Dig a) (hb : Dig b) : Dig (timesL a b) := (outOk ha hb a.length (Nat.le_refl _)).dig

/-! is a power above a number? -/
theorem above_split (m : List Nat) (hm : Dig m) (n p : Nat) (hn : n ≤ m.length) : (decide (p < V (m.drop n)) || (decide (V (m.drop n) = p) && decide (V (m.take n) ≠ 0))) = decide (p * 65536 ^ n < V m) := by
  have h1 := V_take_drop m n
  have hd : Dig (m.take n) := fun i => by
    rw [List.getD_eq_getElem?_getD, List.getElem?_take]
    split
    · rw [← List.getD_eq_getElem?_getD]; exact hm i
    · simp
  have h2 := V_lt _ hd
  rw [List.length_take, Nat.min_eq_left hn] at h2
  generalize V (m.drop n) = hi at *
  generalize V (m.take n) = lo at *
  generalize V m = v at *
  generalize 65536 ^ n = N at *
  rw [Bool.eq_iff_iff]
  simp only [Bool.or_eq_true, Bool.and_eq_true, decide_eq_true_eq]
  rw [h1]
  constructor
  · rintro (h | ⟨rfl, h⟩)
    · have : (p + 1) * N ≤ hi * N := Nat.mul_le_mul_right _ h
      rw [Nat.add_mul, Nat.mul_comm hi] at this
      omega
    · rw [Nat.mul_comm]; omega
  · intro h
    rcases Nat.lt_or_ge p hi with h' | h'
    · exact .inl h'
    · have : hi * N ≤ p * N := Nat.mul_le_mul_right _ h'
      rw [Nat.mul_comm hi] at this
      have e : N * hi = p * N ∨ N * hi < p * N := by omega
      rcases e with e | e
      · right
        have hN : 0 < N := by omega
        have : hi = p := by
          rw [Nat.mul_comm] at e
          exact Nat.eq_of_mul_eq_mul_right hN e
        exact ⟨this, by omega⟩
      · exfalso
        have : hi < p := by
          rcases Nat.lt_or_ge hi p with q | q
          · exact q
          · have := Nat.mul_le_mul_right N q
            rw [Nat.mul_comm hi] at this
            omega
        have : (hi + 1) * N ≤ p * N := Nat.mul_le_mul_right _ this
        rw [Nat.add_mul, Nat.mul_comm hi] at this
        omega
def pieces (y : Nat) : List Nat := [y % 65536, y / 65536 % 65536, y / 4294967296]
theorem pieces_dig (y : Nat) (h : y < 281474976710656) : Dig (pieces y) := fun i => by
  unfold pieces
  match i with
  | 0 => simp; omega
  | 1 => simp; omega
  | 2 => simp; omega
  | i + 3 => simp
theorem V_pieces (y : Nat) : V (pieces y) = y := by
  simp [pieces, V]
  omega
def aboveP (y p : Nat) (cube : Bool) : Bool := if cube then decide (p * 65536 ^ 6 < y * y * y) else decide (p * 65536 ^ 4 < y * y)

/-! the roots -/
def rootTo (p : Nat) (cube : Bool) : Nat → Nat
  | 0 => 0
  | j + 1 => if aboveP (rootTo p cube j + 68719476736 / 2 ^ j) p cube then rootTo p cube j else rootTo p cube j + 68719476736 / 2 ^ j
theorem rootTo_lt (p : Nat) (cube : Bool) (j : Nat) (hj : j ≤ 37) : rootTo p cube j + 137438953472 / 2 ^ j ≤ 137438953472 := by
  induction j with
  | zero => simp [rootTo]
  | succ j ih =>
    have := ih (by omega)
    have e : 137438953472 / 2 ^ j = 2 * (68719476736 / 2 ^ j) := by
      obtain ⟨r, hr⟩ : ∃ r, 36 = j + r := ⟨36 - j, by omega⟩
      have e1 : (68719476736 : Nat) = 2 ^ j * 2 ^ r := by rw [← Nat.pow_add, ← hr]
      have e2 : (137438953472 : Nat) = 2 ^ j * (2 * 2 ^ r) := by rw [Nat.mul_left_comm, ← e1]
      rw [e2, Nat.mul_div_cancel_left _ (Nat.two_pow_pos j), e1, Nat.mul_div_cancel_left _ (Nat.two_pow_pos j)]
    have e3 : 137438953472 / 2 ^ (j + 1) = 68719476736 / 2 ^ j := by
      rw [Nat.pow_succ, ← Nat.div_div_eq_div_mul, e]
      omega
    rw [rootTo, e3]
    split <;> omega
def rootR (p : Nat) (cube : Bool) : Nat := rootTo p cube 37 % 4294967296
/-- is there no divisor below d? -/
def noDiv (p d : Nat) : Bool := (List.range d).all fun k => k < 2 || p % k != 0
theorem noDiv_succ (p d : Nat) (h : 2 ≤ d) : noDiv p (d + 1) = (noDiv p d && (p % d != 0)) := by
  unfold noDiv
  have hd : decide (d < 2) = false := by rw [decide_eq_false_iff_not]; omega
  rw [List.range_succ, List.all_append]
  simp [hd]
def isP (p : Nat) : Bool := (List.range (p + 1)).all fun k => k < 2 || p < k * k || p % k != 0
theorem noDiv_isP (p d : Nat) (h1 : p < d * d) (h2 : ∀ k, k < d → 2 ≤ k → k * k ≤ p) : noDiv p d = isP p := by
  unfold noDiv isP
  rw [Bool.eq_iff_iff, List.all_eq_true, List.all_eq_true]
  simp only [List.mem_range, Bool.or_eq_true, decide_eq_true_eq, bne_iff_ne]
  constructor
  · intro h k hk
    rcases Nat.lt_or_ge k d with hd | hd
    · rcases h k hd with h | h
      · exact .inl (.inl h)
      · exact .inr h
    · left; right
      exact Nat.lt_of_lt_of_le h1 (Nat.mul_le_mul hd hd)
  · intro h k hk
    rcases Nat.lt_or_ge k 2 with h3 | h3
    · exact .inl h3
    · have hkk := h2 k hk h3
      have hkp : k ≤ p := Nat.le_trans (Nat.le_mul_self k) hkk
      rcases h k (by omega) with (h | h) | h
      · exact .inl h
      · omega
      · exact .inr h
/-- the primes below a number -/
def primesTo (q : Nat) : List Nat := (List.range q).filter fun p => 2 ≤ p && isP p
theorem primesTo_succ (q : Nat) (h : 2 ≤ q) : primesTo (q + 1) = primesTo q ++ if isP q then [q] else [] := by
  unfold primesTo
  rw [List.range_succ, List.filter_append]
  congr 1
  by_cases hp : isP q
  · simp [List.filter_cons, hp, h]
  · simp [List.filter_cons, hp]
theorem primesTo_mono (p q : Nat) (h : p ≤ q) : (primesTo p).length ≤ (primesTo q).length := by
  obtain ⟨r, rfl⟩ : ∃ r, q = p + r := ⟨q - p, by omega⟩
  unfold primesTo
  rw [List.range_add, List.filter_append, List.length_append]
  omega
theorem roots64 : (primesTo 312).map (rootR · true) = rootsL := by kernel_rfl
theorem roots8 : (primesTo 20).map (rootR · false) = start.list := by kernel_rfl
theorem primes311 : (primesTo 311).length = 63 := by kernel_rfl
theorem primes19 : (primesTo 19).length = 7 := by kernel_rfl
end Go.Proofs.YtheabbknflmnfaaDoor
