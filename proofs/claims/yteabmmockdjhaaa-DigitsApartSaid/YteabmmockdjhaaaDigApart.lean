/- Of two digests that aren't the same each has a digit below the other one's. No walk. -/
import Derived.Test.YteabmmockdjhaaaDigSpec
namespace Go.Proofs.Yteabmmockdjhaaa

def lessB (x y : List Int) (k : Nat) : Bool := (List.range k).any fun i => decide (x.getD i 0 < y.getD i 0)
theorem lessB_zero (x y : List Int) : lessB x y 0 = false := rfl
theorem lessB_succ (x y : List Int) (k : Nat) : lessB x y (k + 1) = (lessB x y k || decide (x.getD k 0 < y.getD k 0)) := by
  unfold lessB
  rw [List.range_succ, List.any_append]
  simp
theorem lessB_self (x : List Int) (k : Nat) : lessB x x k = false := by
  induction k with
  | zero => rfl
  | succ k ih => rw [lessB_succ, ih]; simp
theorem lessB_false {x y : List Int} : ∀ {k : Nat}, lessB x y k = false → ∀ i, i < k → y.getD i 0 ≤ x.getD i 0
  | 0, _, i, h => absurd h (by omega)
  | k + 1, h, i, hi => by
    rw [lessB_succ, Bool.or_eq_false_iff] at h
    by_cases e : i = k
    · subst e; have := h.2; simp at this; exact this
    · exact lessB_false h.1 i (by omega)
theorem sumI_cons (x : Int) (L : List Int) : sumI (x :: L) = x + sumI L := by
  unfold sumI
  rw [List.foldl_cons, sumI_foldl L]
  unfold sumI
  omega
theorem sum_le : ∀ (x y : List Int), x.length = y.length → (∀ v ∈ x, 0 ≤ v ∧ v ≤ 15) → (∀ v ∈ y, 0 ≤ v ∧ v ≤ 15) → (∀ i, i < x.length → y.getD i 0 ≤ x.getD i 0) →
    sumI (lefts x) ≤ sumI (lefts y) ∧ (sumI (lefts x) = sumI (lefts y) → x = y)
  | [], [], _, _, _, _ => ⟨Int.le_refl _, fun _ => rfl⟩
  | u :: x, v :: y, hl, hx, hy, h => by
    have ih := sum_le x y (by simpa using hl) (fun a ha => hx a (by simp [ha])) (fun a ha => hy a (by simp [ha])) (fun i hi => by
      have := h (i + 1) (by simp; omega)
      simpa using this)
    have h0 := h 0 (by simp)
    simp at h0
    have hu := hx u (by simp)
    have hv := hy v (by simp)
    have eu : lefts (u :: x) = leftI u :: lefts x := rfl
    have ev : lefts (v :: y) = leftI v :: lefts y := rfl
    rw [eu, ev, sumI_cons, sumI_cons, leftI_yes u hu.1 hu.2, leftI_yes v hv.1 hv.2]
    refine ⟨by omega, fun e => ?_⟩
    have e1 : u = v := by omega
    have e2 := ih.2 (by omega)
    rw [e1, e2]
theorem digL_inj : ∀ (a b : List UInt8), digL a = digL b → a = b
  | [], [], _ => rfl
  | [], c :: b, h => by have := congrArg List.length h; rw [digL_length, digL_length] at this; simp at this
  | c :: a, [], h => by have := congrArg List.length h; rw [digL_length, digL_length] at this; simp at this
  | c :: a, d :: b, h => by
    have ec : digL (c :: a) = (c.toNat : Int) / 16 :: (c.toNat : Int) % 16 :: digL a := rfl
    have ed : digL (d :: b) = (d.toNat : Int) / 16 :: (d.toNat : Int) % 16 :: digL b := rfl
    rw [ec, ed] at h
    simp only [List.cons.injEq] at h
    have e1 : c.toNat = d.toNat := by omega
    rw [UInt8.toNat_inj.1 e1, digL_inj a b h.2.2]
theorem getD_left {x y : List Int} {i : Nat} (h : i < x.length) : (x ++ y).getD i 0 = x.getD i 0 := by
  rw [List.getD_eq_getElem?_getD, List.getD_eq_getElem?_getD, List.getElem?_append_left h]
theorem getD_right {x y : List Int} {i n : Nat} (h : x.length = n) : (x ++ y).getD (n + i) 0 = y.getD i 0 := by
  subst h
  rw [List.getD_eq_getElem?_getD, List.getD_eq_getElem?_getD, List.getElem?_append_right (by omega), Nat.add_sub_cancel_left]
theorem apart (a b : List UInt8) (ha : a.length = 16) (hb : b.length = 16) (hne : a ≠ b) : lessB (digs a) (digs b) 35 = true := by
  rcases hl : lessB (digs a) (digs b) 35 with _ | _
  · exfalso
    have h := lessB_false hl
    have la : (digL a).length = 32 := by rw [digL_length]; omega
    have lb : (digL b).length = 32 := by rw [digL_length]; omega
    have hs := sum_le (digL a) (digL b) (by omega) (digL_bd a) (digL_bd b) (fun i hi => by
      have := h i (by omega)
      unfold digs at this
      rw [getD_left (by omega), getD_left (by omega)] at this
      exact this)
    have hc : ∀ j, j < 3 → (chk (sumI (lefts (digL b)))).getD j 0 ≤ (chk (sumI (lefts (digL a)))).getD j 0 := fun j hj => by
      have := h (32 + j) (by omega)
      unfold digs at this
      rw [getD_right lb, getD_right la] at this
      exact this
    have c0 := hc 0 (by omega)
    have c1 := hc 1 (by omega)
    have c2 := hc 2 (by omega)
    have ba := sum_lefts_bd a
    have bb := sum_lefts_bd b
    generalize sumI (lefts (digL a)) = m at *
    generalize sumI (lefts (digL b)) = n at *
    simp [chk] at c0 c1 c2
    have : m = n := by omega
    exact hne (digL_inj a b (hs.2 this))
  · rfl
end Go.Proofs.Yteabmmockdjhaaa
