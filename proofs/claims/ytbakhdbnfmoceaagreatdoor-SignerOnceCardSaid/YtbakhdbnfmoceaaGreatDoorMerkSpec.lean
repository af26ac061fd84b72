/- Plain functions for package merkle: nodes, roots, paths, climbs, each by levels and by halves. No walk of the program. -/
import Derived.Test.YtbakhdbnfmoceaaGreatDoorWotsSpec
namespace Go.Proofs.YtbakhdbnfmoceaaGreatDoor
attribute [local irreducible] shaL

def nodeS (a b : ByteArray) : ByteArray := tagS 5 [a, b]
theorem nodeS_size (a b : ByteArray) : (nodeS a b).size = 16 := tagS_size _ _
/-- the level above -/
def aboveS : List ByteArray → List ByteArray
  | a :: b :: r => nodeS a b :: aboveS r
  | _ => []
def rootS : Nat → List ByteArray → ByteArray
  | 0, l => l.headD ByteArray.empty
  | h + 1, l => rootS h (aboveS l)
def pathS : Nat → List ByteArray → Nat → List ByteArray
  | 0, _, _ => []
  | h + 1, l, i => l.getD (i ^^^ 1) ByteArray.empty :: pathS h (aboveS l) (i / 2)
def stepC (x : ByteArray) (i : Nat) (b : ByteArray) : ByteArray := if i % 2 = 1 then nodeS b x else nodeS x b
def climbS (x : ByteArray) (i : Nat) : List ByteArray → ByteArray
  | [] => x
  | b :: r => climbS (stepC x i b) (i / 2) r
/-- by halves -/
def rootH : Nat → List ByteArray → ByteArray
  | 0, l => l.headD ByteArray.empty
  | h + 1, l => nodeS (rootH h (l.take (2 ^ h))) (rootH h (l.drop (2 ^ h)))
def pathH : Nat → List ByteArray → Nat → List ByteArray
  | 0, _, _ => []
  | h + 1, l, i => if i < 2 ^ h then pathH h (l.take (2 ^ h)) i ++ [rootH h (l.drop (2 ^ h))] else pathH h (l.drop (2 ^ h)) (i - 2 ^ h) ++ [rootH h (l.take (2 ^ h))]

theorem aboveS_length : ∀ (n : Nat) (l : List ByteArray), l.length = 2 * n → (aboveS l).length = n
  | 0, [], _ => rfl
  | n + 1, a :: b :: r, h => by
    simp only [List.length_cons] at h
    rw [aboveS, List.length_cons, aboveS_length n r (by omega)]
  | 0, _ :: _, h => by simp at h
  | n + 1, [], h => by simp at h
  | n + 1, [_], h => by simp at h; omega
theorem aboveS_at : ∀ (k : Nat) (l : List ByteArray) (a b : ByteArray), l[2 * k]? = some a → l[2 * k + 1]? = some b → (aboveS l)[k]? = some (nodeS a b)
  | 0, a' :: b' :: r, a, b, h1, h2 => by
    simp at h1 h2
    subst h1; subst h2
    rfl
  | k + 1, a' :: b' :: r, a, b, h1, h2 => by
    rw [show 2 * (k + 1) = 2 * k + 1 + 1 from by omega] at h1 h2
    simp only [List.getElem?_cons_succ] at h1 h2
    rw [aboveS, List.getElem?_cons_succ]
    exact aboveS_at k r a b h1 h2
  | 0, [], _, _, h, _ => by simp at h
  | 0, [_], _, _, _, h => by simp at h
  | k + 1, [], _, _, h, _ => by simp at h
  | k + 1, [_], _, _, h, _ => by
    rw [show 2 * (k + 1) = 2 * k + 1 + 1 from by omega] at h
    simp at h
theorem aboveS_append : ∀ (n : Nat) (l m : List ByteArray), l.length = 2 * n → aboveS (l ++ m) = aboveS l ++ aboveS m
  | 0, [], m, _ => rfl
  | n + 1, a :: b :: r, m, h => by
    simp only [List.length_cons] at h
    rw [List.cons_append, List.cons_append, aboveS, aboveS, aboveS_append n r m (by omega), List.cons_append]
  | 0, _ :: _, _, h => by simp at h
  | n + 1, [], _, h => by simp at h
  | n + 1, [_], _, h => by simp at h; omega
theorem aboveS_sizes : ∀ (l : List ByteArray), ∀ s ∈ aboveS l, s.size = 16
  | a :: b :: r, s, h => by
    rw [aboveS] at h
    rcases List.mem_cons.1 h with rfl | h
    · exact nodeS_size _ _
    · exact aboveS_sizes r s h
  | [], s, h => by cases h
  | [_], s, h => by cases h
theorem aboveS_take (n : Nat) (l : List ByteArray) (h : 2 * n ≤ l.length) : (aboveS l).take n = aboveS (l.take (2 * n)) := by
  have e := aboveS_append n (l.take (2 * n)) (l.drop (2 * n)) (by rw [List.length_take]; omega)
  rw [List.take_append_drop] at e
  rw [e, List.take_append_of_le_length (by rw [aboveS_length n _ (by rw [List.length_take]; omega)]; exact Nat.le_refl _), List.take_of_length_le]
  rw [aboveS_length n _ (by rw [List.length_take]; omega)]
  exact Nat.le_refl _
theorem aboveS_drop (n : Nat) (l : List ByteArray) (h : 2 * n ≤ l.length) : (aboveS l).drop n = aboveS (l.drop (2 * n)) := by
  have e := aboveS_append n (l.take (2 * n)) (l.drop (2 * n)) (by rw [List.length_take]; omega)
  rw [List.take_append_drop] at e
  have hl := aboveS_length n (l.take (2 * n)) (by rw [List.length_take]; omega)
  rw [e, List.drop_append, List.drop_of_length_le (by omega), hl, Nat.sub_self, List.nil_append]
  rfl
theorem xor1d (i : Nat) : (i ^^^ 1) / 2 = i / 2 := by rw [Nat.xor_div_two]; simp
theorem xor1m (i : Nat) : (i ^^^ 1) % 2 = 1 - i % 2 := by
  have h : (i ^^^ 1) % 2 ^ 1 = (i % 2 ^ 1) ^^^ (1 % 2 ^ 1) := Nat.xor_mod_two_pow
  rw [Nat.pow_one] at h
  rw [h]
  have : i % 2 < 2 := Nat.mod_lt _ (by decide)
  rcases (show i % 2 = 0 ∨ i % 2 = 1 by omega) with e | e <;> rw [e] <;> rfl
theorem xor1 (i : Nat) : i ^^^ 1 = if i % 2 = 1 then i - 1 else i + 1 := by
  have h1 := xor1d i
  have h2 := xor1m i
  split <;> omega
theorem pow_succ2 (h : Nat) : 2 ^ (h + 1) = 2 * 2 ^ h := by rw [Nat.pow_succ]; omega
theorem root_halves : ∀ (h : Nat) (l : List ByteArray), l.length = 2 ^ h → rootS h l = rootH h l
  | 0, _, _ => rfl
  | 1, l, e => by
    match l, e with
    | [a, b], _ => rfl
  | h + 2, l, e => by
    have e1 : 2 ^ (h + 2) = 2 * 2 ^ (h + 1) := pow_succ2 (h + 1)
    have e2 := pow_succ2 h
    have hl : (aboveS l).length = 2 ^ (h + 1) := aboveS_length _ _ (by omega)
    rw [rootS, root_halves (h + 1) _ hl, rootH, rootH]
    have q1 : (aboveS l).take (2 ^ h) = aboveS (l.take (2 ^ (h + 1))) := by rw [e2]; exact aboveS_take _ _ (by omega)
    have q2 : (aboveS l).drop (2 ^ h) = aboveS (l.drop (2 ^ (h + 1))) := by rw [e2]; exact aboveS_drop _ _ (by omega)
    have l1 : (l.take (2 ^ (h + 1))).length = 2 ^ (h + 1) := by rw [List.length_take]; omega
    have l2 : (l.drop (2 ^ (h + 1))).length = 2 ^ (h + 1) := by rw [List.length_drop]; omega
    rw [q1, q2, ← root_halves h _ (aboveS_length _ _ (by omega)), ← root_halves h _ (aboveS_length _ _ (by omega))]
    show nodeS (rootS (h + 1) _) (rootS (h + 1) _) = _
    rw [root_halves (h + 1) _ l1, root_halves (h + 1) _ l2]
theorem pathS_length (h : Nat) : ∀ (l : List ByteArray) (i : Nat), (pathS h l i).length = h := by
  induction h with
  | zero => intro l i; rfl
  | succ h ih => intro l i; rw [pathS, List.length_cons, ih]
theorem pathH_length (h : Nat) : ∀ (l : List ByteArray) (i : Nat), (pathH h l i).length = h := by
  induction h with
  | zero => intro l i; rfl
  | succ h ih => intro l i; rw [pathH]; split <;> simp [ih]
theorem path_halves : ∀ (h : Nat) (l : List ByteArray) (i : Nat), l.length = 2 ^ h → i < 2 ^ h → pathS h l i = pathH h l i
  | 0, _, _, _, _ => rfl
  | 1, l, i, e, hi => by
    match l, e, i, hi with
    | [a, b], _, 0, _ => rfl
    | [a, b], _, 1, _ => rfl
  | h + 2, l, i, e, hi => by
    have e1 : 2 ^ (h + 2) = 2 * 2 ^ (h + 1) := pow_succ2 (h + 1)
    have e2 := pow_succ2 h
    have p1 : (0 : Nat) < 2 ^ h := Nat.pow_pos (by decide)
    have hl : (aboveS l).length = 2 ^ (h + 1) := aboveS_length _ _ (by omega)
    have q1 : (aboveS l).take (2 ^ h) = aboveS (l.take (2 ^ (h + 1))) := by rw [e2]; exact aboveS_take _ _ (by omega)
    have q2 : (aboveS l).drop (2 ^ h) = aboveS (l.drop (2 ^ (h + 1))) := by rw [e2]; exact aboveS_drop _ _ (by omega)
    have l1 : (l.take (2 ^ (h + 1))).length = 2 ^ (h + 1) := by rw [List.length_take]; omega
    have l2 : (l.drop (2 ^ (h + 1))).length = 2 ^ (h + 1) := by rw [List.length_drop]; omega
    have m1 : min (2 ^ (h + 1)) l.length = 2 ^ (h + 1) := by omega
    have la1 : (aboveS (l.take (2 ^ (h + 1)))).length = 2 ^ h := aboveS_length _ _ (by omega)
    have la2 : (aboveS (l.drop (2 ^ (h + 1)))).length = 2 ^ h := aboveS_length _ _ (by omega)
    have x1 : i ^^^ 1 < 2 ^ (h + 1) ↔ i < 2 ^ (h + 1) := by
      have := xor1d i
      have := xor1m i
      omega
    rw [pathS, path_halves (h + 1) _ _ hl (by omega), pathH, pathH]
    by_cases hlt : i < 2 ^ (h + 1)
    · rw [if_pos (by omega), if_pos hlt, q1, q2, ← path_halves (h + 1) _ i l1 hlt, pathS, ← path_halves h _ (i / 2) la1 (by omega)]
      rw [List.cons_append]
      congr 1
      · rw [List.getD_eq_getElem?_getD, List.getD_eq_getElem?_getD, List.getElem?_take, if_pos (x1.2 hlt)]
      · congr 2
        rw [← root_halves h _ la2, ← root_halves (h + 1) _ l2]
        rfl
    · rw [if_neg (by omega), if_neg hlt, q1, q2, ← path_halves (h + 1) _ (i - 2 ^ (h + 1)) l2 (by omega), pathS, show i / 2 - 2 ^ h = (i - 2 ^ (h + 1)) / 2 from by omega, ← path_halves h _ ((i - 2 ^ (h + 1)) / 2) la2 (by omega)]
      rw [List.cons_append]
      congr 1
      · rw [List.getD_eq_getElem?_getD, List.getD_eq_getElem?_getD, List.getElem?_drop]
        have y1 := xor1d i
        have y2 := xor1d (i - 2 ^ (h + 1))
        have y3 := xor1m i
        have y4 := xor1m (i - 2 ^ (h + 1))
        rw [show 2 ^ (h + 1) + ((i - 2 ^ (h + 1)) ^^^ 1) = i ^^^ 1 from by omega]
      · congr 2
        rw [← root_halves h _ la1, ← root_halves (h + 1) _ l1]
        rfl
theorem climb_path : ∀ (h : Nat) (l : List ByteArray) (i : Nat) (x : ByteArray), l.length = 2 ^ h → l[i]? = some x → climbS x i (pathS h l i) = rootS h l
  | 0, l, i, x, e, hx => by
    match l, e, i, hx with
    | [a], _, 0, hx => simp at hx; subst hx; rfl
    | [a], _, i + 1, hx => simp at hx
  | h + 1, l, i, x, e, hx => by
    have e1 := pow_succ2 h
    have hi := (List.getElem?_eq_some_iff.1 hx).1
    rw [pathS, climbS, rootS]
    refine climb_path h _ _ _ (aboveS_length _ _ (by omega)) ?_
    have y := xor1 i
    unfold stepC
    by_cases h2 : i % 2 = 1
    · rw [if_pos h2] at y ⊢
      have hy : i - 1 < l.length := by omega
      rw [y, List.getD_eq_getElem?_getD, List.getElem?_eq_getElem hy]
      refine aboveS_at _ _ _ _ ?_ ?_
      · rw [show 2 * (i / 2) = i - 1 from by omega, List.getElem?_eq_getElem hy]; rfl
      · rw [show 2 * (i / 2) + 1 = i from by omega, hx]
    · rw [if_neg h2] at y ⊢
      have hy : i + 1 < l.length := by omega
      rw [y, List.getD_eq_getElem?_getD, List.getElem?_eq_getElem hy]
      refine aboveS_at _ _ _ _ ?_ ?_
      · rw [show 2 * (i / 2) = i from by omega, hx]
      · rw [show 2 * (i / 2) + 1 = i + 1 from by omega, List.getElem?_eq_getElem hy]; rfl
theorem rootS_size : ∀ (h : Nat) (l : List ByteArray) (N : Nat), 16 ≤ N → (∀ s ∈ l, s.size ≤ N) → (rootS h l).size ≤ N
  | 0, [], N, _, _ => by simp [rootS]
  | 0, a :: _, N, _, h => h a (by simp)
  | h + 1, l, N, h16, _ => rootS_size h _ N h16 (fun s hs => by rw [aboveS_sizes _ s hs]; exact h16)
theorem pathS_sizes : ∀ (h : Nat) (l : List ByteArray) (i N : Nat), 16 ≤ N → (∀ s ∈ l, s.size ≤ N) → ∀ s ∈ pathS h l i, s.size ≤ N
  | 0, _, _, _, _, _, s, hs => by cases hs
  | h + 1, l, i, N, h16, hl, s, hs => by
    rw [pathS] at hs
    rcases List.mem_cons.1 hs with rfl | hs
    · rw [List.getD_eq_getElem?_getD]
      cases hx : l[i ^^^ 1]? with
      | none => simp
      | some y => exact hl y (List.mem_of_getElem? hx)
    · exact pathS_sizes h _ _ N h16 (fun s hs => by rw [aboveS_sizes _ s hs]; exact h16) s hs
end Go.Proofs.YtbakhdbnfmoceaaGreatDoor
