/- Plain functions for package digits. Nothing here names the program. -/
import Derived.WalkKit
namespace Go.Proofs.YtheabbknflmnfaaDoor

def leftI (n : Int) : Int := if 0 ≤ n ∧ n ≤ 15 then 15 - n else 0
def lefts (L : List Int) : List Int := L.map leftI
def sumI (L : List Int) : Int := L.foldl (· + ·) 0
def halvesI (b : UInt8) : List Int := [(b.toNat : Int) / 16, (b.toNat : Int) % 16]
def digL (l : List UInt8) : List Int := l.flatMap halvesI
def chk (n : Int) : List Int := [n / 256, n / 16 % 16, n % 16]
/-- a digest's digits, and its check's -/
def digs (l : List UInt8) : List Int := digL l ++ chk (sumI (lefts (digL l)))

theorem lefts_length (L : List Int) : (lefts L).length = L.length := by simp [lefts]
theorem leftI_yes (n : Int) (h : 0 ≤ n) (h2 : n ≤ 15) : leftI n = 15 - n := if_pos ⟨h, h2⟩
theorem leftI_no (n : Int) (h : ¬ (0 ≤ n ∧ n ≤ 15)) : leftI n = 0 := if_neg h
theorem leftI_bd (n : Int) : 0 ≤ leftI n ∧ leftI n ≤ 15 := by unfold leftI; split <;> omega
theorem sumI_nil : sumI [] = 0 := rfl
theorem sumI_snoc (L : List Int) (x : Int) : sumI (L ++ [x]) = sumI L + x := by simp [sumI]
theorem sumI_foldl (L : List Int) : ∀ k : Int, L.foldl (· + ·) k = k + sumI L := by
  induction L with
  | nil => intro k; simp [sumI]
  | cons x L ih =>
    intro k
    have e : sumI (x :: L) = 0 + x + sumI L := by unfold sumI; rw [List.foldl_cons, ih (0 + x)]; rfl
    rw [List.foldl_cons, ih (k + x), e]
    omega
theorem sumI_append (L M : List Int) : sumI (L ++ M) = sumI L + sumI M := by
  unfold sumI
  rw [List.foldl_append, sumI_foldl M]
  rfl
theorem sumI_bd (L : List Int) (h : ∀ x ∈ L, 0 ≤ x ∧ x ≤ 15) : 0 ≤ sumI L ∧ sumI L ≤ 15 * L.length := by
  suffices ∀ (k : Int), k + 0 ≤ L.foldl (· + ·) k ∧ L.foldl (· + ·) k ≤ k + 15 * L.length by simpa [sumI] using this 0
  induction L with
  | nil => intro k; simp
  | cons x L ih =>
    intro k
    have hx := h x (by simp)
    have := ih (fun y hy => h y (by simp [hy])) (k + x)
    simp only [List.foldl_cons, List.length_cons]
    omega
theorem digL_length (l : List UInt8) : (digL l).length = 2 * l.length := by
  induction l with
  | nil => rfl
  | cons c l ih =>
    have : digL (c :: l) = halvesI c ++ digL l := rfl
    rw [this, List.length_append, ih]
    simp [halvesI]
    omega
theorem digL_bd (l : List UInt8) : ∀ x ∈ digL l, 0 ≤ x ∧ x ≤ 15 := by
  intro x hx
  obtain ⟨b, _, hb⟩ := List.mem_flatMap.1 hx
  have hc := b.toNat_lt
  simp only [halvesI, List.mem_cons, List.not_mem_nil, or_false] at hb
  rcases hb with rfl | rfl <;> omega
theorem lefts_bd (L : List Int) : ∀ x ∈ lefts L, 0 ≤ x ∧ x ≤ 15 := by
  intro x hx
  obtain ⟨y, _, rfl⟩ := List.mem_map.1 hx
  exact leftI_bd y
theorem digL_snoc (l : List UInt8) (c : UInt8) : digL (l ++ [c]) = digL l ++ halvesI c := by simp [digL]
theorem digL_take (s : ByteArray) (k : Nat) (h : k < s.size) : digL (s.data.toList.take (k + 1)) = digL (s.data.toList.take k) ++ [(s[k].toNat : Int) / 16, (s[k].toNat : Int) % 16] := by
  rw [List.take_succ_eq_append_getElem (by simpa using h), digL_snoc]
  rfl
theorem sum_lefts_bd (l : List UInt8) : 0 ≤ sumI (lefts (digL l)) ∧ sumI (lefts (digL l)) ≤ 30 * l.length := by
  have := sumI_bd (lefts (digL l)) (lefts_bd _)
  rw [lefts_length, digL_length] at this
  omega
theorem digs_length (l : List UInt8) : (digs l).length = 2 * l.length + 3 := by
  unfold digs
  rw [List.length_append, digL_length]
  rfl
theorem digs_bd (l : List UInt8) (h : l.length = 16) : ∀ x ∈ digs l, 0 ≤ x ∧ x ≤ 15 := by
  intro x hx
  rcases List.mem_append.1 hx with hx | hx
  · exact digL_bd l x hx
  · have := sum_lefts_bd l
    simp only [chk, List.mem_cons, List.not_mem_nil, or_false] at hx
    rcases hx with rfl | rfl | rfl <;> omega
end Go.Proofs.YtheabbknflmnfaaDoor
