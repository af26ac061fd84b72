/- The entries of the law EntryHistories; what their histories are; by numbers that the kernel worked out. No walk. · Lists of entries in rows of the caller's own; what the law EntryHistories has at work. No walk. -/
import Derived.Test.YtgaenpbdfelhhaaDoorEntK
import Derived.Test.YtgaenpbdfelhhaaDoorEntryHistoriesB3
import Derived.Deep.AppendLies
namespace Go.Proofs.YtgaenpbdfelhhaaDoor
attribute [local irreducible] shaL

def prevS : Nat → ByteArray
  | 0 => noughtsS
  | i + 1 => (⟨i + 1, sameS (UInt8.ofNat i), noughtsS, 2, prevS i⟩ : EntS).value
def entI (i : Nat) : EntS := ⟨i + 1, sameS (UInt8.ofNat i), noughtsS, 2, prevS i⟩
def entH (i : Nat) : EntS := ⟨i + 1, sameS (UInt8.ofNat i), noughtsS, 3, prevS i⟩
theorem prevS_succ (i : Nat) : prevS (i + 1) = (entI i).value := rfl
theorem prevS_16 : ∀ i, i ≤ 4294967294 → (prevS i).size = 16
  | 0, _ => rfl
  | i + 1, h => by
    rw [prevS_succ]
    exact EntS.value_size (fit_same (i + 1) _ _ ⟨by omega, by omega⟩ (prevS_16 i (by omega)) 2 ⟨by decide, by decide⟩)
theorem entI_err (i : Nat) (h : i ≤ 4294967294) : (entI i).err = 0 := fit_same (i + 1) _ _ ⟨by omega, by omega⟩ (prevS_16 i h) 2 ⟨by decide, by decide⟩
theorem entH_err (i : Nat) (h : i ≤ 4294967294) : (entH i).err = 0 := fit_same (i + 1) _ _ ⟨by omega, by omega⟩ (prevS_16 i h) 3 ⟨by decide, by decide⟩
theorem entI_next (i : Nat) (h : i ≤ 4294967294) : (entI i).next (entI (i + 1)) = 0 := by
  unfold EntS.next
  rw [if_neg (by show ¬ (i + 1 + 1 = 0 ∨ i + 1 + 1 - 1 ≠ i + 1); omega), if_neg]
  intro q
  rcases q with q | q
  · exact q (entI_err i h)
  · exact q (prevS_succ i)

/-! by numbers -/
def numE (i h P : Nat) : Nat := numB (be (i + 1) 4 ++ ((List.replicate 16 (UInt8.ofNat i) ++ (List.replicate 16 0 ++ be h 1)) ++ be P 16))
noncomputable def prevF : Nat → Nat
  | 0 => 0
  | i + 1 => tagF 12 [(numE i 2 (prevF i), 53)]
theorem tagF_lt (t : Nat) (l : List (Nat × Nat)) : tagF t l < 340282366920938463463374607431768211456 := Nat.mod_lt _ (by decide)
theorem value_txt (i h P : Nat) (hi : i ≤ 4294967294) (hh : h ≤ 6) : (⟨i + 1, sameS (UInt8.ofNat i), noughtsS, h, txt (P, 16)⟩ : EntS).value = txt (tagF 12 [(numE i h P, 53)], 16) := by
  have he : (⟨i + 1, sameS (UInt8.ofNat i), noughtsS, h, txt (P, 16)⟩ : EntS).err = 0 := fit_same (i + 1) _ _ ⟨by omega, by omega⟩ (by unfold txt; rw [str_size, be_length]) h ⟨by omega, by omega⟩
  have hl := EntS.len he
  have hb : (⟨i + 1, sameS (UInt8.ofNat i), noughtsS, h, txt (P, 16)⟩ : EntS).bytes = be (i + 1) 4 ++ ((List.replicate 16 (UInt8.ofNat i) ++ (List.replicate 16 0 ++ be h 1)) ++ be P 16) := rfl
  rw [hb] at hl
  have ht := be_numB (be (i + 1) 4 ++ ((List.replicate 16 (UInt8.ofNat i) ++ (List.replicate 16 0 ++ be h 1)) ++ be P 16))
  rw [hl] at ht
  unfold EntS.value
  rw [if_pos he, hb, ← tag_texts]
  have e : str (be (i + 1) 4 ++ ((List.replicate 16 (UInt8.ofNat i) ++ (List.replicate 16 0 ++ be h 1)) ++ be P 16)) = txt (numE i h P, 53) := by
    unfold txt numE
    rw [ht]
  rw [e]
  rfl
theorem prevS_txt : ∀ i, i ≤ 4294967294 → prevS i = txt (prevF i, 16)
  | 0, _ => rfl
  | i + 1, h => by
    show (⟨i + 1, sameS (UInt8.ofNat i), noughtsS, 2, prevS i⟩ : EntS).value = _
    rw [prevS_txt i (by omega)]
    exact value_txt i 2 (prevF i) (by omega) (by decide)
theorem txt_inj {a b : Nat} (ha : a < 340282366920938463463374607431768211456) (hb : b < 340282366920938463463374607431768211456) (h : txt (a, 16) = txt (b, 16)) : a = b := be_inj (k := 16) ha hb (str_inj h)
def zedN : Nat := 162801759860213696245222361202649889402
theorem zed_txt : sameS 122 = txt (zedN, 16) := by decide
theorem nums_apart : ∀ i, i < 16 → tagF 12 [(numE i 3 (prevF i), 53)] ≠ tagF 12 [(numE i 2 (prevF i), 53)] ∧ prevF i ≠ zedN := by decide +kernel
theorem prevF_lt : ∀ i, prevF i < 340282366920938463463374607431768211456
  | 0 => by decide
  | i + 1 => tagF_lt _ _
theorem entH_value (i : Nat) (h : i < 16) : (entI i).value ≠ (entH i).value := by
  have e1 : (entI i).value = txt (tagF 12 [(numE i 2 (prevF i), 53)], 16) := by
    show (⟨i + 1, sameS (UInt8.ofNat i), noughtsS, 2, prevS i⟩ : EntS).value = _
    rw [prevS_txt i (by omega)]
    exact value_txt i 2 (prevF i) (by omega) (by decide)
  have e2 : (entH i).value = txt (tagF 12 [(numE i 3 (prevF i), 53)], 16) := by
    show (⟨i + 1, sameS (UInt8.ofNat i), noughtsS, 3, prevS i⟩ : EntS).value = _
    rw [prevS_txt i (by omega)]
    exact value_txt i 3 (prevF i) (by omega) (by decide)
  rw [e1, e2]
  intro q
  exact (nums_apart i h).1 (txt_inj (tagF_lt _ _) (tagF_lt _ _) q).symm
theorem zed_not (i : Nat) (h : i < 16) : sameS 122 ≠ prevS i := by
  rw [prevS_txt i (by omega), zed_txt]
  intro q
  exact (nums_apart i h).2 (txt_inj (by decide) (prevF_lt i) q).symm

/-! histories -/
theorem chain_from (L : List EntS) (k : Nat) (h : ∀ i, i < k → ∀ x y, L[i]? = some x → L[i + 1]? = some y → x.next y = 0) (hk : k < L.length ∨ k = 0) : chainE L = chainE (L.drop k) := by
  induction k with
  | zero => rfl
  | succ k ih =>
    have hl : k + 1 < L.length := by omega
    rw [ih (fun i hi => h i (by omega)) (by omega), chainE_drop L k L[k] L[k + 1] (List.getElem?_eq_getElem (by omega)) (List.getElem?_eq_getElem hl)]
    rw [h k (by omega) _ _ (List.getElem?_eq_getElem (by omega)) (List.getElem?_eq_getElem hl)]
    simp
theorem chain_ok (L : List EntS) (h : ∀ i, ∀ x y, L[i]? = some x → L[i + 1]? = some y → x.next y = 0) : chainE L = 0 := by
  rcases Nat.eq_zero_or_pos L.length with h0 | h0
  · rw [List.length_eq_zero_iff.1 h0]; rfl
  · rw [chain_from L (L.length - 1) (fun i _ => h i) (by omega)]
    exact chainE_last L _ (by omega)
theorem chain_stop (L : List EntS) (k : Nat) (z : Int) (hz : z ≠ 0) (h : ∀ i, i < k → ∀ x y, L[i]? = some x → L[i + 1]? = some y → x.next y = 0) (x y : EntS) (hx : L[k]? = some x) (hy : L[k + 1]? = some y) (hn : x.next y = z) : chainE L = z := by
  have hl := (List.getElem?_eq_some_iff.1 hx).1
  rw [chain_from L k h (by omega), chainE_drop L k x y hx hy, hn, if_pos hz]
theorem hist_of (L : List EntS) (x : EntS) (hx : L[0]? = some x) (hv : x.v = 1) (hp : x.p = noughtsS) : histE L = chainE L := by
  cases L with
  | nil => cases hx
  | cons a l =>
    cases hx
    show (if x.v ≠ 1 then (13 : Int) else if x.p ≠ noughtsS then 15 else chainE (x :: l)) = _
    rw [if_neg (by simp [hv]), if_neg (by simp [hp])]
theorem hist_v (L : List EntS) (x : EntS) (hx : L[0]? = some x) (hv : x.v ≠ 1) : histE L = 13 := by
  cases L with
  | nil => cases hx
  | cons a l =>
    cases hx
    show (if x.v ≠ 1 then (13 : Int) else if x.p ≠ noughtsS then 15 else chainE (x :: l)) = _
    rw [if_pos hv]
theorem hist_p (L : List EntS) (x : EntS) (hx : L[0]? = some x) (hv : x.v = 1) (hp : x.p ≠ noughtsS) : histE L = 15 := by
  cases L with
  | nil => cases hx
  | cons a l =>
    cases hx
    show (if x.v ≠ 1 then (13 : Int) else if x.p ≠ noughtsS then 15 else chainE (x :: l)) = _
    rw [if_neg (by simp [hv]), if_pos hp]
def entsI (n : Nat) : List EntS := (List.range n).map entI
theorem entsI_len (n : Nat) : (entsI n).length = n := by simp [entsI]
theorem entsI_at (n i : Nat) (h : i < n) : (entsI n)[i]? = some (entI i) := by
  unfold entsI
  rw [List.getElem?_map, List.getElem?_range h]
  rfl
theorem entsI_some {n i : Nat} {x : EntS} (h : (entsI n)[i]? = some x) : i < n ∧ x = entI i := by
  have hl := (List.getElem?_eq_some_iff.1 h).1
  rw [entsI_len] at hl
  rw [entsI_at n i hl] at h
  exact ⟨hl, (Option.some.inj h).symm⟩
theorem entsI_succ (n : Nat) : entsI (n + 1) = entsI n ++ [entI n] := by simp [entsI, List.range_succ]
theorem entsI_hist (n : Nat) (h : 0 < n) (hn : n ≤ 16) : histE (entsI n) = 0 := by
  rw [hist_of _ (entI 0) (entsI_at n 0 h) rfl rfl]
  refine chain_ok _ fun i x y hx hy => ?_
  obtain ⟨h1, rfl⟩ := entsI_some hx
  obtain ⟨h2, rfl⟩ := entsI_some hy
  exact entI_next i (by omega)
theorem set_some {n k i : Nat} {y x : EntS} (h : ((entsI n).set k y)[i]? = some x) : i < n ∧ (i = k ∧ x = y ∨ i ≠ k ∧ x = entI i) := by
  have hl := (List.getElem?_eq_some_iff.1 h).1
  rw [List.length_set, entsI_len] at hl
  refine ⟨hl, ?_⟩
  by_cases hk : k = i
  · subst hk
    rw [List.getElem?_set_self (by rw [entsI_len]; exact hl)] at h
    exact .inl ⟨rfl, (Option.some.inj h).symm⟩
  · rw [List.getElem?_set_ne hk, entsI_at n i hl] at h
    exact .inr ⟨fun q => hk q.symm, (Option.some.inj h).symm⟩
theorem set_at {n k i : Nat} (y : EntS) (hi : i < n) : ((entsI n).set k y)[i]? = some (if i = k then y else entI i) := by
  by_cases hk : k = i
  · subst hk
    rw [List.getElem?_set_self (by rw [entsI_len]; exact hi), if_pos rfl]
  · rw [List.getElem?_set_ne hk, entsI_at n i hi, if_neg (fun q => hk q.symm)]
/-- another height: the next one doesn't follow -/
theorem hist0 (n k : Nat) (hn : n ≤ 16) (hk : k < n) : histE ((entsI n).set k (entH k)) = if k + 1 = n then 0 else 15 := by
  have h0 := set_at (n := n) (k := k) (entH k) (show 0 < n by omega)
  have hfirst : histE ((entsI n).set k (entH k)) = chainE ((entsI n).set k (entH k)) := by
    refine hist_of _ _ h0 ?_ ?_
    · split
      · rename_i h; subst h; rfl
      · rfl
    · split
      · rename_i h; subst h; rfl
      · rfl
  have hpre : ∀ i, i < k → (entI i).next (if i + 1 = k then entH k else entI (i + 1)) = 0 := by
    intro i hi
    split
    · rename_i h
      subst h
      have := entI_next i (by omega)
      unfold EntS.next at this ⊢
      exact this
    · exact entI_next i (by omega)
  rw [hfirst]
  by_cases hl : k + 1 = n
  · rw [if_pos hl]
    refine chain_ok _ fun i x y hx hy => ?_
    obtain ⟨h1, h2⟩ := set_some hx
    obtain ⟨h3, h4⟩ := set_some hy
    rcases h2 with ⟨h2, _⟩ | ⟨h2, rfl⟩
    · omega
    · rcases h4 with ⟨h4, rfl⟩ | ⟨h4, rfl⟩
      · have := hpre i (by omega)
        rwa [if_pos h4] at this
      · exact entI_next i (by omega)
  · rw [if_neg hl]
    refine chain_stop _ k 15 (by decide) (fun i hi x y hx hy => ?_) (entH k) (entI (k + 1)) ?_ ?_ ?_
    · have hx' := set_at (n := n) (k := k) (entH k) (show i < n by omega)
      have hy' := set_at (n := n) (k := k) (entH k) (show i + 1 < n by omega)
      rw [hx', if_neg (by omega)] at hx
      rw [hy'] at hy
      cases hx
      cases hy
      exact hpre i hi
    · rw [set_at (entH k) hk, if_pos rfl]
    · rw [set_at (entH k) (show k + 1 < n by omega), if_neg (by omega)]
    · unfold EntS.next
      rw [if_neg (by show ¬ (k + 1 + 1 = 0 ∨ k + 1 + 1 - 1 ≠ k + 1); omega), if_pos (.inr (entH_value k (by omega)))]
/-- one that is another one: what the one ahead says of it, or that it is no first one -/
theorem hist_set (n k : Nat) (hn : n ≤ 16) (hk : k < n) (y : EntS) (z : Int) (hz : z ≠ 0) (h0 : k = 0 → histE ((entsI n).set k y) = z) (h1 : ∀ j, k = j + 1 → (entI j).next y = z) : histE ((entsI n).set k y) = z := by
  rcases Nat.eq_zero_or_pos k with hk0 | hk0
  · exact h0 hk0
  · obtain ⟨j, rfl⟩ : ∃ j, k = j + 1 := ⟨k - 1, by omega⟩
    have hf := set_at (n := n) (k := j + 1) y (show 0 < n by omega)
    rw [if_neg (by omega)] at hf
    rw [hist_of _ _ hf rfl rfl]
    refine chain_stop _ j z hz (fun i hi x u hx hu => ?_) (entI j) y ?_ ?_ (h1 j rfl)
    · rw [set_at y (show i < n by omega), if_neg (by omega)] at hx
      rw [set_at y (show i + 1 < n by omega), if_neg (by omega)] at hu
      cases hx
      cases hu
      exact entI_next i (by omega)
    · rw [set_at y (show j < n by omega), if_neg (by omega)]
    · rw [set_at y hk, if_pos rfl]
def entV (i : Nat) : EntS := ⟨i + 6, sameS (UInt8.ofNat i), noughtsS, 2, prevS i⟩
def entP (i : Nat) : EntS := ⟨i + 1, sameS (UInt8.ofNat i), noughtsS, 2, sameS 122⟩
theorem hist1 (n k : Nat) (hn : n ≤ 16) (hk : k < n) : histE ((entsI n).set k (entV k)) = 13 := by
  refine hist_set n k hn hk _ 13 (by decide) (fun h => ?_) (fun j h => ?_)
  · have hf := set_at (n := n) (k := k) (entV k) (show 0 < n by omega)
    rw [if_pos h.symm] at hf
    exact hist_v _ _ hf (by show k + 6 ≠ 1; omega)
  · unfold EntS.next
    rw [if_pos (.inr (by subst h; show j + 1 + 6 - 1 ≠ j + 1; omega))]
theorem hist2 (n k : Nat) (hn : n ≤ 16) (hk : k < n) : histE ((entsI n).set k (entP k)) = 15 := by
  refine hist_set n k hn hk _ 15 (by decide) (fun h => ?_) (fun j h => ?_)
  · have hf := set_at (n := n) (k := k) (entP k) (show 0 < n by omega)
    rw [if_pos h.symm] at hf
    exact hist_p _ _ hf (by show k + 1 = 1; omega) (zed_not 0 (by decide))
  · unfold EntS.next
    subst h
    rw [if_neg (by show ¬ (j + 1 + 1 = 0 ∨ j + 1 + 1 - 1 ≠ j + 1); omega), if_pos (.inr (zed_not (j + 1) (by omega)))]
/-- one that isn't there -/
theorem hist3 (n k : Nat) (hn : n ≤ 16) (hk : k < n) : (histE ((entsI n).take k ++ (entsI n).drop (k + 1)) == 0) = (decide (k + 1 = n) && decide (1 < n)) := by
  by_cases hl : k + 1 = n
  · have e : (entsI n).take k ++ (entsI n).drop (k + 1) = entsI k := by
      rw [List.drop_of_length_le (by rw [entsI_len]; omega), List.append_nil, ← hl, entsI_succ, List.take_left' (entsI_len k)]
    rw [e]
    rcases Nat.eq_zero_or_pos k with h0 | h0
    · subst h0
      have : ¬ 1 < n := by omega
      simp [this]
      decide
    · rw [entsI_hist k h0 (by omega)]
      simp [hl]
      omega
  · have hat : ∀ i, i < n - 1 → ((entsI n).take k ++ (entsI n).drop (k + 1))[i]? = some (if i < k then entI i else entI (i + 1)) := by
      intro i hi
      have ht : ((entsI n).take k).length = k := by rw [List.length_take, entsI_len]; omega
      by_cases hik : i < k
      · rw [List.getElem?_append_left (by omega), List.getElem?_take, if_pos hik, entsI_at n i (by omega), if_pos hik]
      · rw [List.getElem?_append_right (by omega), ht, List.getElem?_drop, show k + 1 + (i - k) = i + 1 by omega, entsI_at n (i + 1) (by omega), if_neg hik]
    have h13 : histE ((entsI n).take k ++ (entsI n).drop (k + 1)) = 13 := by
      rcases Nat.eq_zero_or_pos k with h0 | h0
      · have hf := hat 0 (by omega)
        rw [if_neg (by omega)] at hf
        exact hist_v _ _ hf (by decide)
      · obtain ⟨j, rfl⟩ : ∃ j, k = j + 1 := ⟨k - 1, by omega⟩
        have hf := hat 0 (by omega)
        rw [if_pos (by omega)] at hf
        rw [hist_of _ _ hf rfl rfl]
        refine chain_stop _ j 13 (by decide) (fun i hi x u hx hu => ?_) (entI j) (entI (j + 2)) ?_ ?_ ?_
        · rw [hat i (by omega), if_pos (by omega)] at hx
          rw [hat (i + 1) (by omega), if_pos (by omega)] at hu
          cases hx
          cases hu
          exact entI_next i (by omega)
        · rw [hat j (by omega), if_pos (by omega)]
        · rw [hat (j + 1) (by omega), if_neg (by omega)]
        · unfold EntS.next
          rw [if_pos (.inr (by show j + 2 + 1 - 1 ≠ j + 1; omega))]
    rw [h13]
    simp [hl]
/-- one that comes twice -/
theorem hist4 (n k : Nat) (hn : n ≤ 16) (hk : k < n) : histE (entsI n ++ [entI k]) = 13 := by
  obtain ⟨m, rfl⟩ : ∃ m, n = m + 1 := ⟨n - 1, by omega⟩
  have hat : ∀ i, i < m + 1 → (entsI (m + 1) ++ [entI k])[i]? = some (entI i) := fun i hi => by
    rw [List.getElem?_append_left (by rw [entsI_len]; exact hi), entsI_at _ i hi]
  rw [hist_of _ _ (hat 0 (by omega)) rfl rfl]
  refine chain_stop _ m 13 (by decide) (fun i hi x u hx hu => ?_) (entI m) (entI k) (hat m (by omega)) ?_ ?_
  · rw [hat i (by omega)] at hx
    rw [hat (i + 1) (by omega)] at hu
    cases hx
    cases hu
    exact entI_next i (by omega)
  · rw [List.getElem?_append_right (by rw [entsI_len]; omega), entsI_len, Nat.sub_self]
    rfl
  · unfold EntS.next
    rw [if_pos (.inr (by show k + 1 - 1 ≠ m + 1; omega))]
end Go.Proofs.YtgaenpbdfelhhaaDoor

namespace Go.Proofs.YtgaenpbdfelhhaaDoor
open Go.RowKit
attribute [local irreducible] shaL

def entsV (L : List EntS) : List Value := L.flatMap EntS.cells
theorem entsV_len : ∀ L : List EntS, (entsV L).length = L.length * 5
  | [] => rfl
  | x :: r => by
    have := entsV_len r
    have e : entsV (x :: r) = x.cells ++ entsV r := rfl
    rw [e, List.length_append, this, List.length_cons]
    show 5 + r.length * 5 = _
    omega
theorem entsV_append (L M : List EntS) : entsV (L ++ M) = entsV L ++ entsV M := by simp [entsV]
theorem entsV_one (x : EntS) : entsV [x] = x.cells := by simp [entsV]
theorem entsV_at : ∀ (L : List EntS) (i j : Nat) (h : i < L.length), j < 5 → (entsV L)[i * 5 + j]? = (L[i]).cells[j]?
  | x :: r, 0, j, _, hj => by
    have e : entsV (x :: r) = x.cells ++ entsV r := rfl
    rw [e, Nat.zero_mul, Nat.zero_add, List.getElem?_append_left (show j < 5 from hj)]
    rfl
  | x :: r, i + 1, j, h, hj => by
    have ih := entsV_at r i j (by simpa using h) hj
    have e : entsV (x :: r) = x.cells ++ entsV r := rfl
    have hl : x.cells.length = 5 := rfl
    rw [e, List.getElem?_append_right (by omega), hl, show (i + 1) * 5 + j - 5 = i * 5 + j by omega, ih]
    rfl
theorem ents_own {w : World} {B : Nat} {v : Value} {L : List EntS} (h : w.ownsRow B 52 5 v L.length (entsV L)) : EntsAt w v L := by
  rcases h.2 with ⟨rfl, h0⟩ | ⟨g, cap, cur, rfl, hB, hg, h1, h2, h3, h4⟩
  · exact ⟨none, 0, by rw [h0], fun i hi => by omega⟩
  · have hc : ∀ i j, i < L.length → j < 5 → w.cell? ⟨g, i * 5 + j, none⟩ = (entsV L)[i * 5 + j]? := by
      intro i j hi hj
      rw [← h4, List.getElem?_take, if_pos (by omega), cell_of hg]
      simp
    refine ⟨some ⟨g, 0, none⟩, cap, rfl, fun i hi => ⟨g, 0, rfl, ?_, ?_, ?_, ?_, ?_⟩⟩
    · rw [Nat.zero_add]; exact (hc i 0 hi (by decide)).trans (entsV_at L i 0 hi (by decide))
    · rw [Nat.zero_add]; exact (hc i 1 hi (by decide)).trans (entsV_at L i 1 hi (by decide))
    · rw [Nat.zero_add]; exact (hc i 2 hi (by decide)).trans (entsV_at L i 2 hi (by decide))
    · rw [Nat.zero_add]; exact (hc i 3 hi (by decide)).trans (entsV_at L i 3 hi (by decide))
    · rw [Nat.zero_add]; exact (hc i 4 hi (by decide)).trans (entsV_at L i 4 hi (by decide))
theorem entsV_set (L : List EntS) (i j : Nat) (u : Value) (y : EntS) (hi : i < L.length) (hj : j < 5) (h : (L[i]).cells.set j u = y.cells) : (entsV L).set (i * 5 + j) u = entsV (L.set i y) := by
  induction L generalizing i with
  | nil => simp at hi
  | cons x r ih =>
    have e : entsV (x :: r) = x.cells ++ entsV r := rfl
    have hl : x.cells.length = 5 := rfl
    cases i with
    | zero =>
      have h' : x.cells.set j u = y.cells := h
      rw [e, Nat.zero_mul, Nat.zero_add, List.set_append_left _ _ (by omega), h']
      rfl
    | succ i =>
      have := ih i (by simpa using hi) h
      rw [e, List.set_append_right _ _ (by omega), hl, show (i + 1) * 5 + j - 5 = i * 5 + j by omega, this]
      rfl
theorem entsV_onecell (L : List EntS) : ∀ u ∈ entsV L, u.oneCell' = true := by
  intro u hu
  obtain ⟨x, _, hx⟩ := List.mem_flatMap.1 hu
  simp only [EntS.cells, List.mem_cons, List.not_mem_nil, or_false] at hx
  rcases hx with rfl | rfl | rfl | rfl | rfl <;> rfl
theorem infoEnt : (Tryd.prog.info? 52).map (fun i => (i.zero, i.size, i.bytes)) = some (some (.agg #[.int .u64 0, .string ⟨#[]⟩, .string ⟨#[]⟩, .int .i64 0, .string ⟨#[]⟩]), 5, 64) := by kernel_rfl
theorem own_grown5 {w w' : World} {B n s : Nat} {t : TypeId} {v : Value} {xs : List Value} (h : w.ownsRow B t s v n xs) (k : w.grownBy w' none) : w'.ownsRow B t s v n xs := by
  refine ⟨h.1, ?_⟩
  rcases h.2 with h' | ⟨g, cap, cur, rfl, hB, hg, r⟩
  · exact .inl h'
  · exact .inr ⟨g, cap, cur, rfl, hB, (k.block g (Array.getElem?_eq_some_iff.1 hg).1 (by simp)).trans hg, r⟩
/-- the list so far, the entry at hand in its block -/
structure HIn (LB XB : Nat) (w : World) (u : Value) (L : List EntS) (x : EntS) (w' : World) : Prop where
  own : w'.ownsRow LB 52 5 u L.length (entsV L)
  hx : w'.heap[XB]? = some (.cells x.cells.toArray 52 (0, 0))
  gr : w.grownBy w' none
  ne : u.ownBlock ≠ some XB
  lb : w.heap.size ≤ LB
  lx : LB ≤ XB
theorem HIn.lt {LB XB : Nat} {w : World} {u : Value} {L : List EntS} {x : EntS} {a : World} (h : HIn LB XB w u L x a) : XB < a.heap.size := (Array.getElem?_eq_some_iff.1 h.hx).1
theorem HIn.go {LB XB : Nat} {w : World} {u : Value} {L : List EntS} {x : EntS} {a c : World} (h : HIn LB XB w u L x a) (g : a.grownBy c none) : HIn LB XB w u L x c :=
  ⟨own_grown5 h.own g, g.heap h.hx (by simp), grownBy_trans h.gr g, h.ne, h.lb, h.lx⟩
theorem HIn.drew {LB XB : Nat} {w : World} {u : Value} {L : List EntS} {x : EntS} {a : World} (h : HIn LB XB w u L x a) : HIn LB XB w u L x a.drew := ⟨h.own, h.hx, grownBy_drew h.gr, h.ne, h.lb, h.lx⟩
theorem HIn.cells {LB XB : Nat} {w : World} {u : Value} {L : List EntS} {v : Nat} {o r p : ByteArray} {z : Int} {a : World} (h : HIn LB XB w u L ⟨v, o, r, z, p⟩ a) :
    a.cell? ⟨XB, 0, none⟩ = some (.int .u64 v) ∧ a.cell? ⟨XB, 1, none⟩ = some (.string o) ∧ a.cell? ⟨XB, 2, none⟩ = some (.string r) ∧ a.cell? ⟨XB, 3, none⟩ = some (.int .i64 z) ∧ a.cell? ⟨XB, 4, none⟩ = some (.string p) := by
  have h1 : a.heap[XB]? = some (.cells #[.int .u64 v, .string o, .string r, .int .i64 z, .string p] 52 (0, 0)) := h.hx
  exact cells5 h1
theorem HIn.push {LB XB : Nat} {w : World} {u : Value} {L : List EntS} {x : EntS} {a c : World} {g cap : Nat} (h : HIn LB XB w u L x a) (y : EntS) (k : a.grownBy c u.ownBlock)
    (ho : c.ownsRow LB 52 5 (.slice (some ⟨g, 0, none⟩) (L.length + 1) cap) (L.length + 1) (entsV L ++ y.cells)) (hg : u.ownBlock = some g ∨ g = a.heap.size) : HIn LB XB w (.slice (some ⟨g, 0, none⟩) (L.length + 1) cap) (L ++ [y]) x c := by
  refine ⟨?_, k.heap h.hx h.ne, grown_row h.gr k (fun q e => Nat.le_trans h.lb (h.own.lt q e).1), ?_, h.lb, h.lx⟩
  · rw [entsV_append, entsV_one, List.length_append]
    exact ho
  · have := h.lt
    rcases hg with e | e
    · show some g ≠ some XB
      rw [← e]; exact h.ne
    · intro q
      simp only [Value.ownBlock, Option.some.injEq] at q
      omega
end Go.Proofs.YtgaenpbdfelhhaaDoor
