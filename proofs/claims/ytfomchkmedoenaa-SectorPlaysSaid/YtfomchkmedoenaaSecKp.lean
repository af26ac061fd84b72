/- What SectorKeeps needs of plain lists. No walk. -/
import Derived.Test.YtfomchkmedoenaaSecK
namespace Go.Proofs.Ytfomchkmedoenaa
open Go.RowKit

def strV (L : List ByteArray) : List Value := L.map Value.string
theorem strV_length (L : List ByteArray) : (strV L).length = L.length := by simp [strV]
theorem strV_at (L : List ByteArray) (k : Nat) (h : k < L.length) : (strV L)[k]? = some (.string L[k]) := by simp [strV, List.getElem?_eq_getElem h]
theorem strV_set (L : List ByteArray) (k : Nat) (s : ByteArray) : (strV L).toArray.setIfInBounds k (.string s) = (strV (L.set k s)).toArray := by
  apply Array.toList_inj.1
  simp [strV, List.map_set]
/-- what is read of each of n sectors -/
def nowL (n : Nat) (D : DiskS) : List ByteArray := (List.range n).map fun i => str (readL D.last D.wait i)
theorem nowL_length (n : Nat) (D : DiskS) : (nowL n D).length = n := by simp [nowL]
theorem nowL_at (n : Nat) (D : DiskS) (i : Nat) (h : i < n) : (nowL n D)[i]? = some (str (readL D.last D.wait i)) := by simp [nowL, h]
theorem readL_snoc (l : List (List UInt8)) (w : List (Nat × List UInt8)) (q : Nat) (s : List UInt8) (i : Nat) : readL l (w ++ [(q, s)]) i = if q = i then s else readL l w i := by
  unfold readL
  rw [lastOf_snoc]
  by_cases h : q = i <;> simp [h]
theorem nowL_wrote (n : Nat) (D : DiskS) (q : Nat) (s : ByteArray) : nowL n (wroteD D q s) = (nowL n D).set q (fullT s) := by
  apply List.ext_getElem?
  intro i
  by_cases hi : i < n
  · rw [nowL_at _ _ _ hi]
    show some (str (readL D.last (D.wait ++ [(q, fullL s.data.toList)]) i)) = _
    rw [readL_snoc]
    by_cases hq : q = i
    · subst hq
      rw [if_pos rfl, List.getElem?_set_self (by rw [nowL_length]; exact hi)]
      rfl
    · rw [if_neg hq, List.getElem?_set_ne hq, nowL_at _ _ _ hi]
  · rw [List.getElem?_eq_none (by rw [nowL_length]; omega), List.getElem?_eq_none (by rw [List.length_set, nowL_length]; omega)]
theorem syncL_read : ∀ (w : List (Nat × List UInt8)) (l : List (List UInt8)) (i : Nat), Waits l.length w → (syncL l w).getD i [] = readL l w i
  | [], l, i, _ => rfl
  | x :: r, l, i, h => by
    have hx := (h x (by simp)).1
    rw [syncL, syncL_read r _ i (by rw [List.length_set]; exact fun y hy => h y (by simp [hy]))]
    unfold readL
    rw [lastOf]
    cases lastOf r i with
    | some s => rfl
    | none =>
      show (l.set x.1 x.2).getD i [] = _
      rw [List.getD_eq_getElem?_getD]
      by_cases hq : x.1 = i
      · subst hq
        rw [List.getElem?_set_self hx, if_pos rfl]
        rfl
      · rw [List.getElem?_set_ne hq, if_neg hq, List.getD_eq_getElem?_getD]
        rfl
theorem nowL_new (n k : Nat) (h : k ≤ n) : nowL k (newD n) = List.replicate k (fullT ⟨#[]⟩) := by
  apply List.ext_getElem?
  intro i
  by_cases hi : i < k
  · rw [nowL_at _ _ _ hi, List.getElem?_replicate, if_pos hi]
    show some (str ((List.replicate n (zeros 64)).getD i [])) = _
    rw [List.getD_eq_getElem?_getD, List.getElem?_replicate, if_pos (by omega)]
    rfl
  · rw [List.getElem?_eq_none (by rw [nowL_length]; omega), List.getElem?_eq_none (by simp; omega)]
/-- each byte behind a Cut is the old one, or one that was written there -/
theorem cutL_keeps : ∀ (ws : List (Nat × List UInt8)) (ks : List UInt8) (l : List (List UInt8)), Secs l → Waits l.length ws → ∀ i k, k < 64 →
    ((cutL l ws ks).getD i [])[k]? = (l.getD i [])[k]? ∨ ∃ x ∈ ws, x.1 = i ∧ ((cutL l ws ks).getD i [])[k]? = x.2[k]?
  | [], _, _, _, _, _, _, _ => by rw [cutL]; exact .inl rfl
  | _ :: _, [], _, _, _, _, _, _ => by rw [cutL]; exact .inl rfl
  | x :: r, kk :: ks, l, hl, hw, i, k, hk => by
    have hx := hw x (by simp)
    have ho := hl.at hx.1
    rw [cutL]
    rcases cutL_keeps r ks (l.set x.1 (tornL (l.getD x.1 []) x.2 (min kk.toNat 64))) (hl.set _ (tornL_length _ _ _ ho hx.2)) (by rw [List.length_set]; exact fun y hy => hw y (by simp [hy])) i k hk with h | ⟨y, hy, h1, h2⟩
    · by_cases hq : x.1 = i
      · subst hq
        have e : (l.set x.1 (tornL (l.getD x.1 []) x.2 (min kk.toNat 64))).getD x.1 [] = tornL (l.getD x.1 []) x.2 (min kk.toNat 64) := by
          rw [List.getD_eq_getElem?_getD, List.getElem?_set_self hx.1]; rfl
        rw [e] at h
        rw [h]
        unfold tornL
        by_cases hp : k < min kk.toNat 64
        · right
          refine ⟨x, by simp, rfl, ?_⟩
          rw [List.getElem?_append_left (by rw [List.length_take, hx.2]; omega), List.getElem?_take, if_pos hp]
        · left
          rw [List.getElem?_append_right (by rw [List.length_take, hx.2]; omega), List.length_take, hx.2, List.getElem?_drop]
          congr 1
          omega
      · left
        have e : (l.set x.1 (tornL (l.getD x.1 []) x.2 (min kk.toNat 64))).getD i [] = l.getD i [] := by
          rw [List.getD_eq_getElem?_getD, List.getElem?_set_ne hq, List.getD_eq_getElem?_getD]
        rw [h, e]
    · exact .inr ⟨y, by simp [hy], h1, h2⟩
/-- the texts that were written to a sector, in order -/
def txsL (ws : List (Nat × List UInt8)) (i : Nat) : List ByteArray := (ws.filter fun x => x.1 == i).map fun x => str x.2
theorem txsL_snoc (ws : List (Nat × List UInt8)) (q : Nat) (s : List UInt8) (i : Nat) : txsL (ws ++ [(q, s)]) i = if q = i then txsL ws i ++ [str s] else txsL ws i := by
  unfold txsL
  rw [List.filter_append]
  by_cases h : q = i
  · simp [h]
  · have : (q == i) = false := by simpa using h
    simp [h, this, List.filter_cons]
theorem txsL_mem {ws : List (Nat × List UInt8)} {x : Nat × List UInt8} (h : x ∈ ws) : str x.2 ∈ txsL ws x.1 := List.mem_map.2 ⟨x, List.mem_filter.2 ⟨h, by simp⟩, rfl⟩
theorem txsL_size {n : Nat} {ws : List (Nat × List UInt8)} (hw : Waits n ws) (i : Nat) : ∀ t ∈ txsL ws i, t.size = 64 := by
  intro t ht
  obtain ⟨x, hx, rfl⟩ := List.mem_map.1 ht
  exact (hw x (List.mem_filter.1 hx).1).2
end Go.Proofs.Ytfomchkmedoenaa
