/- Plain words for SectorPlays: what lasts and what is read behind a Sync and behind a Cut, as texts. No walk; nothing of the program. -/
import Derived.Test.YtfomchkmedoenaaSecSpec
import Derived.Test.YtfomchkmedoenaaOctetSpec
namespace Go.Proofs.Ytfomchkmedoenaa

/-- what lasts, as texts -/
def lastL (l : List (List UInt8)) : List ByteArray := l.map str
/-- what is read, as texts -/
def nowT (n : Nat) (l : List (List UInt8)) (w : List (Nat × List UInt8)) : List ByteArray := (List.range n).map fun i => str (readL l w i)
theorem lastL_len (l : List (List UInt8)) : (lastL l).length = l.length := List.length_map _
theorem nowT_len (n : Nat) (l : List (List UInt8)) (w : List (Nat × List UInt8)) : (nowT n l w).length = n := by unfold nowT; rw [List.length_map, List.length_range]
theorem nowT_nil {n : Nat} (l : List (List UInt8)) (h : l.length = n) : nowT n l [] = lastL l := by
  apply List.ext_getElem?
  intro i
  unfold nowT lastL
  by_cases hi : i < n
  · rw [List.getElem?_map, List.getElem?_range hi, List.getElem?_map, List.getElem?_eq_getElem (by omega)]
    show some (str (l.getD i [])) = _
    rw [List.getD_eq_getElem?_getD, List.getElem?_eq_getElem (by omega)]
    rfl
  · rw [List.getElem?_eq_none (by simp; omega), List.getElem?_eq_none (by simp; omega)]
theorem syncL_at : ∀ (w : List (Nat × List UInt8)) (l : List (List UInt8)) (i : Nat), Waits l.length w → (syncL l w).getD i [] = readL l w i
  | [], l, i, _ => rfl
  | x :: r, l, i, h => by
    have hx := (h x (by simp)).1
    rw [syncL, syncL_at r _ i (by rw [List.length_set]; exact fun y hy => h y (by simp [hy]))]
    unfold readL
    rw [lastOf]
    cases lastOf r i with
    | some s => rfl
    | none =>
      show (l.set x.1 x.2).getD i [] = _
      rw [List.getD_eq_getElem?_getD]
      by_cases hq : x.1 = i
      · subst hq
        rw [List.getElem?_set_self hx, if_pos rfl]
        rfl
      · rw [List.getElem?_set_ne hq, if_neg hq, List.getD_eq_getElem?_getD]
        rfl
/-- behind a Sync: what was read lasts -/
theorem sync_last {n : Nat} (l : List (List UInt8)) (w : List (Nat × List UInt8)) (h : l.length = n) (hw : Waits n w) : lastL (syncL l w) = nowT n l w := by
  rw [← nowT_nil (syncL l w) ((syncL_length w l).trans h)]
  unfold nowT
  refine List.map_congr_left fun i _ => ?_
  show str ((syncL l w).getD i []) = _
  rw [syncL_at w l i (by rw [h]; exact hw)]
theorem sync_now {n : Nat} (l : List (List UInt8)) (w : List (Nat × List UInt8)) (h : l.length = n) (hw : Waits n w) : nowT n (syncL l w) [] = nowT n l w := by
  rw [nowT_nil _ ((syncL_length w l).trans h), sync_last l w h hw]
theorem wrote_now (n : Nat) (l : List (List UInt8)) (w : List (Nat × List UInt8)) (q : Nat) (s : List UInt8) : nowT n l (w ++ [(q, s)]) = (nowT n l w).set q (str s) := by
  apply List.ext_getElem?
  intro i
  unfold nowT
  have hr : readL l (w ++ [(q, s)]) i = if q = i then s else readL l w i := by
    unfold readL
    rw [lastOf_snoc]
    by_cases h : q = i <;> simp [h]
  by_cases hi : i < n
  · rw [List.getElem?_map, List.getElem?_range hi]
    show some (str (readL l (w ++ [(q, s)]) i)) = _
    rw [hr]
    by_cases hq : q = i
    · subst hq
      rw [if_pos rfl, List.getElem?_set_self (by rw [List.length_map, List.length_range]; exact hi)]
    · rw [if_neg hq, List.getElem?_set_ne hq, List.getElem?_map, List.getElem?_range hi]
      rfl
  · rw [List.getElem?_eq_none (by rw [List.length_map, List.length_range]; omega), List.getElem?_eq_none (by rw [List.length_set, List.length_map, List.length_range]; omega)]
/-- one writing of a Cut: the document's Torn of texts -/
theorem torn_str (old new : List UInt8) (k : Nat) (h : new.length = 64) (ho : old.length = 64) : str (tornL old new (min k 64)) = (str new).extract 0 (min k 64) ++ (str old).extract (min k 64) 64 := by
  apply ByteArray.ext
  apply Array.toList_inj.1
  unfold tornL str
  simp only [ByteArray.data_append, ByteArray.data_extract, Array.toList_append, Array.toList_extract]
  rw [List.extract_eq_take_drop, List.extract_eq_take_drop, List.drop_zero, Nat.sub_zero, List.take_of_length_le (l := old.drop (min k 64)) (by rw [List.length_drop, ho]; exact Nat.le_refl _)]
/-- Cut's loop, one writing more -/
theorem cut_stepT {n : Nat} (l : List (List UInt8)) (w : List (Nat × List UInt8)) (ks : List UInt8) (k : Nat) (hl : l.length = n) (hs : Secs l) (hw : Waits n w) (hk : k < w.length) (hk2 : k < ks.length) :
    ∃ old, (lastL (cutL l (w.take k) ks))[(w[k]).1]? = some (str old) ∧ old.length = 64 ∧ lastL (cutL l (w.take (k + 1)) ks) = (lastL (cutL l (w.take k) ks)).set (w[k]).1 (str (tornL old (w[k]).2 (min (ks[k]).toNat 64))) := by
  have hwt : Waits n (w.take k) := fun y hy => hw y (List.mem_of_mem_take hy)
  have hlen := (cutL_length (w.take k) ks l).trans hl
  have hsec := cutL_secs (w.take k) ks l hl hs hwt
  have hx := (hw _ (List.getElem_mem hk)).1
  have ha : (cutL l (w.take k) ks)[(w[k]).1]? = some ((cutL l (w.take k) ks).getD (w[k]).1 []) := by
    rw [List.getD_eq_getElem?_getD, List.getElem?_eq_getElem (by omega)]
    rfl
  refine ⟨(cutL l (w.take k) ks).getD (w[k]).1 [], ?_, hsec.at (by omega), ?_⟩
  · unfold lastL
    rw [List.getElem?_map, ha]
    rfl
  · have hlt : (w.take k).length = k := by rw [List.length_take]; omega
    rw [← List.take_append_getElem hk, cutL_snoc _ _ _ _ (by rw [hlt]; exact hk2)]
    unfold lastL
    rw [List.map_set]
    simp only [hlt]
end Go.Proofs.Ytfomchkmedoenaa
