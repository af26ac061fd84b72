/- The document's Next (plumbobref01) at every text. · The walk of the document's Runes (plumbobref01). · The walk of label.Parts. · The walk of label.partMayBe. · The walk of label.labelMayBe. · The walk of label.Normal. · The walk of the label laws' speaks. · A text's parts, with a separator between each two, are the text. No walk. · Texts as encodings of runes. No walk. · The walk of the law LabelRunes. · Bits of numbers of kind i64 that are not below 0. No walk. · The walks of an entry's Next, and of History. · The walks of bits' functions. -/
import Derived.Test.YtioahjdojgcfdaaDoorLabelNextB
import Derived.Deep.LoopGhost
import Derived.Test.YtioahjdojgcfdaaDoorRosterLaysB2
import Derived.WalkSmall
import Derived.Deep.DeepCutAuto
import Derived.Laws.Bits64b
import Derived.WalkKit
import Derived.Test.YtioahjdojgcfdaaDoorRosterLaysB1
import Derived.WalkSpells
import Derived.WalkLawsBesides
import Derived.Laws.IdiomStrings
import Derived.Deep.RegionWith
namespace Go.Proofs.YtioahjdojgcfdaaDoor
open Go.RowKit

theorem byte_atL (s : ByteArray) (k : Nat) (h : k < s.size) : (s[k]'h).toNat = (s.data.toList.getD k 0).toNat := by
  have hk : k < s.data.toList.length := h
  rw [List.getD_eq_getElem?_getD, List.getElem?_eq_getElem hk]
  rfl

/-- the document's Next, at every text -/
theorem refNext_any (s : ByteArray) (w : World) : NextSays w s (refNextL s.data.toList) := by
  by_cases h : 0 < s.size
  · have hl : s.data.toList ≠ [] := by
      intro e
      have : s.data.toList.length = 0 := by rw [e]; rfl
      have h2 : s.data.toList.length = s.size := rfl
      omega
    rw [refNextL_eq _ hl, show s.data.toList.length = s.size from rfl]
    exact refNext_by s h w _ _ _ _ (byte_atL s 0 h) (byte_atL s 1) (byte_atL s 2) (byte_atL s 3) (UInt8.toNat_lt _) (UInt8.toNat_lt _) (UInt8.toNat_lt _) (UInt8.toNat_lt _)
  · have e : s.data.toList = [] := List.eq_nil_of_length_eq_zero (by show s.size = 0; omega)
    rw [e]
    exact next_empty s (by omega) w
end Go.Proofs.YtioahjdojgcfdaaDoor

namespace Go.Proofs.YtioahjdojgcfdaaDoor
open Go.RowKit Go.Lib

theorem infoInt : (Tryd.prog.info? 3).map (fun i => (i.zero, i.size, i.bytes)) = some (some (.int .i64 0), 1, 8) := by kernel_rfl

/-- a list of runes as cells -/
def runeInts (l : List Nat) : List Value := l.map fun (r : Nat) => .int .i64 (r : Int)

theorem cell_at_new (w : World) (v : Value) (t : TypeId) : (w.alloc (.cells #[v] t)).cell? ⟨w.heap.size, 0, none⟩ = some v := by
  have h : (w.alloc (.cells #[v] t)).heap[w.heap.size]? = some (.cells #[v] t (0, 0)) := by
    show (w.heap.push _)[w.heap.size]? = _
    simp
  exact cell_of_row _ w.heap.size 0 #[v] t (0, 0) h

set_option maxRecDepth 100000 in
set_option maxHeartbeats 1000000 in
theorem refRunes_good (s : ByteArray) (w : World) (hs : s.size ≤ 1099511627776) (hv : validD s.data.toList = true) :
    Calls Tryd.prog 78 #[.string s] w fun e w' => (∃ v, e = .returned (.tuple #[v, .bool true]) ∧ w'.ownsRow w.heap.size 3 1 v (runes s.data.toList).length (runeInts (runes s.data.toList))) ∧ Below w.heap.size w w' := by
  have HV := Lib.hid hv
  clear hv
  obtain ⟨i0, hi, hz0, hz1, hz2⟩ := info_parts infoInt
  go_enter Tryd.func78, Tryd.ntmps78
  go_wp2_with fail
  go_loopg [0, 4, 5, 6] s.size (fun g r v _ _ wr => ∃ t : ByteArray, ∃ done : List Nat, t.size ≤ g ∧ t.size ≤ s.size ∧ done.length + t.size ≤ s.size ∧ r = .string t ∧ Aside (runes s.data.toList = done ++ runes t.data.toList) ∧ Aside (validD t.data.toList = true) ∧ wr.ownsRow w.heap.size 3 1 v done.length (runeInts done) ∧ Hid (Below w.heap.size w wr))
  case atStart => exact ⟨s, [], Nat.le_refl _, Nat.le_refl _, by simp, rfl, rfl, HV.out, (World.ownsRow_nil _ _ _ _ : w.ownsRow w.heap.size 3 1 (.slice none 0 0) 0 []), Below.refl _ _⟩
  case round =>
    obtain ⟨t, done, hg, hts, hd, rfl, HL, HT, hown, HB⟩ := hrel
    have HO := Lib.hid hown
    clear hown
    by_cases h0 : 0 < t.size
    · have hne : t.data.toList ≠ [] := by
        intro e
        have : t.data.toList.length = 0 := by rw [e]; rfl
        have h2 : t.data.toList.length = t.size := rfl
        omega
      have hstep := validD_step t.data.toList hne
      rw [HT.out] at hstep
      have hnb : ¬ bad t.data.toList := by
        intro hb
        unfold bad at hb
        rw [if_pos hb] at hstep
        cases hstep
      have hnb' := hnb
      unfold bad at hnb'
      rw [if_neg hnb'] at hstep
      have hnx : refNextL t.data.toList = decodeL t.data.toList := by unfold refNextL; rw [if_neg hne, if_neg hnb]
      have hw1 := decodeL_width t.data.toList
      have hw2 : (decodeL t.data.toList).2 ≤ t.size := decodeL_le _ hne
      have hr := runes_step _ hne
      obtain ⟨r, k, hrk⟩ : ∃ r k, decodeL t.data.toList = (r, k) := ⟨_, _, rfl⟩
      rw [hrk] at hstep hnx hw1 hw2 hr
      simp only at hstep hw1 hw2 hr
      have HS := Lib.hid (And.intro hstep (And.intro hnx hr))
      clear hstep hnx hr hrk hnb hnb' hne
      go_wp2_with fail
      refine (refNext_any t _).mono ?_
      rintro e w1 ⟨rfl, rfl⟩
      rw [HS.out.2.1]
      have hkz : ((k : Int) == 0) = false := by rw [beq_eq_false_iff_ne]; omega
      go_wp2_with (at_builtin; refine wpList_append_own _ rfl _ _ 24 rfl w.heap.size 3 i0 (.int .i64 0) 1 8 Tryd.underlying24 hi hz0 hz1 hz2 rfl (by decide) _ _ _ rfl (HO.out.alloc _) ⟨wr.heap.size, 0, none⟩ 1 1 [.int .i64 r] rfl rfl ?q1 ?q2 ?q3 ?q4 ?q5 ?_)
      case q1 =>
        intro j u hj
        match j, hj with
        | 0, hj => simp at hj; subst hj; rw [show Addr.add ⟨wr.heap.size, 0, none⟩ 0 = (⟨wr.heap.size, 0, none⟩ : Addr) from rfl, cell_at_new]
      case q2 => intro u hu; simp at hu; subst hu; rfl
      case q3 => unfold maxLen; omega
      case q4 => omega
      case q5 => have := HB.out.size; simp; omega
      intro v' w2 hown2 hgrow hnn
      have HO2 := Lib.hid hown2
      have HB2 : Hid (Below w.heap.size w w2) := (HB.out.alloc HB.out.size _).grown hgrow (by have := HB.out.size; simp; omega) (fun g hg => (HO.out.lt g hg).1)
      clear hown2 hgrow hnn HO HB
      go_wp2_with fail
      go_roundg (gk - 1)
      case measure => omega
      case rel =>
        have hdrop : (t.extract k t.size).data.toList = t.data.toList.drop k := by
          rw [extract_data, List.take_of_length_le (by rw [List.length_drop]; exact Nat.le_refl _)]
        have hsz : (t.extract k t.size).size = t.size - k := by
          show (t.extract k t.size).data.toList.length = _
          rw [hdrop, List.length_drop]
          rfl
        refine ⟨t.extract k t.size, done ++ [r], by omega, by omega, by rw [List.length_append, List.length_singleton]; omega, rfl, ?_, ?_, ?_, HB2⟩
        · have := HL.out
          rw [HS.out.2.2] at this
          show _ = _
          rw [this, hdrop]
          simp
        · show _ = _
          rw [hdrop]
          exact HS.out.1.symm
        · have := HO2.out
          rw [List.length_append, List.length_singleton]
          simpa [runeInts] using this
    · go_wp2_with fail
      go_ret2
      have ht : t.data.toList = [] := List.eq_nil_of_length_eq_zero (by show t.size = 0; omega)
      have := HL.out
      rw [ht, runes_nil, List.append_nil] at this
      rw [this]
      exact ⟨⟨_, rfl, HO.out⟩, HB.out⟩

set_option maxRecDepth 100000 in
set_option maxHeartbeats 1000000 in
theorem refRunes_bad (s : ByteArray) (w : World) (hs : s.size ≤ 1099511627776) (hv : validD s.data.toList = false) :
    Calls Tryd.prog 78 #[.string s] w fun e w' => e = .returned (.tuple #[.slice none 0 0, .bool false]) ∧ Below w.heap.size w w' := by
  have HV := Lib.hid hv
  clear hv
  obtain ⟨i0, hi, hz0, hz1, hz2⟩ := info_parts infoInt
  go_enter Tryd.func78, Tryd.ntmps78
  go_wp2_with fail
  go_loopg [0, 4, 5, 6] s.size (fun g r v _ _ wr => ∃ t : ByteArray, ∃ done : List Nat, t.size ≤ g ∧ t.size ≤ s.size ∧ done.length + t.size ≤ s.size ∧ r = .string t ∧ Aside (validD t.data.toList = false) ∧ wr.ownsRow w.heap.size 3 1 v done.length (runeInts done) ∧ Hid (Below w.heap.size w wr))
  case atStart => exact ⟨s, [], Nat.le_refl _, Nat.le_refl _, by simp, rfl, HV.out, (World.ownsRow_nil _ _ _ _ : w.ownsRow w.heap.size 3 1 (.slice none 0 0) 0 []), Below.refl _ _⟩
  case round =>
    obtain ⟨t, done, hg, hts, hd, rfl, HT, hown, HB⟩ := hrel
    have HO := Lib.hid hown
    clear hown
    have hne : t.data.toList ≠ [] := by
      intro e
      have := HT.out
      rw [e] at this
      cases this
    have h0 : 0 < t.size := by
      have : 0 < t.data.toList.length := List.length_pos_iff.2 hne
      exact this
    have hstep := validD_step t.data.toList hne
    rw [HT.out] at hstep
    by_cases hb : bad t.data.toList
    · have hnx : refNextL t.data.toList = (0, 0) := by unfold refNextL; rw [if_neg hne, if_pos hb]
      have HX := Lib.hid hnx
      clear hnx hb hstep hne
      go_wp2_with fail
      refine (refNext_any t _).mono ?_
      rintro e w1 ⟨rfl, rfl⟩
      rw [HX.out]
      go_wp2_with fail
      go_ret2
      exact ⟨rfl, HB.out⟩
    · have hnb' := hb
      unfold bad at hnb'
      rw [if_neg hnb'] at hstep
      have hnx : refNextL t.data.toList = decodeL t.data.toList := by unfold refNextL; rw [if_neg hne, if_neg hb]
      have hw1 := decodeL_width t.data.toList
      have hw2 : (decodeL t.data.toList).2 ≤ t.size := decodeL_le _ hne
      obtain ⟨r, k, hrk⟩ : ∃ r k, decodeL t.data.toList = (r, k) := ⟨_, _, rfl⟩
      rw [hrk] at hstep hnx hw1 hw2
      simp only at hstep hw1 hw2
      have HS := Lib.hid (And.intro hstep hnx)
      clear hstep hnx hrk hb hnb' hne
      go_wp2_with fail
      refine (refNext_any t _).mono ?_
      rintro e w1 ⟨rfl, rfl⟩
      rw [HS.out.2]
      have hkz : ((k : Int) == 0) = false := by rw [beq_eq_false_iff_ne]; omega
      go_wp2_with (at_builtin; refine wpList_append_own _ rfl _ _ 24 rfl w.heap.size 3 i0 (.int .i64 0) 1 8 Tryd.underlying24 hi hz0 hz1 hz2 rfl (by decide) _ _ _ rfl (HO.out.alloc _) ⟨wr.heap.size, 0, none⟩ 1 1 [.int .i64 r] rfl rfl ?q1 ?q2 ?q3 ?q4 ?q5 ?_)
      case q1 =>
        intro j u hj
        match j, hj with
        | 0, hj => simp at hj; subst hj; rw [show Addr.add ⟨wr.heap.size, 0, none⟩ 0 = (⟨wr.heap.size, 0, none⟩ : Addr) from rfl, cell_at_new]
      case q2 => intro u hu; simp at hu; subst hu; rfl
      case q3 => unfold maxLen; omega
      case q4 => omega
      case q5 => have := HB.out.size; simp; omega
      intro v' w2 hown2 hgrow hnn
      have HO2 := Lib.hid hown2
      have HB2 : Hid (Below w.heap.size w w2) := (HB.out.alloc HB.out.size _).grown hgrow (by have := HB.out.size; simp; omega) (fun g hg => (HO.out.lt g hg).1)
      clear hown2 hgrow hnn HO HB
      go_wp2_with fail
      go_roundg (gk - 1)
      case measure => omega
      case rel =>
        have hdrop : (t.extract k t.size).data.toList = t.data.toList.drop k := by
          rw [extract_data, List.take_of_length_le (by rw [List.length_drop]; exact Nat.le_refl _)]
        have hsz : (t.extract k t.size).size = t.size - k := by
          show (t.extract k t.size).data.toList.length = _
          rw [hdrop, List.length_drop]
          rfl
        refine ⟨t.extract k t.size, done ++ [r], by omega, by omega, by rw [List.length_append, List.length_singleton]; omega, rfl, ?_, ?_, HB2⟩
        · show _ = _
          rw [hdrop]
          exact HS.out.1.symm
        · have := HO2.out
          rw [List.length_append, List.length_singleton]
          simpa [runeInts] using this
end Go.Proofs.YtioahjdojgcfdaaDoor

namespace Go.Proofs.YtioahjdojgcfdaaDoor
open Go.RowKit Go.Lib

/-- what stands between the separators, the bytes since the last one being 'cur' -/
def partsNL : Nat → List UInt8 → List UInt8 → List (List UInt8)
  | 0, cur, _ => [cur]
  | n + 1, cur, l => if l = [] then [cur] else if sepI ((decodeL l).1 : Int) = true then cur :: partsNL n [] (l.drop (decodeL l).2) else partsNL n (cur ++ l.take (decodeL l).2) (l.drop (decodeL l).2)
def parts (cur l : List UInt8) : List (List UInt8) := partsNL l.length cur l

theorem partsN_more : ∀ (n m : Nat) (cur l : List UInt8), l.length ≤ n → l.length ≤ m → partsNL n cur l = partsNL m cur l
  | 0, 0, _, _, _, _ => rfl
  | 0, m + 1, cur, l, h, _ => by
    have : l = [] := List.eq_nil_of_length_eq_zero (by omega)
    simp [partsNL, this]
  | n + 1, 0, cur, l, _, h => by
    have : l = [] := List.eq_nil_of_length_eq_zero (by omega)
    simp [partsNL, this]
  | n + 1, m + 1, cur, l, h1, h2 => by
    unfold partsNL
    by_cases hl : l = []
    · simp [hl]
    · rw [if_neg hl, if_neg hl]
      have hw := decodeL_width l
      have hp : 0 < l.length := List.length_pos_iff.2 hl
      rw [partsN_more n m [] (l.drop (decodeL l).2) (by simp; omega) (by simp; omega), partsN_more n m (cur ++ l.take (decodeL l).2) (l.drop (decodeL l).2) (by simp; omega) (by simp; omega)]
theorem parts_nil (cur : List UInt8) : parts cur [] = [cur] := rfl
theorem parts_step (cur l : List UInt8) (h : l ≠ []) : parts cur l = if sepI ((decodeL l).1 : Int) = true then cur :: parts [] (l.drop (decodeL l).2) else parts (cur ++ l.take (decodeL l).2) (l.drop (decodeL l).2) := by
  have hp : 0 < l.length := List.length_pos_iff.2 h
  have hw := decodeL_width l
  obtain ⟨n, hn⟩ : ∃ n, l.length = n + 1 := ⟨l.length - 1, by omega⟩
  unfold parts
  rw [hn]
  conv => lhs; unfold partsNL
  rw [if_neg h, partsN_more n (l.drop (decodeL l).2).length _ _ (by simp; omega) (Nat.le_refl _), partsN_more n (l.drop (decodeL l).2).length _ _ (by simp; omega) (Nat.le_refl _)]

/-- a separator is one byte -/
theorem sep_one (l : List UInt8) (h : sepI ((decodeL l).1 : Int) = true) (hne : l ≠ []) : (decodeL l).2 = 1 := by
  have hr : (decodeL l).1 < 128 := by
    unfold sepI at h
    simp at h
    omega
  rw [decodeL_N] at hr ⊢
  unfold decodeN at hr ⊢
  repeat' split at hr
  all_goals simp_all
  all_goals omega

/-- texts as cells -/
def textCells (l : List (List UInt8)) : List Value := l.map fun x => .string ⟨x.toArray⟩

theorem infoText : (Tryd.prog.info? 9).map (fun i => (i.zero, i.size, i.bytes)) = some (some (.string ⟨#[]⟩), 1, 16) := by kernel_rfl

theorem textCells_snoc (l : List (List UInt8)) (x : List UInt8) : textCells (l ++ [x]) = textCells l ++ [.string ⟨x.toArray⟩] := by simp [textCells]
theorem textCells_length (l : List (List UInt8)) : (textCells l).length = l.length := by simp [textCells]
theorem extract_str (s : ByteArray) (a b : Nat) : s.extract a b = ⟨((s.data.toList.drop a).take (b - a)).toArray⟩ := extract_eq s a b

theorem ownsRow_base {w : World} {B B' : Nat} {e : TypeId} {size n : Nat} {v : Value} {xs : List Value} (h : w.ownsRow B e size v n xs) (hB : B' ≤ B) : w.ownsRow B' e size v n xs := by
  refine ⟨h.1, ?_⟩
  rcases h.2 with h1 | ⟨g, cap, cur, h1, h2, h3⟩
  · exact .inl h1
  · exact .inr ⟨g, cap, cur, h1, Nat.le_trans hB h2, h3⟩

/-- the slice that holds some texts -/
def OwnsTexts (w : World) (B : Nat) (v : Value) (l : List (List UInt8)) : Prop := w.ownsRow B 9 1 v l.length (textCells l)

theorem parts_count_le : ∀ (n : Nat) (cur l : List UInt8), l.length ≤ n → (parts cur l).length ≤ l.length + 1
  | 0, cur, l, h => by
    have : l = [] := List.eq_nil_of_length_eq_zero (by omega)
    rw [this, parts_nil]
    simp
  | n + 1, cur, l, h => by
    by_cases hl : l = []
    · rw [hl, parts_nil]
      simp
    · rw [parts_step _ _ hl]
      have hw := decodeL_width l
      have hp : 0 < l.length := List.length_pos_iff.2 hl
      have h1 := parts_count_le n [] (l.drop (decodeL l).2) (by simp; omega)
      have h2 := parts_count_le n (cur ++ l.take (decodeL l).2) (l.drop (decodeL l).2) (by simp; omega)
      rw [List.length_drop] at h1 h2
      split
      · rw [List.length_cons]
        omega
      · omega

set_option maxRecDepth 100000 in
set_option maxHeartbeats 2000000 in
theorem parts_anyL (s : ByteArray) (w : World) (hs : s.size ≤ 1099511627776) :
    Calls Tryd.prog 150 #[.string s] w fun e w' => (∃ v, e = .returned v ∧ OwnsTexts w' w.heap.size v (parts [] s.data.toList)) ∧ Below w.heap.size w w' := by
  obtain ⟨i0, hi, hz0, hz1, hz2⟩ := info_parts infoText
  go_enter Tryd.func150, Tryd.ntmps150
  go_wp2_with fail
  go_loopg [3, 4, 5, 6] s.size (fun g v fr _ _ wr => ∃ pos fm : Nat, ∃ done : List (List UInt8), pos + g ≥ s.size ∧ pos ≤ s.size ∧ fm ≤ pos ∧ done.length ≤ pos ∧ fr = .int .i64 fm ∧
      Aside (parts [] s.data.toList = done ++ parts ((s.data.toList.drop fm).take (pos - fm)) (s.data.toList.drop pos)) ∧ wr.ownsRow (w.heap.size + 1) 9 1 v done.length (textCells done) ∧
      Hid (wr.heap[w.heap.size]? = some (.stringIter s pos)) ∧ Hid (Below w.heap.size w wr))
  case atStart => exact ⟨0, 0, [], by omega, Nat.zero_le _, Nat.le_refl _, Nat.le_refl _, rfl, rfl, (World.ownsRow_nil _ _ _ _ : World.ownsRow _ (w.heap.size + 1) 9 1 (.slice none 0 0) 0 []), w.iter_heap s 0, (Below.refl _ _).alloc (Nat.le_refl _) _⟩
  case round =>
    obtain ⟨pos, fm, done, hg, hp, hf, hd, rfl, HL, hown, HI, HB⟩ := hrel
    have HO := Lib.hid hown
    have hlen : s.data.toList.length = s.size := rfl
    have hwsz : w.heap.size < wr.heap.size := (Array.getElem?_eq_some_iff.1 HI.out).1
    clear hown
    by_cases hlt : pos < s.size
    · have hnx := fun ty => run_next_any_at (P := Tryd.prog) wr w.heap.size s pos ty HI.out hlt
      obtain ⟨k1, k2, k3⟩ := pos_step s pos hlt
      have hne : s.data.toList.drop pos ≠ [] := by
        intro e
        have : (s.data.toList.drop pos).length = 0 := by rw [e]; rfl
        rw [List.length_drop] at this
        omega
      have hps := parts_step ((s.data.toList.drop fm).take (pos - fm)) _ hne
      have hso := sep_one (s.data.toList.drop pos)
      rw [decodeL_drop] at hps hso
      have HI2 := Lib.hid (iterAt_heap wr w.heap.size s pos (pos + (Utf8.decode s pos).2) HI.out)
      have HB2 := Lib.hid (below_iterAt HB.out (Nat.le_refl _) s (pos + (Utf8.decode s pos).2))
      have HO2 := Lib.hid (ownsRow_iterAt HO.out (Nat.lt_succ_self _) s (pos + (Utf8.decode s pos).2))
      cases hsep : sepI ((Utf8.decode s pos).1 : Int) with
      | true =>
        have hone := hso hsep hne
        rw [hsep, if_pos rfl] at hps
        have HS := Lib.hid (And.intro hps (And.intro hone (And.intro hsep (And.intro k1 k2))))
        clear hps hone hsep hso k1 k2 k3 hne HI HB HO
        go_wp2_with (first | (go_at_call 168; refine (isSeparator_any _ _).mono ?_; rintro e w2 ⟨rfl, rfl⟩; rw [HS.out.2.2.1]) | (at_builtin; refine wpList_append_own _ rfl _ _ 44 rfl (w.heap.size + 1) 9 i0 (.string ⟨#[]⟩) 1 16 Tryd.underlying44 hi hz0 hz1 hz2 rfl (by decide) _ _ _ rfl (HO2.out.alloc _) ⟨(wr.iterAt w.heap.size s (pos + (Utf8.decode s pos).2)).heap.size, 0, none⟩ 1 1 [.string (s.extract fm pos)] rfl rfl ?q1 ?q2 ?q3 ?q4 ?q5 ?_))
        case q1 =>
          intro j u hj
          match j, hj with
          | 0, hj => simp at hj; subst hj; rw [show Addr.add ⟨(wr.iterAt w.heap.size s (pos + (Utf8.decode s pos).2)).heap.size, 0, none⟩ 0 = (⟨(wr.iterAt w.heap.size s (pos + (Utf8.decode s pos).2)).heap.size, 0, none⟩ : Addr) from rfl, cell_at_new]
        case q2 => intro u hu; simp at hu; subst hu; rfl
        case q3 => unfold maxLen; omega
        case q4 => omega
        case q5 => simp [iterAt_size]; omega
        intro v' w2 hown2 hgrow hnn
        have HO3 := Lib.hid hown2
        have hge : ∀ g, Value.ownBlock _ = some g → w.heap.size + 1 ≤ g := fun g hg => (HO2.out.lt g hg).1
        have HB3 : Hid (Below w.heap.size w w2) := (HB2.out.alloc (by rw [iterAt_size]; omega) _).grown hgrow (by simp [iterAt_size]; omega) (fun g hg => by have := hge g hg; omega)
        have HI3 : Hid (w2.heap[w.heap.size]? = some (.stringIter s (pos + (Utf8.decode s pos).2))) := by
          have h1 := hgrow.block w.heap.size (by simp [iterAt_size]; omega) (by intro e; have := hge _ e.symm; omega)
          rw [show w2.heap[w.heap.size]? = _ from h1, Below.heap_alloc _ _ _ (by rw [iterAt_size]; omega)]
          exact HI2.out
        clear hown2 hgrow hnn HO2 HB2 hge hnx HI2
        go_wp2_with fail
        go_roundg (gk - 1)
        case measure => omega
        case rel =>
          obtain ⟨e1, e2, e3, e4, e5⟩ := HS.out
          refine ⟨pos + (Utf8.decode s pos).2, pos + 1, done ++ [(s.data.toList.drop fm).take (pos - fm)], by omega, e5, by omega, by rw [List.length_append, List.length_singleton]; omega, by go_num, ?_, ?_, HI3, HB3⟩
          · have := HL.out
            rw [e1, List.drop_drop] at this
            show _ = _
            rw [this, e2, Nat.sub_self, List.take_zero, List.append_assoc]
            rfl
          · have := HO3.out
            rw [extract_str] at this
            rw [textCells_snoc, List.length_append, List.length_singleton]
            exact this
      | false =>
        rw [hsep, if_neg (by decide)] at hps
        have HS := Lib.hid (And.intro hps (And.intro hsep (And.intro k1 k2)))
        clear hps hsep hso k1 k2 k3 hne HI HB HO
        go_wp2_with (first | (go_at_call 168; refine (isSeparator_any _ _).mono ?_; rintro e w2 ⟨rfl, rfl⟩; rw [HS.out.2.1]))
        go_roundg (gk - 1)
        case measure => omega
        case rel =>
          obtain ⟨e1, e3, e4, e5⟩ := HS.out
          refine ⟨pos + (Utf8.decode s pos).2, fm, done, by omega, e5, by omega, by omega, rfl, ?_, HO2.out, HI2, HB2⟩
          have := HL.out
          rw [e1, List.drop_drop] at this
          show _ = _
          rw [this]
          congr 2
          have ht : pos + (Utf8.decode s pos).2 - fm = (pos - fm) + (Utf8.decode s pos).2 := by omega
          rw [ht, List.take_add, List.drop_drop, show fm + (pos - fm) = pos from by omega]
    · have hnx := fun ty => run_next_end_at (P := Tryd.prog) wr w.heap.size s pos ty HI.out hlt
      have hpe : pos = s.size := by omega
      have hd0 : s.data.toList.drop pos = [] := List.drop_eq_nil_of_le (by show s.size ≤ pos; omega)
      have HD := Lib.hid (And.intro hpe hd0)
      clear hpe hd0
      go_wp2_with (first | (at_builtin; refine wpList_append_own _ rfl _ _ 44 rfl (w.heap.size + 1) 9 i0 (.string ⟨#[]⟩) 1 16 Tryd.underlying44 hi hz0 hz1 hz2 rfl (by decide) _ _ _ rfl (HO.out.alloc _) ⟨wr.heap.size, 0, none⟩ 1 1 [.string (s.extract fm s.size)] rfl rfl ?q1 ?q2 ?q3 ?q4 ?q5 ?_))
      case q1 =>
        intro j u hj
        match j, hj with
        | 0, hj => simp at hj; subst hj; rw [show Addr.add ⟨wr.heap.size, 0, none⟩ 0 = (⟨wr.heap.size, 0, none⟩ : Addr) from rfl, cell_at_new]
      case q2 => intro u hu; simp at hu; subst hu; rfl
      case q3 => unfold maxLen; omega
      case q4 => omega
      case q5 => simp; omega
      intro v' w2 hown2 hgrow hnn
      have HO3 := Lib.hid hown2
      have hge : ∀ g, Value.ownBlock _ = some g → w.heap.size + 1 ≤ g := fun g hg => (HO.out.lt g hg).1
      have HB3 : Hid (Below w.heap.size w w2) := (HB.out.alloc (by omega) _).grown hgrow (by simp; omega) (fun g hg => by have := hge g hg; omega)
      clear hown2 hgrow hnn hge hnx
      go_wp2_with fail
      go_ret
      obtain ⟨e1, e2⟩ := HD.out
      have := HL.out
      rw [e2, parts_nil] at this
      refine ⟨⟨_, rfl, ?_⟩, HB3.out⟩
      unfold OwnsTexts
      rw [this, List.length_append, List.length_singleton, textCells_snoc, e1]
      have h2 := HO3.out
      rw [extract_str] at h2
      exact ownsRow_base h2 (by omega)
end Go.Proofs.YtioahjdojgcfdaaDoor

namespace Go.Proofs.YtioahjdojgcfdaaDoor
open Go.RowKit Go.Lib

/-- the alphabets' sum is one of eight -/
def Oct (a : Int) : Prop := a = 0 ∨ a = 1 ∨ a = 2 ∨ a = 3 ∨ a = 4 ∨ a = 5 ∨ a = 6 ∨ a = 7
theorem letter_four (r : Int) : letterI r = 0 ∨ letterI r = 1 ∨ letterI r = 2 ∨ letterI r = 4 := by
  unfold letterI lowI
  repeat' split
  all_goals simp
theorem oct_or {a b : Int} (ha : Oct a) (hb : b = 0 ∨ b = 1 ∨ b = 2 ∨ b = 4) : Oct (bits .or .i64 a b) := by
  unfold Oct at *
  rcases ha with rfl | rfl | rfl | rfl | rfl | rfl | rfl | rfl <;> rcases hb with rfl | rfl | rfl | rfl <;> decide
theorem oct_alph : ∀ (l : List Nat) (a : Int), Oct a → Oct (alphOf a l)
  | [], _, h => h
  | r :: l, a, h => oct_alph l _ (oct_or h (letter_four _))

/-- not more than one alphabet -/
def oneI (a : Int) : Bool := decide (a = 0) || decide (a = 1) || decide (a = 2) || decide (a = 4)
def pop8 (a : Int) : Int := if a = 0 then 0 else if a = 1 ∨ a = 2 ∨ a = 4 then 1 else if a = 7 then 3 else 2

set_option maxHeartbeats 2000000 in
theorem ones_any (a : Int) (h : Oct a) (w : World) : Calls Tryd.prog 171 #[.int .u64 a] w fun e w' => e = .returned (.int .i64 (pop8 a)) ∧ w = w' := by
  rcases h with rfl | rfl | rfl | rfl | rfl | rfl | rfl | rfl
  all_goals
    go_enter Tryd.func171, Tryd.ntmps171
    go_wp2
    go_ret
    exact ⟨by kernel_rfl, rfl⟩

/-- each of these runes is a digit or a letter -/
def goodRunes (l : List Nat) : Bool := l.all fun r => digI r || !(letterI r == 0)
/-- a part that may be -/
def partI (l : List UInt8) : Bool := goodRunes (runes l) && !l.isEmpty && oneI (alphOf 0 (runes l))
theorem goodRunes_cons (r : Nat) (l : List Nat) : goodRunes (r :: l) = ((digI r || !(letterI r == 0)) && goodRunes l) := rfl

theorem pop_one {a : Int} (h : Oct a) : decide (pop8 a ≤ 1) = oneI a := by
  rcases h with rfl | rfl | rfl | rfl | rfl | rfl | rfl | rfl <;> decide
theorem oct_range {a : Int} (h : Oct a) : 0 ≤ a ∧ a ≤ 7 := by unfold Oct at h; omega

set_option maxRecDepth 100000 in
set_option maxHeartbeats 2000000 in
theorem partMayBe_any (s : ByteArray) (w : World) (hs : s.size ≤ 1099511627776) (hA : AlphaAt w) (hG : 4 < w.heap.size) :
    Calls Tryd.prog 151 #[.string s] w fun e w' => e = .returned (.bool (partI s.data.toList)) ∧ Below w.heap.size w w' := by
  have HA := Lib.hid hA
  clear hA
  go_enter Tryd.func151, Tryd.ntmps151
  go_wp2_with fail
  go_loopg [2, 4] s.size (fun g _ _ wr => ∃ pos : Nat, pos + g ≥ s.size ∧ pos ≤ s.size ∧ Aside (goodRunes (runes s.data.toList) = goodRunes (runes (s.data.toList.drop pos))) ∧ Hid (wr.heap[w.heap.size]? = some (.stringIter s pos)) ∧ Hid (Below w.heap.size w wr))
  case atStart => exact ⟨0, by omega, Nat.zero_le _, rfl, w.iter_heap s 0, (Below.refl _ _).alloc (Nat.le_refl _) _⟩
  case round =>
    obtain ⟨pos, hg, hp, HL, HI, HB⟩ := hrel
    by_cases hlt : pos < s.size
    · have hnx := fun ty => run_next_any_at (P := Tryd.prog) wr w.heap.size s pos ty HI.out hlt
      obtain ⟨k1, k2, k3⟩ := pos_step s pos hlt
      have hr : ((Utf8.decode s pos).1 : Int) ≤ 1114111 := by
        have := decodeL_rune (s.data.toList.drop pos)
        rw [decodeL_drop] at this
        omega
      have HB2 := Lib.hid (below_iterAt HB.out (Nat.le_refl _) s (pos + (Utf8.decode s pos).2))
      have HI2 := Lib.hid (iterAt_heap wr w.heap.size s pos (pos + (Utf8.decode s pos).2) HI.out)
      cases hd : digI ((Utf8.decode s pos).1 : Int) with
      | true =>
        have HS := Lib.hid (And.intro k1 (And.intro k2 (And.intro k3 hd)))
        clear k1 k2 k3 hd
        go_wp2_with (first | (go_at_call 169; refine (isDigit_any _ _).mono ?_; rintro e w2 ⟨rfl, rfl⟩; rw [HS.out.2.2.2]))
        go_roundg (gk - 1)
        case measure => omega
        case rel =>
          obtain ⟨e1, e2, e3, e4⟩ := HS.out
          refine ⟨pos + (Utf8.decode s pos).2, by omega, e2, ?_, HI2, HB2⟩
          show _ = _
          rw [HL.out, e3, goodRunes_cons, e4]
          rfl
      | false =>
        have HA2 := Lib.hid (HA.out.below HB2.out hG)
        have hG2 : 4 < (wr.iterAt w.heap.size s (pos + (Utf8.decode s pos).2)).heap.size := Nat.lt_of_lt_of_le hG HB2.out.size
        by_cases hl : letterI ((Utf8.decode s pos).1 : Int) = 0
        · have hl0 : (letterI ((Utf8.decode s pos).1 : Int) == 0) = true := by simpa using hl
          have hfalse : partI s.data.toList = false := by
            unfold partI
            rw [HL.out, k3, goodRunes_cons, hd, hl0]
            rfl
          have HF := Lib.hid hfalse
          have HS := Lib.hid hd
          clear hd hl hfalse k1 k2 k3
          go_wp2_with (first | (go_at_call 169; refine (isDigit_any _ _).mono ?_; rintro e w2 ⟨rfl, rfl⟩; rw [HS.out]) | (go_at_call 170; refine (alphabetOf_any _ ⟨by omega, by omega⟩ _ HA2.out hG2).mono ?_; rintro e w3 ⟨rfl, hb3⟩))
          go_ret
          refine ⟨?_, HB2.out.trans (Below.mono (by assumption) HB2.out.size)⟩
          rw [HF.out]
          rfl
        · have hl0 : (letterI ((Utf8.decode s pos).1 : Int) == 0) = false := by simpa using hl
          have HS := Lib.hid (And.intro k1 (And.intro k2 (And.intro k3 (And.intro hd hl0))))
          clear hd hl k1 k2 k3
          go_wp2_with (first | (go_at_call 169; refine (isDigit_any _ _).mono ?_; rintro e w2 ⟨rfl, rfl⟩; rw [HS.out.2.2.2.1]) | (go_at_call 170; refine (alphabetOf_any _ ⟨by omega, by omega⟩ _ HA2.out hG2).mono ?_; rintro e w3 ⟨rfl, hb3⟩; have HB4 := Lib.hid hb3; clear hb3))
          go_roundg (gk - 1)
          case measure => have := HS.out.1; omega
          case rel =>
            obtain ⟨e1, e2, e3, e4, e5⟩ := HS.out
            refine ⟨pos + (Utf8.decode s pos).2, by omega, e2, ?_, ?_, HB2.out.trans (Below.mono HB4.out HB2.out.size)⟩
            · show _ = _
              rw [HL.out, e3, goodRunes_cons, e5]
              simp
            · exact (HB4.out.block _ (Array.getElem?_eq_some_iff.1 HI2.out).1).trans HI2.out
    · have hnx := fun ty => run_next_end_at (P := Tryd.prog) wr w.heap.size s pos ty HI.out hlt
      have hd0 : s.data.toList.drop pos = [] := List.drop_eq_nil_of_le (by show s.size ≤ pos; omega)
      have hgood : goodRunes (runes s.data.toList) = true := by rw [HL.out, hd0]; rfl
      have HGD := Lib.hid hgood
      clear hd0 hgood
      have HA2 := Lib.hid (HA.out.below HB.out hG)
      have hG2 : 4 < wr.heap.size := Nat.lt_of_lt_of_le hG HB.out.size
      have hoct := oct_alph (runes s.data.toList) 0 (.inl rfl)
      have hrg := oct_range hoct
      obtain ⟨A, hAeq⟩ : ∃ A, A = alphOf 0 (runes s.data.toList) := ⟨_, rfl⟩
      rw [← hAeq] at hrg hoct
      have HAE := Lib.hid hAeq
      have HOCT := Lib.hid hoct
      clear hAeq hoct
      cases he : s.toList.isEmpty with
      | true =>
        have hfalse : partI s.data.toList = false := by
          unfold partI
          rw [ByteArray.toList_eq] at he
          rw [he]
          simp
        have HF := Lib.hid hfalse
        clear hfalse
        go_wp2_with fail
        go_ret
        refine ⟨?_, HB.out⟩
        rw [HF.out]
        rfl
      | false =>
        have htrue : partI s.data.toList = oneI A := by
          unfold partI
          rw [ByteArray.toList_eq] at he
          rw [he, HGD.out, HAE.out]
          simp
        have HF := Lib.hid htrue
        clear htrue
        have hwrap : IntKind.u64.wrap A = A := by
          have := hrg
          simp only [IntKind.wrap, IntKind.bits, IntKind.signed, IntKind.min, IntKind.max]
          simp
          omega
        go_wp2_with fail
        refine (alphabets_any s _ (by omega) HA2.out hG2).mono ?_
        rintro e w3 ⟨rfl, hb3⟩
        rw [← HAE.out]
        have HB4 := Lib.hid hb3
        clear hb3
        go_wp2_with fail
        refine (ones_any A HOCT.out _).mono ?_
        rintro e w4 ⟨rfl, rfl⟩
        go_wp2_with fail
        go_ret
        refine ⟨?_, HB.out.trans (Below.mono HB4.out HB.out.size)⟩
        rw [HF.out, ← pop_one HOCT.out]
        rfl
end Go.Proofs.YtioahjdojgcfdaaDoor

namespace Go.Proofs.YtioahjdojgcfdaaDoor
open Go.RowKit Go.Lib

theorem owns_form {w : World} {B : Nat} {e : TypeId} {size n : Nat} {v : Value} {xs : List Value} (h : w.ownsRow B e size v n xs) (hn : 0 < n) : ∃ g cap, v = .slice (some ⟨g, 0, none⟩) n cap ∧ B ≤ g := by
  rcases h.2 with ⟨_, h2⟩ | ⟨g, cap, cur, h1, h2, _⟩
  · omega
  · exact ⟨g, cap, h1, h2⟩

/-- a label that may be, but for its runes' number and whether it is made of runes -/
def labelI (l : List UInt8) : Bool := decide (countByte l 64 ≤ 1) && (parts [] l).all partI

theorem parts_len_le (n : Nat) : ∀ (cur l : List UInt8), l.length ≤ n → ∀ x ∈ parts cur l, x.length ≤ cur.length + l.length := by
  induction n with
  | zero =>
    intro cur l h x hx
    have : l = [] := List.eq_nil_of_length_eq_zero (by omega)
    rw [this, parts_nil] at hx
    simp at hx
    subst hx
    omega
  | succ n ih =>
    intro cur l h x hx
    by_cases hl : l = []
    · rw [hl, parts_nil] at hx
      simp at hx
      subst hx
      omega
    · rw [parts_step _ _ hl] at hx
      have hw := decodeL_width l
      have hle := decodeL_le l hl
      have hp : 0 < l.length := List.length_pos_iff.2 hl
      split at hx
      · rcases List.mem_cons.1 hx with rfl | hx
        · omega
        · have := ih [] (l.drop (decodeL l).2) (by simp; omega) x hx
          rw [List.length_drop] at this
          simp at this
          omega
      · have := ih _ (l.drop (decodeL l).2) (by simp; omega) x hx
        rw [List.length_append, List.length_take, List.length_drop] at this
        omega

theorem parts_pos (cur l : List UInt8) : 0 < (parts cur l).length := by
  have : ∀ (n : Nat) (cur l : List UInt8), l.length ≤ n → 0 < (parts cur l).length := by
    intro n
    induction n with
    | zero =>
      intro cur l h
      have : l = [] := List.eq_nil_of_length_eq_zero (by omega)
      rw [this, parts_nil]
      simp
    | succ n ih =>
      intro cur l h
      by_cases hl : l = []
      · rw [hl, parts_nil]
        simp
      · rw [parts_step _ _ hl]
        have hw := decodeL_width l
        have hp : 0 < l.length := List.length_pos_iff.2 hl
        split
        · simp
        · exact ih _ _ (by simp; omega)
  exact this l.length cur l (Nat.le_refl _)

theorem count_anyL (s : ByteArray) (w : World) : Calls Tryd.prog 149 #[.string s, .string ⟨#[64]⟩] w fun e w' => e = .returned (.int .i64 (countByte s.data.toList 64)) ∧ w = w' :=
  (Tryd.strings_Count_one s 64 w).mono fun _ _ h => ⟨h.1, h.2.symm⟩

set_option maxRecDepth 100000 in
set_option maxHeartbeats 2000000 in
theorem labelMayBe_any (s : ByteArray) (w : World) (hs : s.size ≤ 1099511627776) (hA : AlphaAt w) (hG : 4 < w.heap.size) :
    Calls Tryd.prog 131 #[.string s] w fun e w' => e = .returned (.bool (labelI s.data.toList)) ∧ Below w.heap.size w w' := by
  have HA := Lib.hid hA
  clear hA
  have hlen := parts_pos [] s.data.toList
  have hcnt := parts_count_le s.data.toList.length [] s.data.toList (Nat.le_refl _)
  have hsl : s.data.toList.length = s.size := rfl
  have hmem := parts_len_le s.data.toList.length [] s.data.toList (Nat.le_refl _)
  obtain ⟨P, hP⟩ : ∃ P, P = parts [] s.data.toList := ⟨_, rfl⟩
  have hfin : labelI s.data.toList = (decide (countByte s.data.toList 64 ≤ 1) && P.all partI) := by unfold labelI; rw [hP]
  rw [hfin]
  rw [← hP] at hlen hcnt hmem
  rw [hsl] at hcnt
  have HM := Lib.hid hmem
  have HP := Lib.hid hP
  clear hfin hP hmem hsl
  by_cases hc : countByte s.data.toList 64 ≤ 1
  · have hc2 : ((countByte s.data.toList 64 : Nat) : Int) ≤ 1 := by omega
    rw [decide_eq_true hc, Bool.true_and]
    clear hc
    obtain ⟨R, hR⟩ : ∃ R, R = P.all partI := ⟨_, rfl⟩
    rw [← hR]
    have HR := Lib.hid hR
    clear hR
    go_enter Tryd.func131, Tryd.ntmps131
    go_wp2_with fail
    refine (count_anyL s _).mono ?_
    rintro e w1 ⟨rfl, rfl⟩
    go_wp2_with fail
    refine (parts_anyL s _ hs).mono ?_
    rintro e w2 ⟨⟨v, rfl, hown⟩, hb⟩
    rw [← HP.out] at hown
    have HB := Lib.hid hb
    clear hb
    obtain ⟨g, cap, hv, hgb⟩ := owns_form hown hlen
    subst hv
    have HO := Lib.hid hown
    clear hown
    go_wp2_with fail
    go_loopg [2, 4, 11] P.length (fun n _ _ iv wr => ∃ i : Nat, i + n ≥ P.length ∧ i ≤ P.length ∧ iv = .int .i64 i ∧ Aside (R = (P.drop i).all partI) ∧ Hid (OwnsTexts wr w.heap.size (.slice (some ⟨g, 0, none⟩) P.length cap) P) ∧ Hid (Below w.heap.size w wr))
    case atStart => exact ⟨0, by omega, Nat.zero_le _, rfl, HR.out, HO.out, HB.out⟩
    case round =>
      clear HO HB
      obtain ⟨i, hn, hi, rfl, HL, HO, HB⟩ := hrel
      have HA2 := Lib.hid (HA.out.below HB.out hG)
      have hG2 : 4 < wr.heap.size := Nat.lt_of_lt_of_le hG HB.out.size
      by_cases hlt : i < P.length
      · have hcell : wr.cell? ⟨g, i, none⟩ = some (.string ⟨(P[i]'hlt).toArray⟩) := by
          rw [World.ownsRow.cellAt HO.out i (by omega)]
          simp [textCells, hlt]
        have hdrop : P.drop i = P[i]'hlt :: P.drop (i + 1) := List.drop_eq_getElem_cons hlt
        have hxl : (P[i]'hlt).length ≤ s.size := by
          have := HM.out _ (List.getElem_mem hlt)
          simpa using this
        obtain ⟨x, hx⟩ : ∃ x, x = P[i]'hlt := ⟨_, rfl⟩
        rw [← hx] at hcell hdrop hxl
        have HX := Lib.hid hdrop
        clear hx hdrop
        cases hp : partI x with
        | false =>
          have hRf : R = false := by rw [HL.out, HX.out]; simp [hp]
          have HRF := Lib.hid (And.intro hRf hp)
          clear hp hRf
          go_wp2_with fail
          refine (partMayBe_any ⟨x.toArray⟩ _ (Nat.le_trans hxl hs) HA2.out hG2).mono ?_
          rintro e w3 ⟨rfl, hb3⟩
          rw [show (⟨x.toArray⟩ : ByteArray).data.toList = x from rfl, HRF.out.2]
          have HB3 : Hid (Below w.heap.size w w3) := HB.out.trans (hb3.mono HB.out.size)
          clear hb3
          go_wp2_with fail
          go_ret
          refine ⟨?_, HB3.out⟩
          rw [HRF.out.1]
          rfl
        | true =>
          have HRF := Lib.hid hp
          clear hp
          go_wp2_with fail
          refine (partMayBe_any ⟨x.toArray⟩ _ (Nat.le_trans hxl hs) HA2.out hG2).mono ?_
          rintro e w3 ⟨rfl, hb3⟩
          rw [show (⟨x.toArray⟩ : ByteArray).data.toList = x from rfl, HRF.out]
          have HB3 : Hid (Below w.heap.size w w3) := HB.out.trans (hb3.mono HB.out.size)
          have HO3 : Hid (OwnsTexts w3 w.heap.size (.slice (some ⟨g, 0, none⟩) P.length cap) P) := World.ownsRow.kept (row := none) HO.out ⟨hb3.os, hb3.tape, hb3.output, hb3.size, fun k hk _ => hb3.block k hk⟩ (by simp [Value.ownBlock])
          clear hb3
          go_wp2_with fail
          go_roundg (gk - 1)
          case measure => omega
          case rel =>
            refine ⟨i + 1, by omega, by omega, by go_num, ?_, HO3, HB3⟩
            show _ = _
            rw [HL.out, HX.out, List.all_cons, HRF.out, Bool.true_and]
      · have hRt : R = true := by rw [HL.out, List.drop_eq_nil_of_le (by omega)]; rfl
        have HRT := Lib.hid hRt
        clear hRt
        go_wp2_with fail
        go_ret
        refine ⟨?_, HB.out⟩
        rw [HRT.out]
        rfl
  · have hc2 : 1 < ((countByte s.data.toList 64 : Nat) : Int) := by omega
    rw [decide_eq_false hc, Bool.false_and]
    clear hc
    go_enter Tryd.func131, Tryd.ntmps131
    go_wp2_with fail
    refine (count_anyL s _).mono ?_
    rintro e w1 ⟨rfl, rfl⟩
    go_wp2_with fail
    go_ret
    exact ⟨rfl, Below.refl _ _⟩
end Go.Proofs.YtioahjdojgcfdaaDoor

namespace Go.Proofs.YtioahjdojgcfdaaDoor
open Go.RowKit Go.Lib

/-- a label's normal form, or why it has none -/
def normalI (l : List UInt8) : List UInt8 × Int :=
  if validD l = false then ([], 4) else if 64 < (runes l).length then ([], 2) else if labelI l = false then ([], 5) else (mapD smallI l, 0)

theorem small_enters : ∀ args w, (callFunc 133 args).run Tryd.prog w = .ok (.enter 133 args) w := enters_of Tryd.func133 (by kernel_rfl) rfl

theorem small_range (x : Nat) (h : x ≤ 1114111) : -2147483648 ≤ smallI x ∧ smallI x ≤ 2147483647 := by
  unfold smallI
  split <;> omega

theorem map_any (s : ByteArray) (w : World) (hs : s.size ≤ 1099511627776) (hA : AlphaAt w) (hG : 4 < w.heap.size) (hT : TabsAt w) :
    Calls Tryd.prog 132 #[.func (.func 133) #[] #[], .string s] w fun e w' => e = .returned (.string (⟨(mapD smallI s.data.toList).toArray⟩)) ∧ Below w.heap.size w w' := by
  refine Tryd.strings_Map_grows 133 #[] small_enters smallI s w (by omega) ?_ small_range hT
  intro W x hx hb
  have := small_any (x : Int) ⟨by omega, by omega⟩ W (hA.below hb hG) (Nat.lt_of_lt_of_le hG hb.size)
  exact this

set_option maxRecDepth 100000 in
set_option maxHeartbeats 1000000 in
theorem normal_any (s : ByteArray) (w : World) (hs : s.size ≤ 1099511627776) (hA : AlphaAt w) (hG : 4 < w.heap.size) (hT : TabsAt w) (hTB : ∀ W, Below w.heap.size w W → TabsAt W) :
    Calls Tryd.prog 113 #[.string s] w fun e w' => e = .returned (.tuple #[.string ⟨(normalI s.data.toList).1.toArray⟩, .int .i64 (normalI s.data.toList).2]) ∧ Below w.heap.size w w' := by
  have HA := Lib.hid hA
  have HT := Lib.hid hT
  have HTB := Lib.hid hTB
  clear hA hT hTB
  cases hv : validD s.data.toList with
  | false =>
    have e : normalI s.data.toList = ([], 4) := by unfold normalI; rw [if_pos hv]
    rw [e]
    have HV := Lib.hid hv
    clear e hv
    go_enter Tryd.func113, Tryd.ntmps113
    go_wp2_with fail
    refine (runes_bad s _ (by omega) HT.out HV.out).mono ?_
    rintro e w1 ⟨rfl, hb⟩
    have HB := Lib.hid hb
    clear hb
    go_wp2_with fail
    go_ret2
    exact ⟨rfl, HB.out⟩
  | true =>
    by_cases hl : 64 < (runes s.data.toList).length
    · have e : normalI s.data.toList = ([], 2) := by unfold normalI; rw [if_neg (by rw [hv]; decide), if_pos hl]
      rw [e]
      have HV := Lib.hid hv
      clear e hv
      go_enter Tryd.func113, Tryd.ntmps113
      go_wp2_with fail
      refine (runes_good s _ (by omega) HT.out HV.out).mono ?_
      rintro e w1 ⟨rfl, hb⟩
      have HB := Lib.hid hb
      clear hb
      go_wp2_with fail
      go_ret2
      exact ⟨rfl, HB.out⟩
    · cases hm : labelI s.data.toList with
      | false =>
        have e : normalI s.data.toList = ([], 5) := by unfold normalI; rw [if_neg (by rw [hv]; decide), if_neg hl, if_pos hm]
        rw [e]
        have HV := Lib.hid (And.intro hv hm)
        clear e hv hm
        go_enter Tryd.func113, Tryd.ntmps113
        go_wp2_with fail
        refine (runes_good s _ (by omega) HT.out HV.out.1).mono ?_
        rintro e w1 ⟨rfl, hb⟩
        have HB := Lib.hid hb
        have HA2 := Lib.hid (HA.out.below hb hG)
        have hG2 : 4 < w1.heap.size := Nat.lt_of_lt_of_le hG hb.size
        clear hb
        go_wp2_with fail
        refine (labelMayBe_any s _ hs HA2.out hG2).mono ?_
        rintro e w2 ⟨rfl, hb⟩
        rw [HV.out.2]
        have HB2 : Hid (Below w.heap.size w w2) := HB.out.trans (hb.mono HB.out.size)
        clear hb
        go_wp2_with fail
        go_ret2
        exact ⟨rfl, HB2.out⟩
      | true =>
        have e : normalI s.data.toList = (mapD smallI s.data.toList, 0) := by unfold normalI; rw [if_neg (by rw [hv]; decide), if_neg hl, if_neg (by rw [hm]; decide)]
        rw [e]
        have HV := Lib.hid (And.intro hv hm)
        clear e hv hm
        go_enter Tryd.func113, Tryd.ntmps113
        go_wp2_with fail
        refine (runes_good s _ (by omega) HT.out HV.out.1).mono ?_
        rintro e w1 ⟨rfl, hb⟩
        have HB := Lib.hid hb
        have HA2 := Lib.hid (HA.out.below hb hG)
        have hG2 : 4 < w1.heap.size := Nat.lt_of_lt_of_le hG hb.size
        clear hb
        go_wp2_with fail
        refine (labelMayBe_any s _ hs HA2.out hG2).mono ?_
        rintro e w2 ⟨rfl, hb⟩
        rw [HV.out.2]
        have HB2 : Hid (Below w.heap.size w w2) := HB.out.trans (hb.mono HB.out.size)
        have HA3 := Lib.hid (HA2.out.below hb hG2)
        have hG3 : 4 < w2.heap.size := Nat.lt_of_lt_of_le hG2 hb.size
        clear hb
        have HT3 := Lib.hid (HTB.out w2 HB2.out)
        go_wp2_with fail
        refine (map_any s _ hs HA3.out hG3 HT3.out).mono ?_
        rintro e w3 ⟨rfl, hb⟩
        have HB4 : Hid (Below w.heap.size w w3) := HB2.out.trans (hb.mono HB2.out.size)
        clear hb
        go_wp2_with fail
        go_ret2
        exact ⟨rfl, HB4.out⟩
end Go.Proofs.YtioahjdojgcfdaaDoor

namespace Go.Proofs.YtioahjdojgcfdaaDoor
open Go.RowKit Go.Lib

/-- the three tables that the laws read hold what their texts lay -/
structure Ready (w : World) : Prop where
  a : AlphaAt w
  s : 4 < w.heap.size
  t : TabsAt w
theorem TabsAt.below {w W : World} (h : TabsAt w) (hs : 4 < w.heap.size) (hb : Below w.heap.size w W) : TabsAt W := by
  have h' : Lib.Utf8Tabs 2 3 w := h
  show Lib.Utf8Tabs 2 3 W
  exact ⟨fun c hc => (hb.cell (p := ⟨2, c, none⟩) (by show 2 < _; omega)).trans (h'.1 c hc),
    fun i hi => ⟨(hb.cell (p := ⟨3, 2 * i, none⟩) (by show 3 < _; omega)).trans (h'.2 i hi).1, (hb.cell (p := ⟨3, 2 * i + 1, none⟩) (by show 3 < _; omega)).trans (h'.2 i hi).2⟩⟩
theorem Ready.below {w W : World} (h : Ready w) (hb : Below w.heap.size w W) : Ready W := ⟨h.a.below hb h.s, Nat.lt_of_lt_of_le h.s hb.size, h.t.below h.s hb⟩

/-- Normal, at a world that is ready -/
theorem normal_at (s : ByteArray) (w : World) (hs : s.size ≤ 1099511627776) (h : Ready w) :
    Calls Tryd.prog 113 #[.string s] w fun e w' => e = .returned (.tuple #[.string ⟨(normalI s.data.toList).1.toArray⟩, .int .i64 (normalI s.data.toList).2]) ∧ Below w.heap.size w w' :=
  normal_any s w hs h.a h.s h.t (fun _ hb => h.t.below h.s hb)

def alice : List UInt8 := [65, 108, 105, 99, 101, 64, 69, 120, 97, 109, 112, 108, 101, 46, 111, 114, 103]
def alice' : List UInt8 := [97, 108, 105, 99, 101, 64, 101, 120, 97, 109, 112, 108, 101, 46, 111, 114, 103]
theorem sp1 : normalI alice = (alice', 0) := by kernel_rfl
theorem sp2 : normalI [206, 145, 206, 146, 45, 208, 182] = ([206, 177, 206, 178, 45, 208, 182], 0) := by kernel_rfl
theorem sp3 : normalI [97, 208, 182] = ([], 5) := by kernel_rfl

end Go.Proofs.YtioahjdojgcfdaaDoor

namespace Go.Proofs.YtioahjdojgcfdaaDoor
open Go.RowKit Go.Lib

theorem decodeN_bytes (n b0 b1 b2 b3 : Nat) : ((decodeN n b0 b1 b2 b3).1 < 128 ∧ (decodeN n b0 b1 b2 b3).2 = 1 ∧ b0 = (decodeN n b0 b1 b2 b3).1) ∨ (128 ≤ (decodeN n b0 b1 b2 b3).1 ∧ (decodeN n b0 b1 b2 b3).2 ≤ 4 ∧ 128 ≤ b0 ∧ (1 < (decodeN n b0 b1 b2 b3).2 → 128 ≤ b1) ∧ (2 < (decodeN n b0 b1 b2 b3).2 → 128 ≤ b2) ∧ (3 < (decodeN n b0 b1 b2 b3).2 → 128 ≤ b3)) := by
  unfold decodeN
  repeat' split
  all_goals first
    | exact .inl ⟨by omega, rfl, rfl⟩
    | exact .inr ⟨by show 128 ≤ _; omega, by show _ ≤ 4; omega, by omega, fun h => by first | omega | (exfalso; revert h; decide), fun h => by first | omega | (exfalso; revert h; decide), fun h => by first | omega | (exfalso; revert h; decide)⟩
theorem decodeL_bytes (l : List UInt8) (h : l ≠ []) : ((decodeL l).1 < 128 ∧ (decodeL l).2 = 1 ∧ ∃ c r, l = c :: r ∧ c.toNat = (decodeL l).1) ∨ (128 ≤ (decodeL l).1 ∧ ∀ c ∈ l.take (decodeL l).2, 128 ≤ c.toNat) := by
  have key := decodeN_bytes l.length (l.getD 0 0).toNat (l.getD 1 0).toNat (l.getD 2 0).toNat (l.getD 3 0).toNat
  rw [← decodeL_N] at key
  rcases key with ⟨h1, h2, h3⟩ | ⟨h1, hw, h2, h3, h4, h5⟩
  · refine .inl ⟨h1, h2, ?_⟩
    cases l with
    | nil => exact absurd rfl h
    | cons c r => exact ⟨c, r, rfl, h3⟩
  · refine .inr ⟨h1, fun c hc => ?_⟩
    obtain ⟨i, hi, hci⟩ := List.mem_iff_getElem.1 hc
    rw [List.length_take] at hi
    rw [List.getElem_take] at hci
    have hd : l.getD i 0 = c := by rw [List.getD_eq_getElem?_getD, List.getElem?_eq_getElem (by omega), hci]; rfl
    match i, hi, hd with
    | 0, hi, hd => rw [hd] at h2; exact h2
    | 1, hi, hd => rw [hd] at h3; exact h3 (by omega)
    | 2, hi, hd => rw [hd] at h4; exact h4 (by omega)
    | 3, hi, hd => rw [hd] at h5; exact h5 (by omega)
    | i + 4, hi, hd => omega
/-- the bytes of the four separators -/
def isSepB (c : UInt8) : Prop := c.toNat = 46 ∨ c.toNat = 45 ∨ c.toNat = 95 ∨ c.toNat = 64
def noSep (l : List UInt8) : Prop := ∀ c ∈ l, ¬ isSepB c
theorem noSep_nil : noSep [] := fun _ h => nomatch h

theorem sep_bytes (l : List UInt8) (h : l ≠ []) (hs : sepI ((decodeL l).1 : Int) = true) : ∃ c r, l = c :: r ∧ isSepB c ∧ l.drop (decodeL l).2 = r := by
  have hr : (decodeL l).1 = 46 ∨ (decodeL l).1 = 45 ∨ (decodeL l).1 = 95 ∨ (decodeL l).1 = 64 := by
    unfold sepI at hs
    simp at hs
    omega
  rcases decodeL_bytes l h with ⟨h1, h2, c, r, rfl, h3⟩ | ⟨h1, _⟩
  · exact ⟨c, r, rfl, by unfold isSepB; omega, by rw [h2]; rfl⟩
  · omega
theorem nosep_bytes (l : List UInt8) (h : l ≠ []) (hs : sepI ((decodeL l).1 : Int) = false) : noSep (l.take (decodeL l).2) := by
  have hr : (decodeL l).1 ≠ 46 ∧ (decodeL l).1 ≠ 45 ∧ (decodeL l).1 ≠ 95 ∧ (decodeL l).1 ≠ 64 := by
    unfold sepI at hs
    simp at hs
    omega
  intro c hc hx
  unfold isSepB at hx
  rcases decodeL_bytes l h with ⟨h1, h2, c', r, hl, h3⟩ | ⟨h1, h2⟩
  · rw [h2, hl] at hc
    simp at hc
    subst hc
    omega
  · have := h2 c hc
    omega

/-- the texts, with one separator between each two, are the text -/
def fits : List (List UInt8) → List UInt8 → Prop
  | [], _ => False
  | [p], r => r = p ∧ noSep p
  | p :: q :: ps, r => ∃ c rest, r = p ++ c :: rest ∧ isSepB c ∧ noSep p ∧ fits (q :: ps) rest

theorem noSep_app {a b : List UInt8} (ha : noSep a) (hb : noSep b) : noSep (a ++ b) := fun c hc => by
  rcases List.mem_append.1 hc with h | h
  · exact ha c h
  · exact hb c h

theorem parts_fit : ∀ (n : Nat) (cur l : List UInt8), l.length ≤ n → noSep cur → fits (parts cur l) (cur ++ l)
  | 0, cur, l, h, hc => by
    have : l = [] := List.eq_nil_of_length_eq_zero (by omega)
    subst this
    exact ⟨List.append_nil _, hc⟩
  | n + 1, cur, l, h, hc => by
    by_cases hl : l = []
    · subst hl
      exact ⟨List.append_nil _, hc⟩
    · have hw := decodeL_width l
      have hp : 0 < l.length := List.length_pos_iff.2 hl
      rw [parts_step _ _ hl]
      cases hs : sepI ((decodeL l).1 : Int) with
      | true =>
        rw [if_pos rfl]
        obtain ⟨c, r, hlr, hcs, hd⟩ := sep_bytes l hl hs
        have ih := parts_fit n [] (l.drop (decodeL l).2) (by simp; omega) noSep_nil
        rw [hd] at ih ⊢
        have hpos := parts_pos [] r
        cases hpr : parts [] r with
        | nil => rw [hpr] at hpos; exact absurd hpos (Nat.lt_irrefl 0)
        | cons q ps =>
          rw [hpr] at ih
          exact ⟨c, r, by rw [hlr], hcs, hc, ih⟩
      | false =>
        rw [if_neg (by decide)]
        have ih := parts_fit n (cur ++ l.take (decodeL l).2) (l.drop (decodeL l).2) (by simp; omega) (noSep_app hc (nosep_bytes l hl hs))
        rw [List.append_assoc, List.take_append_drop] at ih
        exact ih

/-- the next part, where it is not the last, and where it is -/
theorem fits_step {P : List (List UInt8)} {i : Nat} {r : List UInt8} (hi : i < P.length) (h : fits (P.drop i) r) :
    noSep (P[i]'hi) ∧ ((i + 1 = P.length ∧ r = P[i]'hi) ∨ (i + 1 < P.length ∧ ∃ c rest, r = P[i]'hi ++ c :: rest ∧ isSepB c ∧ fits (P.drop (i + 1)) rest)) := by
  rw [List.drop_eq_getElem_cons hi] at h
  cases hd : P.drop (i + 1) with
  | nil =>
    rw [hd] at h
    have hl : P.length ≤ i + 1 := List.drop_eq_nil_iff.1 hd
    exact ⟨h.2, .inl ⟨by omega, h.1⟩⟩
  | cons q ps =>
    rw [hd] at h
    obtain ⟨c, rest, h1, h2, h3, h4⟩ := h
    have hl : (P.drop (i + 1)).length = ps.length + 1 := by rw [hd]; rfl
    rw [List.length_drop] at hl
    exact ⟨h3, .inr ⟨by omega, c, rest, h1, h2, h4⟩⟩
end Go.Proofs.YtioahjdojgcfdaaDoor

namespace Go.Proofs.YtioahjdojgcfdaaDoor
open Go.RowKit Go.Lib

/-- a rune that UTF-8 has -/
def VR (r : Nat) : Prop := r < 55296 ∨ (57343 < r ∧ r ≤ 1114111)

theorem u8_of (z : Int) (n : Nat) (h : z = n) (hn : n < 256) : (z.toNat.toUInt8).toNat = n := by
  subst h
  simp [Nat.toUInt8]
  omega

theorem decode_encode (r : Nat) (h : VR r) (t : List UInt8) : decodeL (encodeRune (r : Int) ++ t) = (r, (encodeRune (r : Int)).length) := by
  unfold VR at h
  unfold encodeRune
  by_cases h1 : r ≤ 127
  · rw [encodeRuneZ_one (by omega) (by omega)]
    simp only [List.map_cons, List.map_nil, List.cons_append, List.nil_append, List.length_cons, List.length_nil]
    rw [decodeL_N]
    simp only [List.getD_cons_zero, List.getD_cons_succ]
    rw [u8_of (r : Int) r rfl (by omega)]
    unfold decodeN
    rw [if_pos (by omega)]
  · by_cases h2 : r ≤ 2047
    · rw [encodeRuneZ_two (by omega) (by omega)]
      simp only [List.map_cons, List.map_nil, List.cons_append, List.nil_append, List.length_cons, List.length_nil]
      rw [decodeL_N]
      simp only [List.getD_cons_zero, List.getD_cons_succ, List.length_cons]
      rw [u8_of (192 + (r : Int) / 64) (192 + r / 64) (by omega) (by omega), u8_of (128 + (r : Int) % 64) (128 + r % 64) (by omega) (by omega)]
      unfold decodeN
      rw [if_neg (by omega), if_pos (by omega), if_pos (by omega)]
      congr 1
      omega
    · by_cases h3 : r ≤ 65535
      · rw [encodeRuneZ_three (by omega)]
        simp only [List.map_cons, List.map_nil, List.cons_append, List.nil_append, List.length_cons, List.length_nil]
        rw [decodeL_N]
        simp only [List.getD_cons_zero, List.getD_cons_succ, List.length_cons]
        rw [u8_of (224 + (r : Int) / 4096) (224 + r / 4096) (by omega) (by omega), u8_of (128 + (r : Int) / 64 % 64) (128 + r / 64 % 64) (by omega) (by omega), u8_of (128 + (r : Int) % 64) (128 + r % 64) (by omega) (by omega)]
        unfold decodeN
        rw [if_neg (by omega), if_neg (by omega), if_pos (by omega), if_pos (by omega)]
        congr 1
        omega
      · rw [encodeRuneZ_four (by omega) (by omega)]
        simp only [List.map_cons, List.map_nil, List.cons_append, List.nil_append, List.length_cons, List.length_nil]
        rw [decodeL_N]
        simp only [List.getD_cons_zero, List.getD_cons_succ, List.length_cons]
        rw [u8_of (240 + (r : Int) / 262144) (240 + r / 262144) (by omega) (by omega), u8_of (128 + (r : Int) / 4096 % 64) (128 + r / 4096 % 64) (by omega) (by omega), u8_of (128 + (r : Int) / 64 % 64) (128 + r / 64 % 64) (by omega) (by omega), u8_of (128 + (r : Int) % 64) (128 + r % 64) (by omega) (by omega)]
        unfold decodeN
        rw [if_neg (by omega), if_neg (by omega), if_neg (by omega), if_pos (by omega), if_pos (by omega)]
        congr 1
        omega

theorem encodeRune_ne (r : Int) : encodeRune r ≠ [] := by
  unfold encodeRune encodeRuneZ
  repeat' split
  all_goals simp

theorem decode_VR (l : List UInt8) (h : l ≠ []) (hv : ¬ ((decodeL l).1 = 65533 ∧ (decodeL l).2 = 1)) : VR (decodeL l).1 := by
  have k0 := (l.getD 0 0).toNat_lt
  unfold VR
  rw [decodeL_N] at hv ⊢
  rcases decodeN_shape l.length (l.getD 0 0).toNat (l.getD 1 0).toNat (l.getD 2 0).toNat (l.getD 3 0).toNat with ⟨c, e⟩ | ⟨c1, c2, c3, cv, e⟩ | ⟨c1, c2, c3, c4, cv, cs, e⟩ | ⟨c1, c2, c3, c4, c5, cv, cw, e⟩ | e
  all_goals rw [e] at hv ⊢
  all_goals dsimp only at hv ⊢
  all_goals omega

/-- the text of some runes -/
def enc (R : List Nat) : List UInt8 := R.flatMap fun (r : Nat) => encodeRune (r : Int)
theorem enc_nil : enc [] = [] := rfl
theorem enc_cons (r : Nat) (R : List Nat) : enc (r :: R) = encodeRune (r : Int) ++ enc R := rfl
theorem enc_app (A B : List Nat) : enc (A ++ B) = enc A ++ enc B := by simp [enc]
theorem enc_cons_ne (r : Nat) (R : List Nat) : enc (r :: R) ≠ [] := by
  rw [enc_cons]
  intro h
  exact encodeRune_ne _ (List.append_eq_nil_iff.1 h).1
theorem decode_enc (r : Nat) (R : List Nat) (h : VR r) : decodeL (enc (r :: R)) = (r, (encodeRune (r : Int)).length) := decode_encode r h _
theorem drop_enc (r : Nat) (R : List Nat) (h : VR r) : (enc (r :: R)).drop (decodeL (enc (r :: R))).2 = enc R := by
  rw [decode_enc r R h, enc_cons]
  exact List.drop_left
theorem take_enc (r : Nat) (R : List Nat) (h : VR r) : (enc (r :: R)).take (decodeL (enc (r :: R))).2 = encodeRune (r : Int) := by
  rw [decode_enc r R h, enc_cons]
  exact List.take_left

/-- the runes that UTF-8 has -/
def VRs (R : List Nat) : Prop := ∀ r ∈ R, VR r
theorem VRs.tail {r : Nat} {R : List Nat} (h : VRs (r :: R)) : VRs R := fun x hx => h x (List.mem_cons_of_mem _ hx)
theorem VRs.head {r : Nat} {R : List Nat} (h : VRs (r :: R)) : VR r := h r List.mem_cons_self

theorem runes_enc : ∀ (R : List Nat), VRs R → runes (enc R) = R
  | [], _ => by rw [enc_nil, runes_nil]
  | r :: R, h => by rw [runes_step _ (enc_cons_ne r R), drop_enc r R h.head, decode_enc r R h.head, runes_enc R h.tail]
theorem valid_enc : ∀ (R : List Nat), VRs R → validD (enc R) = true
  | [], _ => by rw [enc_nil, validD_nil]
  | r :: R, h => by
    rw [validD_step _ (enc_cons_ne r R), drop_enc r R h.head, decode_enc r R h.head, valid_enc R h.tail, if_neg]
    rintro ⟨h1, h2⟩
    dsimp only at h1 h2
    subst h1
    revert h2
    decide
theorem enc_runes : ∀ (n : Nat) (l : List UInt8), l.length ≤ n → validD l = true → enc (runes l) = l ∧ VRs (runes l)
  | 0, l, h, _ => by
    have : l = [] := List.eq_nil_of_length_eq_zero (by omega)
    subst this
    rw [runes_nil]
    exact ⟨rfl, fun _ h => nomatch h⟩
  | n + 1, l, h, hv => by
    by_cases hl : l = []
    · subst hl
      rw [runes_nil]
      exact ⟨rfl, fun _ h => nomatch h⟩
    · have hw := decodeL_width l
      have hp : 0 < l.length := List.length_pos_iff.2 hl
      rw [validD_step l hl] at hv
      split at hv
      · cases hv
      · rename_i hg
        obtain ⟨i1, i2⟩ := enc_runes n (l.drop (decodeL l).2) (by simp; omega) hv
        rw [runes_step l hl, enc_cons, i1, encode_decode l hl hg, List.take_append_drop]
        refine ⟨rfl, fun x hx => ?_⟩
        rcases List.mem_cons.1 hx with rfl | hx
        · exact decode_VR l hl hg
        · exact i2 x hx
theorem valid_is {l : List UInt8} (hv : validD l = true) : ∃ R, VRs R ∧ l = enc R :=
  ⟨runes l, (enc_runes l.length l (Nat.le_refl _) hv).2, (enc_runes l.length l (Nat.le_refl _) hv).1.symm⟩

theorem small_VR {r : Nat} (h : VR r) : 0 ≤ smallI r ∧ VR (smallI r).toNat ∧ ((smallI r).toNat : Int) = smallI r := by
  unfold VR at *
  unfold smallI capI
  split <;> rename_i hc
  · simp at hc
    omega
  · omega
def smallR (R : List Nat) : List Nat := R.map fun (r : Nat) => (smallI r).toNat
theorem smallR_VRs {R : List Nat} (h : VRs R) : VRs (smallR R) := fun x hx => by
  obtain ⟨r, hr, rfl⟩ := List.mem_map.1 hx
  exact (small_VR (h r hr)).2.1
theorem map_enc : ∀ (R : List Nat), VRs R → mapD smallI (enc R) = enc (smallR R)
  | [], _ => by rw [enc_nil, mapD_nil]; rfl
  | r :: R, h => by
    obtain ⟨h1, h2, h3⟩ := small_VR h.head
    rw [mapD_step _ _ (enc_cons_ne r R), drop_enc r R h.head, decode_enc r R h.head, map_enc R h.tail]
    dsimp only
    rw [if_pos h1, ← h3]
    rfl
end Go.Proofs.YtioahjdojgcfdaaDoor

namespace Go.Proofs.YtioahjdojgcfdaaDoor
open Go.RowKit Go.Lib

/-- the lowest 21 bits -/
theorem and21 (r : Int) : bits .and .i64 r 2097151 = r % 2097152 := by
  have h127 : (BitVec.ofInt 64 2097151).toNat = 2 ^ 21 - 1 := by decide
  have key : (BitVec.ofInt 64 r &&& BitVec.ofInt 64 2097151).toNat = (r % ((2 ^ 64 : Nat) : Int)).toNat % 2 ^ 21 := by
    rw [BitVec.toNat_and, BitVec.toNat_ofInt, h127, Nat.and_two_pow_sub_one_eq_mod]
  show IntKind.i64.wrap ((BitVec.ofInt 64 r &&& BitVec.ofInt 64 2097151).toNat : Nat) = r % 2097152
  rw [key, IntKind.wrap_i64]
  omega

theorem runes_le : ∀ (n : Nat) (l : List UInt8), l.length ≤ n → ∀ x ∈ runes l, x ≤ 1114111
  | 0, l, h, x, hx => by
    have : l = [] := List.eq_nil_of_length_eq_zero (by omega)
    rw [this, runes_nil] at hx
    cases hx
  | n + 1, l, h, x, hx => by
    by_cases hl : l = []
    · rw [hl, runes_nil] at hx
      cases hx
    · rw [runes_step l hl] at hx
      have hw := decodeL_width l
      have hp : 0 < l.length := List.length_pos_iff.2 hl
      rcases List.mem_cons.1 hx with rfl | hx
      · exact decodeL_rune l
      · exact runes_le n (l.drop (decodeL l).2) (by simp; omega) x hx
theorem alphOf_snoc (a : Int) (l : List Nat) (r : Nat) : alphOf a (l ++ [r]) = bits .or .i64 (alphOf a l) (letterI r) := by simp [alphOf, List.foldl_append]
theorem neq_self (x : Int) : (x != x) = false := by simp

theorem int_row {w : World} {B : Nat} {v : Value} {R : List Nat} (h : w.ownsRow B 3 1 v R.length (runeInts R)) :
    (v = .slice none 0 0 ∧ R = []) ∨ ∃ g cap, v = .slice (some ⟨g, 0, none⟩) R.length cap ∧ g < w.heap.size ∧ ∀ i, (hi : i < R.length) → w.cell? ⟨g, i, none⟩ = some (.int .i64 (R[i]'hi : Nat)) := by
  rcases h.2 with ⟨h1, h2⟩ | ⟨g, cap, cur, rfl, h2, h3, _⟩
  · exact .inl ⟨h1, List.eq_nil_of_length_eq_zero h2⟩
  · refine .inr ⟨g, cap, rfl, (Array.getElem?_eq_some_iff.1 h3).1, fun i hi => ?_⟩
    rw [World.ownsRow.cellAt h i (by omega)]
    simp [runeInts, hi]

end Go.Proofs.YtioahjdojgcfdaaDoor

namespace Go.Proofs.YtioahjdojgcfdaaDoor
open Go.RowKit

theorem wrap_i64_nat (n : Nat) (h : n < 9223372036854775808) : IntKind.i64.wrap (n : Int) = (n : Int) := by
  simp only [IntKind.wrap, IntKind.bits, IntKind.signed, IntKind.min, IntKind.max]; simp; omega
theorem bits_and_i64_nat (a b : Nat) (ha : a < 9223372036854775808) (hb : b < 9223372036854775808) :
    bits .and .i64 (a : Int) (b : Int) = ((a &&& b : Nat) : Int) := by
  have hx : a &&& b < 2 ^ 63 := Nat.and_lt_two_pow _ (by omega)
  have h1 : (BitVec.ofInt 64 (a : Int)).toNat = a := by
    rw [BitVec.ofInt_natCast, BitVec.toNat_ofNat]; exact Nat.mod_eq_of_lt (by omega)
  have h2 : (BitVec.ofInt 64 (b : Int)).toNat = b := by
    rw [BitVec.ofInt_natCast, BitVec.toNat_ofNat]; exact Nat.mod_eq_of_lt (by omega)
  show IntKind.i64.wrap ((BitVec.ofInt 64 (a : Int) &&& BitVec.ofInt 64 (b : Int)).toNat : Int) = _
  rw [BitVec.toNat_and, h1, h2, wrap_i64_nat _ (by omega)]
theorem bits_or_i64_nat (a b : Nat) (ha : a < 9223372036854775808) (hb : b < 9223372036854775808) :
    bits .or .i64 (a : Int) (b : Int) = ((a ||| b : Nat) : Int) := by
  have hx : a ||| b < 2 ^ 63 := Nat.or_lt_two_pow (by omega) (by omega)
  have h1 : (BitVec.ofInt 64 (a : Int)).toNat = a := by
    rw [BitVec.ofInt_natCast, BitVec.toNat_ofNat]; exact Nat.mod_eq_of_lt (by omega)
  have h2 : (BitVec.ofInt 64 (b : Int)).toNat = b := by
    rw [BitVec.ofInt_natCast, BitVec.toNat_ofNat]; exact Nat.mod_eq_of_lt (by omega)
  show IntKind.i64.wrap ((BitVec.ofInt 64 (a : Int) ||| BitVec.ofInt 64 (b : Int)).toNat : Int) = _
  rw [BitVec.toNat_or, h1, h2, wrap_i64_nat _ (by omega)]
theorem bits_xor_i64_nat (a b : Nat) (ha : a < 9223372036854775808) (hb : b < 9223372036854775808) :
    bits .xor .i64 (a : Int) (b : Int) = ((a ^^^ b : Nat) : Int) := by
  have hx : a ^^^ b < 2 ^ 63 := Nat.xor_lt_two_pow (by omega) (by omega)
  have h1 : (BitVec.ofInt 64 (a : Int)).toNat = a := by
    rw [BitVec.ofInt_natCast, BitVec.toNat_ofNat]; exact Nat.mod_eq_of_lt (by omega)
  have h2 : (BitVec.ofInt 64 (b : Int)).toNat = b := by
    rw [BitVec.ofInt_natCast, BitVec.toNat_ofNat]; exact Nat.mod_eq_of_lt (by omega)
  show IntKind.i64.wrap ((BitVec.ofInt 64 (a : Int) ^^^ BitVec.ofInt 64 (b : Int)).toNat : Int) = _
  rw [BitVec.toNat_xor, h1, h2, wrap_i64_nat _ (by omega)]
theorem and_one_i64 (m : Nat) (h : m < 9223372036854775808) : bits .and .i64 (m : Int) 1 = ((m % 2 : Nat) : Int) := by
  have := bits_and_i64_nat m 1 h (by decide)
  rw [Nat.and_one_is_mod] at this
  exact this
end Go.Proofs.YtioahjdojgcfdaaDoor

namespace Go.Proofs.YtioahjdojgcfdaaDoor
open Go.RowKit
attribute [local irreducible] shaL

theorem eq_strE (a b : ByteArray) : (a.toList == b.toList) = decide (a = b) := by
  rw [ByteArray.toList_eq, ByteArray.toList_eq, Bool.eq_iff_iff, beq_iff_eq, decide_eq_true_iff]
  exact ⟨fun h => ByteArray.ext (Array.toList_inj.1 h), fun h => by rw [h]⟩
theorem EntS.next_val {x y : EntS} (h : x.next y = 0) : y.v = x.v + 1 ∧ x.err = 0 ∧ y.p = x.value := by
  unfold EntS.next at h
  split at h
  · cases h
  · rename_i h1
    split at h
    · cases h
    · rename_i h2
      refine ⟨by omega, ?_, ?_⟩
      · exact Classical.byContradiction fun q => h2 (.inl q)
      · exact Classical.byContradiction fun q => h2 (.inr q)
/-! lists of entries -/
/-- a list of entries in memory -/
def EntsAt (w : World) (v : Value) (L : List EntS) : Prop :=
  ∃ a cap, v = .slice a L.length cap ∧ ∀ i (h : i < L.length), ∃ g o, a = some ⟨g, o, none⟩ ∧ w.cell? ⟨g, o + i * 5, none⟩ = some (.int .u64 (L[i]).v) ∧ w.cell? ⟨g, o + i * 5 + 1, none⟩ = some (.string (L[i]).o) ∧ w.cell? ⟨g, o + i * 5 + 2, none⟩ = some (.string (L[i]).r) ∧ w.cell? ⟨g, o + i * 5 + 3, none⟩ = some (.int .i64 (L[i]).h) ∧ w.cell? ⟨g, o + i * 5 + 4, none⟩ = some (.string (L[i]).p)
theorem EntsAt.grown {w w' : World} {v : Value} {L : List EntS} (h : EntsAt w v L) (k : w.grownBy w' none) : EntsAt w' v L := by
  obtain ⟨a, c, e, hc⟩ := h
  refine ⟨a, c, e, fun i hi => ?_⟩
  obtain ⟨g, o, e2, h0, h1, h2, h3, h4⟩ := hc i hi
  exact ⟨g, o, e2, k.cell h0 (by simp), k.cell h1 (by simp), k.cell h2 (by simp), k.cell h3 (by simp), k.cell h4 (by simp)⟩
theorem EntsAt.at_ {w : World} {a : Option Addr} {n cap : Nat} {L : List EntS} (h : EntsAt w (.slice a n cap) L) (i : Nat) (x : EntS) (hx : L[i]? = some x) : ∃ g o, a = some ⟨g, o, none⟩ ∧ w.cell? ⟨g, o + i * 5, none⟩ = some (.int .u64 x.v) ∧ w.cell? ⟨g, o + i * 5 + 1, none⟩ = some (.string x.o) ∧ w.cell? ⟨g, o + i * 5 + 2, none⟩ = some (.string x.r) ∧ w.cell? ⟨g, o + i * 5 + 3, none⟩ = some (.int .i64 x.h) ∧ w.cell? ⟨g, o + i * 5 + 4, none⟩ = some (.string x.p) := by
  obtain ⟨a', c', e, hc⟩ := h
  injection e with e1 e2 e3
  obtain ⟨hi, rfl⟩ := List.getElem?_eq_some_iff.1 hx
  obtain ⟨g, o, e4, hcs⟩ := hc i hi
  exact ⟨g, o, e1.trans e4, hcs⟩
theorem EntsAt.len {w : World} {a : Option Addr} {n cap : Nat} {L : List EntS} (h : EntsAt w (.slice a n cap) L) : L.length = n := by
  obtain ⟨_, _, e, _⟩ := h
  injection e with _ e _
  exact e.symm
theorem chainE_drop (L : List EntS) (k : Nat) (x y : EntS) (hx : L[k]? = some x) (hy : L[k + 1]? = some y) : chainE (L.drop k) = if x.next y ≠ 0 then x.next y else chainE (L.drop (k + 1)) := by
  obtain ⟨hi, rfl⟩ := List.getElem?_eq_some_iff.1 hx
  obtain ⟨hj, rfl⟩ := List.getElem?_eq_some_iff.1 hy
  rw [List.drop_eq_getElem_cons hi, List.drop_eq_getElem_cons hj]
  rfl
theorem chainE_last (L : List EntS) (k : Nat) (h : L.length ≤ k + 1) : chainE (L.drop k) = 0 := by
  have hl : (L.drop k).length ≤ 1 := by simp; omega
  match hm : L.drop k, hl with
  | [], _ => rfl
  | [_], _ => rfl
  | _ :: _ :: _, h => simp at h
theorem two_cells {w w1 w2 : World} {g i j : Nat} {v0 v1 v2 v3 v4 u0 u1 u2 u3 u4 : Value} (_q : w.grownBy w1 none) (k : w1.grownBy w2 none)
    (h : (w1.cell? ⟨g, i, none⟩ = some v0 ∧ w1.cell? ⟨g, i + 1, none⟩ = some v1 ∧ w1.cell? ⟨g, i + 2, none⟩ = some v2 ∧ w1.cell? ⟨g, i + 3, none⟩ = some v3 ∧ w1.cell? ⟨g, i + 4, none⟩ = some v4) ∧ w1.cell? ⟨g, j, none⟩ = some u0 ∧ w1.cell? ⟨g, j + 1, none⟩ = some u1 ∧ w1.cell? ⟨g, j + 2, none⟩ = some u2 ∧ w1.cell? ⟨g, j + 3, none⟩ = some u3 ∧ w1.cell? ⟨g, j + 4, none⟩ = some u4) :
    w2.cell? ⟨g, i, none⟩ = some v0 ∧ w2.cell? ⟨g, i + 1, none⟩ = some v1 ∧ w2.cell? ⟨g, i + 2, none⟩ = some v2 ∧ w2.cell? ⟨g, i + 3, none⟩ = some v3 ∧ w2.cell? ⟨g, i + 4, none⟩ = some v4 ∧ w2.cell? ⟨g, j, none⟩ = some u0 ∧ w2.cell? ⟨g, j + 1, none⟩ = some u1 ∧ w2.cell? ⟨g, j + 2, none⟩ = some u2 ∧ w2.cell? ⟨g, j + 3, none⟩ = some u3 ∧ w2.cell? ⟨g, j + 4, none⟩ = some u4 := by
  obtain ⟨⟨h0, h1, h2, h3, h4⟩, k0, k1, k2, k3, k4⟩ := h
  exact ⟨k.cell h0 (by simp), k.cell h1 (by simp), k.cell h2 (by simp), k.cell h3 (by simp), k.cell h4 (by simp), k.cell k0 (by simp), k.cell k1 (by simp), k.cell k2 (by simp), k.cell k3 (by simp), k.cell k4 (by simp)⟩
end Go.Proofs.YtioahjdojgcfdaaDoor

namespace Go.Proofs.YtioahjdojgcfdaaDoor
open Go.RowKit

/-- the bit of a text -/
def bitS (s : ByteArray) (i : Nat) : Nat := ((s.data.toList[i / 8]?).getD 0).toNat / 2 ^ (7 - i % 8) % 2
theorem bitS_le (s : ByteArray) (i : Nat) : bitS s i ≤ 1 := by unfold bitS; omega
theorem bitS_out (s : ByteArray) (i : Nat) (h : s.size ≤ i / 8) : bitS s i = 0 := by
  unfold bitS
  rw [List.getElem?_eq_none (by simpa using h)]
  simp
theorem bitS_in (s : ByteArray) (i q r : Nat) (hq : i / 8 = q) (hr : i % 8 = r) (h : q < s.size) : bitS s i = s[q].toNat / 2 ^ (7 - r) % 2 := by
  unfold bitS
  subst hq hr
  rw [List.getElem?_eq_getElem (by simpa using h)]
  rfl

theorem shr_bit (c k : Nat) (hc : c < 256) : (c : Int) / 2 ^ k = ((c / 2 ^ k : Nat) : Int) := by
  rw [Int.natCast_ediv]; simp
end Go.Proofs.YtioahjdojgcfdaaDoor
