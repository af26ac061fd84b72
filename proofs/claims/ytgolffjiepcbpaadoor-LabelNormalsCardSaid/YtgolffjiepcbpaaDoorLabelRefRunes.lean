/- The walk of the document's Runes (plumbobref01). -/
import Derived.Test.YtgolffjiepcbpaaDoorLabelNextC
import Derived.Deep.LoopGhost
namespace Go.Proofs.YtgolffjiepcbpaaDoor
open Go.RowKit Go.Lib

theorem infoInt : (Tryd.prog.info? 3).map (fun i => (i.zero, i.size, i.bytes)) = some (some (.int .i64 0), 1, 8) := by kernel_rfl

/-- a list of runes as cells -/
def runeInts (l : List Nat) : List Value := l.map fun (r : Nat) => .int .i64 (r : Int)

theorem cell_at_new (w : World) (v : Value) (t : TypeId) : (w.alloc (.cells #[v] t)).cell? ⟨w.heap.size, 0, none⟩ = some v := by
  have h : (w.alloc (.cells #[v] t)).heap[w.heap.size]? = some (.cells #[v] t (0, 0)) := by
    show (w.heap.push _)[w.heap.size]? = _
    simp
  exact cell_of_row _ w.heap.size 0 #[v] t (0, 0) h

set_option maxRecDepth 100000 in
set_option maxHeartbeats 1000000 in
theorem refRunes_good (s : ByteArray) (w : World) (hs : s.size ≤ 1099511627776) (hv : validD s.data.toList = true) :
    Calls Tryd.prog 10 #[.string s] w fun e w' => (∃ v, e = .returned (.tuple #[v, .bool true]) ∧ w'.ownsRow w.heap.size 3 1 v (runes s.data.toList).length (runeInts (runes s.data.toList))) ∧ Below w.heap.size w w' := by
  have HV := Lib.hid hv
  clear hv
  obtain ⟨i0, hi, hz0, hz1, hz2⟩ := info_parts infoInt
  go_enter Tryd.func10, Tryd.ntmps10
  go_wp2_with fail
  go_loopg [0, 4, 5, 6] s.size (fun g r v _ _ wr => ∃ t : ByteArray, ∃ done : List Nat, t.size ≤ g ∧ t.size ≤ s.size ∧ done.length + t.size ≤ s.size ∧ r = .string t ∧ Aside (runes s.data.toList = done ++ runes t.data.toList) ∧ Aside (validD t.data.toList = true) ∧ wr.ownsRow w.heap.size 3 1 v done.length (runeInts done) ∧ Hid (Below w.heap.size w wr))
  case atStart => exact ⟨s, [], Nat.le_refl _, Nat.le_refl _, by simp, rfl, rfl, HV.out, (World.ownsRow_nil _ _ _ _ : w.ownsRow w.heap.size 3 1 (.slice none 0 0) 0 []), Below.refl _ _⟩
  case round =>
    obtain ⟨t, done, hg, hts, hd, rfl, HL, HT, hown, HB⟩ := hrel
    have HO := Lib.hid hown
    clear hown
    by_cases h0 : 0 < t.size
    · have hne : t.data.toList ≠ [] := by
        intro e
        have : t.data.toList.length = 0 := by rw [e]; rfl
        have h2 : t.data.toList.length = t.size := rfl
        omega
      have hstep := validD_step t.data.toList hne
      rw [HT.out] at hstep
      have hnb : ¬ bad t.data.toList := by
        intro hb
        unfold bad at hb
        rw [if_pos hb] at hstep
        cases hstep
      have hnb' := hnb
      unfold bad at hnb'
      rw [if_neg hnb'] at hstep
      have hnx : refNextL t.data.toList = decodeL t.data.toList := by unfold refNextL; rw [if_neg hne, if_neg hnb]
      have hw1 := decodeL_width t.data.toList
      have hw2 : (decodeL t.data.toList).2 ≤ t.size := decodeL_le _ hne
      have hr := runes_step _ hne
      obtain ⟨r, k, hrk⟩ : ∃ r k, decodeL t.data.toList = (r, k) := ⟨_, _, rfl⟩
      rw [hrk] at hstep hnx hw1 hw2 hr
      simp only at hstep hw1 hw2 hr
      have HS := Lib.hid (And.intro hstep (And.intro hnx hr))
      clear hstep hnx hr hrk hnb hnb' hne
      go_wp2_with fail
      refine (refNext_any t _).mono ?_
      rintro e w1 ⟨rfl, rfl⟩
      rw [HS.out.2.1]
      have hkz : ((k : Int) == 0) = false := by rw [beq_eq_false_iff_ne]; omega
      go_wp2_with (at_builtin; refine wpList_append_own _ rfl _ _ 27 rfl w.heap.size 3 i0 (.int .i64 0) 1 8 Tryd.underlying27 hi hz0 hz1 hz2 rfl (by decide) _ _ _ rfl (HO.out.alloc _) ⟨wr.heap.size, 0, none⟩ 1 1 [.int .i64 r] rfl rfl ?q1 ?q2 ?q3 ?q4 ?q5 ?_)
      case q1 =>
        intro j u hj
        match j, hj with
        | 0, hj => simp at hj; subst hj; rw [show Addr.add ⟨wr.heap.size, 0, none⟩ 0 = (⟨wr.heap.size, 0, none⟩ : Addr) from rfl, cell_at_new]
      case q2 => intro u hu; simp at hu; subst hu; rfl
      case q3 => unfold maxLen; omega
      case q4 => omega
      case q5 => have := HB.out.size; simp; omega
      intro v' w2 hown2 hgrow hnn
      have HO2 := Lib.hid hown2
      have HB2 : Hid (Below w.heap.size w w2) := (HB.out.alloc HB.out.size _).grown hgrow (by have := HB.out.size; simp; omega) (fun g hg => (HO.out.lt g hg).1)
      clear hown2 hgrow hnn HO HB
      go_wp2_with fail
      go_roundg (gk - 1)
      case measure => omega
      case rel =>
        have hdrop : (t.extract k t.size).data.toList = t.data.toList.drop k := by
          rw [extract_data, List.take_of_length_le (by rw [List.length_drop]; exact Nat.le_refl _)]
        have hsz : (t.extract k t.size).size = t.size - k := by
          show (t.extract k t.size).data.toList.length = _
          rw [hdrop, List.length_drop]
          rfl
        refine ⟨t.extract k t.size, done ++ [r], by omega, by omega, by rw [List.length_append, List.length_singleton]; omega, rfl, ?_, ?_, ?_, HB2⟩
        · have := HL.out
          rw [HS.out.2.2] at this
          show _ = _
          rw [this, hdrop]
          simp
        · show _ = _
          rw [hdrop]
          exact HS.out.1.symm
        · have := HO2.out
          rw [List.length_append, List.length_singleton]
          simpa [runeInts] using this
    · go_wp2_with fail
      go_ret2
      have ht : t.data.toList = [] := List.eq_nil_of_length_eq_zero (by show t.size = 0; omega)
      have := HL.out
      rw [ht, runes_nil, List.append_nil] at this
      rw [this]
      exact ⟨⟨_, rfl, HO.out⟩, HB.out⟩

set_option maxRecDepth 100000 in
set_option maxHeartbeats 1000000 in
theorem refRunes_bad (s : ByteArray) (w : World) (hs : s.size ≤ 1099511627776) (hv : validD s.data.toList = false) :
    Calls Tryd.prog 10 #[.string s] w fun e w' => e = .returned (.tuple #[.slice none 0 0, .bool false]) ∧ Below w.heap.size w w' := by
  have HV := Lib.hid hv
  clear hv
  obtain ⟨i0, hi, hz0, hz1, hz2⟩ := info_parts infoInt
  go_enter Tryd.func10, Tryd.ntmps10
  go_wp2_with fail
  go_loopg [0, 4, 5, 6] s.size (fun g r v _ _ wr => ∃ t : ByteArray, ∃ done : List Nat, t.size ≤ g ∧ t.size ≤ s.size ∧ done.length + t.size ≤ s.size ∧ r = .string t ∧ Aside (validD t.data.toList = false) ∧ wr.ownsRow w.heap.size 3 1 v done.length (runeInts done) ∧ Hid (Below w.heap.size w wr))
  case atStart => exact ⟨s, [], Nat.le_refl _, Nat.le_refl _, by simp, rfl, HV.out, (World.ownsRow_nil _ _ _ _ : w.ownsRow w.heap.size 3 1 (.slice none 0 0) 0 []), Below.refl _ _⟩
  case round =>
    obtain ⟨t, done, hg, hts, hd, rfl, HT, hown, HB⟩ := hrel
    have HO := Lib.hid hown
    clear hown
    have hne : t.data.toList ≠ [] := by
      intro e
      have := HT.out
      rw [e] at this
      cases this
    have h0 : 0 < t.size := by
      have : 0 < t.data.toList.length := List.length_pos_iff.2 hne
      exact this
    have hstep := validD_step t.data.toList hne
    rw [HT.out] at hstep
    by_cases hb : bad t.data.toList
    · have hnx : refNextL t.data.toList = (0, 0) := by unfold refNextL; rw [if_neg hne, if_pos hb]
      have HX := Lib.hid hnx
      clear hnx hb hstep hne
      go_wp2_with fail
      refine (refNext_any t _).mono ?_
      rintro e w1 ⟨rfl, rfl⟩
      rw [HX.out]
      go_wp2_with fail
      go_ret2
      exact ⟨rfl, HB.out⟩
    · have hnb' := hb
      unfold bad at hnb'
      rw [if_neg hnb'] at hstep
      have hnx : refNextL t.data.toList = decodeL t.data.toList := by unfold refNextL; rw [if_neg hne, if_neg hb]
      have hw1 := decodeL_width t.data.toList
      have hw2 : (decodeL t.data.toList).2 ≤ t.size := decodeL_le _ hne
      obtain ⟨r, k, hrk⟩ : ∃ r k, decodeL t.data.toList = (r, k) := ⟨_, _, rfl⟩
      rw [hrk] at hstep hnx hw1 hw2
      simp only at hstep hw1 hw2
      have HS := Lib.hid (And.intro hstep hnx)
      clear hstep hnx hrk hb hnb' hne
      go_wp2_with fail
      refine (refNext_any t _).mono ?_
      rintro e w1 ⟨rfl, rfl⟩
      rw [HS.out.2]
      have hkz : ((k : Int) == 0) = false := by rw [beq_eq_false_iff_ne]; omega
      go_wp2_with (at_builtin; refine wpList_append_own _ rfl _ _ 27 rfl w.heap.size 3 i0 (.int .i64 0) 1 8 Tryd.underlying27 hi hz0 hz1 hz2 rfl (by decide) _ _ _ rfl (HO.out.alloc _) ⟨wr.heap.size, 0, none⟩ 1 1 [.int .i64 r] rfl rfl ?q1 ?q2 ?q3 ?q4 ?q5 ?_)
      case q1 =>
        intro j u hj
        match j, hj with
        | 0, hj => simp at hj; subst hj; rw [show Addr.add ⟨wr.heap.size, 0, none⟩ 0 = (⟨wr.heap.size, 0, none⟩ : Addr) from rfl, cell_at_new]
      case q2 => intro u hu; simp at hu; subst hu; rfl
      case q3 => unfold maxLen; omega
      case q4 => omega
      case q5 => have := HB.out.size; simp; omega
      intro v' w2 hown2 hgrow hnn
      have HO2 := Lib.hid hown2
      have HB2 : Hid (Below w.heap.size w w2) := (HB.out.alloc HB.out.size _).grown hgrow (by have := HB.out.size; simp; omega) (fun g hg => (HO.out.lt g hg).1)
      clear hown2 hgrow hnn HO HB
      go_wp2_with fail
      go_roundg (gk - 1)
      case measure => omega
      case rel =>
        have hdrop : (t.extract k t.size).data.toList = t.data.toList.drop k := by
          rw [extract_data, List.take_of_length_le (by rw [List.length_drop]; exact Nat.le_refl _)]
        have hsz : (t.extract k t.size).size = t.size - k := by
          show (t.extract k t.size).data.toList.length = _
          rw [hdrop, List.length_drop]
          rfl
        refine ⟨t.extract k t.size, done ++ [r], by omega, by omega, by rw [List.length_append, List.length_singleton]; omega, rfl, ?_, ?_, HB2⟩
        · show _ = _
          rw [hdrop]
          exact HS.out.1.symm
        · have := HO2.out
          rw [List.length_append, List.length_singleton]
          simpa [runeInts] using this
end Go.Proofs.YtgolffjiepcbpaaDoor
