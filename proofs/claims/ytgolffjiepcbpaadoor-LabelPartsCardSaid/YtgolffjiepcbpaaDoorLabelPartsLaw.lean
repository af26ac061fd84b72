/- The walk of the law LabelParts. -/
import Derived.Test.YtgolffjiepcbpaaDoorLabelSpeaks
import Derived.Test.YtgolffjiepcbpaaDoorLabelFits
import Derived.Deep.DeepCutAuto
namespace Go.Proofs.YtgolffjiepcbpaaDoor
open Go.RowKit Go.Lib

set_option maxRecDepth 100000 in
set_option maxHeartbeats 800000 in
theorem labelParts_walk (s : ByteArray) (hm : s.size ≤ maxLen) (w : World) (h : Ready w) : Calls Tryd.prog 5 #[.string s] w fun e w' => e = .returned (.bool true) ∧ Below w.heap.size w w' := by
  have H := Lib.hid h
  unfold maxLen at hm
  clear h
  go_enter Tryd.func5, Tryd.ntmps5
  go_wp2_with fail
  refine (label_speaks _ H.out).mono ?_
  rintro e w1 ⟨rfl, hb⟩
  have HB := Lib.hid hb
  have H1 := Lib.hid (H.out.below hb)
  clear hb
  go_upto_region 3 with (fail)
  go_cut [0, 1] (fun s0 _ wx => ∃ t : ByteArray, t.size ≤ 200 ∧ s0 = .string t ∧ wx = w1)
  case first =>
    go_wp2
    go_meet
    case rel => exact ⟨_, by rw [ByteArray.size_extract]; omega, rfl, rfl⟩
  case rest =>
    obtain ⟨t, ht, rfl, rfl⟩ := hcut
    have hlen := parts_pos [] t.data.toList
    have hcnt := parts_count_le t.data.toList.length [] t.data.toList (Nat.le_refl _)
    have hsl : t.data.toList.length = t.size := rfl
    have hmem := parts_len_le t.data.toList.length [] t.data.toList (Nat.le_refl _)
    have hfit := parts_fit t.data.toList.length [] t.data.toList (Nat.le_refl _) noSep_nil
    rw [List.nil_append] at hfit
    obtain ⟨P, hP⟩ : ∃ P, P = parts [] t.data.toList := ⟨_, rfl⟩
    rw [← hP] at hlen hcnt hmem hfit
    rw [hsl] at hcnt hmem
    have HM := Lib.hid hmem
    have HP := Lib.hid hP
    have HF := Lib.hid hfit
    clear hP hmem hsl hfit
    go_wp2_with fail
    refine (parts_any t _ (by omega)).mono ?_
    rintro e w2 ⟨⟨v, rfl, hown⟩, hb⟩
    rw [← HP.out] at hown
    have HB2 := Lib.hid (HB.out.trans (hb.mono HB.out.size))
    clear hb
    obtain ⟨g, cap, hv, hgb⟩ := owns_form hown hlen
    subst hv
    have HO := Lib.hid hown
    clear hown
    go_wp2_with fail
    go_loopg [2, 4, 5, 6, 7] P.length (fun n _ rv iv _ _ wr => ∃ i : Nat, ∃ R : ByteArray, i + n ≥ P.length ∧ i ≤ P.length ∧ R.size ≤ 200 ∧ rv = .string R ∧ iv = .int .i64 i ∧ Aside ((i < P.length ∧ fits (P.drop i) R.data.toList) ∨ (i = P.length ∧ R = ⟨#[]⟩)) ∧ Hid (OwnsTexts wr 0 (.slice (some ⟨g, 0, none⟩) P.length cap) P) ∧ Hid (Below w.heap.size w wr))
    case atStart => exact ⟨0, t, by omega, Nat.zero_le _, ht, rfl, rfl, .inl ⟨hlen, HF.out⟩, ownsRow_base HO.out (Nat.zero_le _), HB2.out⟩
    case round =>
      clear HO HB2
      obtain ⟨go, hgo⟩ : ∃ x, x = gk := ⟨_, rfl⟩
      obtain ⟨i, R, hn, hi, hR, rfl, rfl, HL, HO, HB2⟩ := hrel
      by_cases hlt : i < P.length
      · have hcell : wr.cell? ⟨g, i, none⟩ = some (.string ⟨(P[i]'hlt).toArray⟩) := by
          rw [World.ownsRow.cellAt HO.out i (by omega)]
          simp [textCells, hlt]
        have hfit : fits (P.drop i) R.data.toList := by
          rcases HL.out with h | h
          · exact h.2
          · omega
        have hst := fits_step hlt hfit
        obtain ⟨X, hX⟩ : ∃ X : ByteArray, X = ⟨(P[i]'hlt).toArray⟩ := ⟨_, rfl⟩
        have hXl : P[i]'hlt = X.data.toList := by rw [hX]
        rw [← hX] at hcell
        rw [hXl] at hst
        have hpre : ∃ tl, R.data.toList = X.data.toList ++ tl := by
          rcases hst.2 with h | ⟨_, c, rest, h, _⟩
          · exact ⟨[], by rw [h.2, List.append_nil]⟩
          · exact ⟨c :: rest, h⟩
        obtain ⟨tl, htl⟩ := hpre
        have hXR : X.size ≤ R.size := by
          have := congrArg List.length htl
          rw [List.length_append] at this
          show X.data.toList.length ≤ R.data.toList.length
          omega
        have hE : R.extract 0 X.size = X := by
          rw [extract_str, htl, List.drop_zero, Nat.sub_zero, show X.size = X.data.toList.length from rfl, List.take_left]
        have HST := Lib.hid hst
        have HTL := Lib.hid htl
        clear hX hXl hst htl hfit
        have hq1 : (R.size < X.size) = False := eq_false (by omega)
        have hcell2 : wr.drew.cell? ⟨g, i, none⟩ = some (.string X) := hcell
        have HO2 : Hid (OwnsTexts wr.drew 0 (.slice (some ⟨g, 0, none⟩) P.length cap) P) := HO.out
        have HB3 : Hid (Below w.heap.size w wr.drew) := HB2.out.drew
        go_wp2_with fail
        go_region
        clear hcell
        go_wp2_with fail
        go_loopg [2, 6, 7] X.size (fun n _ kv _ wx => ∃ k : Nat, k + n ≥ X.size ∧ k ≤ X.size ∧ kv = .int .i64 k ∧ Hid (wx.cell? ⟨g, i, none⟩ = some (.string X)) ∧ Hid (OwnsTexts wx 0 (.slice (some ⟨g, 0, none⟩) P.length cap) P) ∧ Hid (Below w.heap.size w wx))
        case atStart => exact ⟨0, by omega, Nat.zero_le _, rfl, hcell2, HO2.out, HB3.out⟩
        case round =>
          clear HO HB2 HO2 HB3 hcell2
          obtain ⟨k, hkn, hk, rfl, hcl, HO, HB2⟩ := hrel
          have hcell := hcl.out
          by_cases hkl : k < X.size
          · have hno := HST.out.1 (X[k]'hkl) (List.getElem_mem (l := X.data.toList) hkl)
            unfold isSepB at hno
            have i46 : (((X[k]'hkl).toNat : Int) == 46) = false := by rw [beq_eq_false_iff_ne]; omega
            have i45 : (((X[k]'hkl).toNat : Int) == 45) = false := by rw [beq_eq_false_iff_ne]; omega
            have i95 : (((X[k]'hkl).toNat : Int) == 95) = false := by rw [beq_eq_false_iff_ne]; omega
            have i64 : (((X[k]'hkl).toNat : Int) == 64) = false := by rw [beq_eq_false_iff_ne]; omega
            clear hno
            go_wp2_with fail
            go_roundg (gk - 1)
            case measure => omega
            case rel => exact ⟨k + 1, by omega, by omega, by go_num, hcl.out, HO.out, HB2.out⟩
          · have hEX : R.extract X.size R.size = ⟨tl.toArray⟩ := by
              rw [extract_str, HTL.out, show X.size = X.data.toList.length from rfl, List.drop_left, List.take_of_length_le]
              show tl.length ≤ R.data.toList.length - X.data.toList.length
              rw [HTL.out, List.length_append]
              omega
            rcases HST.out.2 with ⟨hlast, hRX⟩ | ⟨hmore, c, rest, hRX, hcs, hfit⟩
            · have htl0 : tl = [] := by
                have := HTL.out
                rw [hRX] at this
                exact (List.self_eq_append_right.1 this)
              subst htl0
              have HL2 := Lib.hid hlast
              have hq4 : ((i : Int) < (P.length : Int) - 1) = False := eq_false (by omega)
              clear hRX hlast
              go_wp2_with fail
              go_roundg (go - 1)
              case measure => omega
              case rel => exact ⟨i + 1, ⟨#[]⟩, by omega, by omega, by decide, rfl, by go_num, .inr ⟨HL2.out, rfl⟩, HO.out, HB2.out⟩
            · have htlc : tl = c :: rest := by
                have := HTL.out
                rw [hRX] at this
                exact (List.append_cancel_left this).symm
              subst htlc
              obtain ⟨T, hT⟩ : ∃ T : ByteArray, T = ⟨(c :: rest).toArray⟩ := ⟨_, rfl⟩
              have hTs : T.size = rest.length + 1 := by rw [hT]; rfl
              have hT0 : (T[0]'(by omega)) = c := by subst hT; rfl
              have hTE : T.toList.isEmpty = false := by rw [ByteArray.toList_eq, hT]; rfl
              have hTX : T.extract 1 (rest.length + 1) = ⟨rest.toArray⟩ := by
                rw [← hTs, extract_str, hT]
                show (⟨(List.take ((c :: rest).length - 1) rest).toArray⟩ : ByteArray) = _
                rw [List.take_of_length_le (by simp)]
              have hTR : T.size ≤ R.size := by
                have := congrArg List.length hRX
                rw [List.length_append, List.length_cons] at this
                have e1 : R.data.toList.length = R.size := rfl
                omega
              rw [← hT] at hEX
              have HMO := Lib.hid (And.intro hmore hfit)
              have hq4 : ((i : Int) < (P.length : Int) - 1) = True := eq_true (by omega)
              have hrl : rest.length ≤ 200 := by omega
              clear hRX hmore hfit hT
              have hc : (T[0]'(by omega)).toNat = 46 ∨ (T[0]'(by omega)).toNat = 45 ∨ (T[0]'(by omega)).toNat = 95 ∨ (T[0]'(by omega)).toNat = 64 := by rw [hT0]; exact hcs
              clear hT0 hcs
              rcases hc with hc | hc | hc | hc
              all_goals go_wp2_with fail
              all_goals go_roundg (go - 1)
              all_goals first
                | (case measure => omega)
                | (case rel => exact ⟨i + 1, ⟨rest.toArray⟩, by omega, by omega, hrl, rfl, by go_num, .inl HMO.out, HO.out, HB2.out⟩)
      · have hR0 : R = ⟨#[]⟩ := by
          rcases HL.out with h | h
          · omega
          · exact h.2
        subst hR0
        go_wp2_with fail
        go_ret
        exact ⟨rfl, HB2.out⟩
end Go.Proofs.YtgolffjiepcbpaaDoor
