/- The walk of the law LabelJoins. -/
import Derived.Test.YtgolffjiepcbpaaDoorLabelSpeaks
import Derived.Test.YtgolffjiepcbpaaDoorLabelRunesOf
import Derived.Deep.DeepCutAuto
namespace Go.Proofs.YtgolffjiepcbpaaDoor
open Go.RowKit Go.Lib

theorem enc_len : ∀ (R : List Nat), (enc R).length ≤ 4 * R.length
  | [] => Nat.le_refl _
  | r :: R => by
    have h1 : (encodeRune (r : Int)).length ≤ 4 := by
      unfold encodeRune encodeRuneZ
      repeat' split
      all_goals simp
    rw [enc_cons, List.length_append, List.length_cons]
    have := enc_len R
    omega
theorem text_facts {X : List Nat} {s : ByteArray} (h : VRs X) (hs : s = ⟨(enc X).toArray⟩) : validD s.data.toList = true ∧ runes s.data.toList = X ∧ (parts [] s.data.toList).length = (partsR [] X).length := by
  subst hs
  have hp := parts_enc X [] h
  rw [enc_nil] at hp
  exact ⟨valid_enc X h, runes_enc X h, by show (parts [] (enc X)).length = _; rw [hp, List.length_map]⟩
theorem join_facts {A X : List Nat} (hA : VRs A) (hl : A.length ≤ 64) (hL : labelR A = true) (hX : X = smallR A) : VRs X ∧ X.length ≤ 64 ∧ labelR X = true ∧ smallR X = X ∧ (enc X).length ≤ 256 := by
  subst hX
  have h1 : (smallR A).length ≤ 64 := by rw [smallR_length]; exact hl
  refine ⟨smallR_VRs hA, h1, by rw [label_small hA]; exact hL, small_small hA, ?_⟩
  have := enc_len (smallR A)
  omega

theorem joined {X Y J : List Nat} {c : Nat} (hX : VRs X ∧ X.length ≤ 64 ∧ labelR X = true ∧ smallR X = X ∧ (enc X).length ≤ 256) (hY : VRs Y ∧ Y.length ≤ 64 ∧ labelR Y = true ∧ smallR Y = Y ∧ (enc Y).length ≤ 256)
    (h1 : sepI (c : Int) = true) (h2 : letterI (c : Int) = 0) (h3 : VR c) (hJ : J = X ++ c :: Y) :
    VRs J ∧ J.length = X.length + Y.length + 1 ∧ labelR J = decide (at64 J ≤ 1) ∧ smallR J = J ∧ (partsR [] J).length = (partsR [] X).length + (partsR [] Y).length ∧ alphOf 0 J = bits .or .i64 (alphOf 0 X) (alphOf 0 Y) := by
  subst hJ
  refine ⟨fun x hx => ?_, by rw [List.length_append, List.length_cons]; omega, label_join h1 hX.2.2.1 hY.2.2.1, ?_, by rw [partsR_sep X [] Y c h1, List.length_append], alph_join X Y c h2⟩
  · rcases List.mem_append.1 hx with hx | hx
    · exact hX.1 x hx
    · rcases List.mem_cons.1 hx with rfl | hx
      · exact h3
      · exact hY.1 x hx
  · rw [smallR_app, smallR_cons, hX.2.2.2.1, hY.2.2.2.1]
    congr 2
    have : smallI c = c := by
      unfold smallI
      rw [if_neg]
      intro hcap
      unfold letterI smallI at h2
      rw [if_pos hcap] at h2
      unfold capI at hcap
      unfold lowI at h2
      simp at hcap
      revert h2
      repeat' split
      all_goals (first | omega | (intro h; cases h))
    omega

set_option maxRecDepth 100000 in
set_option maxHeartbeats 1000000 in
theorem labelJoins_walk (a b : ByteArray) (ha : a.size ≤ maxLen) (hb : b.size ≤ maxLen) (at_ : Bool) (w : World) (h : Ready w) : Calls Tryd.prog 6 #[.string a, .string b, .bool at_] w fun e w' => e = .returned (.bool true) ∧ Below w.heap.size w w' := by
  have H := Lib.hid h
  unfold maxLen at ha hb
  clear h
  go_enter Tryd.func6, Tryd.ntmps6
  go_wp2_with fail
  refine (label_speaks _ H.out).mono ?_
  rintro e w1 ⟨rfl, hbl⟩
  have HB := Lib.hid hbl
  have H1 := Lib.hid (H.out.below hbl)
  clear hbl
  go_wp2_with fail
  have hA' : (a.extract 0 (min (a.size : Int) 200).toNat).size ≤ 200 := by rw [ByteArray.size_extract]; omega
  have hB' : (b.extract 0 (min (b.size : Int) 200).toNat).size ≤ 200 := by rw [ByteArray.size_extract]; omega
  refine (normal_at _ _ (by omega) H1.out).mono ?_
  rintro e w2 ⟨rfl, hbl⟩
  have HB2 := Lib.hid (HB.out.trans (hbl.mono HB.out.size))
  have H2 := Lib.hid (H1.out.below hbl)
  clear hbl
  obtain ⟨x, ex, hx⟩ : ∃ x ex, normalI (a.extract 0 (min (a.size : Int) 200).toNat).data.toList = (x, ex) := ⟨_, _, rfl⟩
  rw [hx]
  go_wp2_with fail
  refine (normal_at _ _ (by omega) H2.out).mono ?_
  rintro e w3 ⟨rfl, hbl⟩
  have HB3 := Lib.hid (HB2.out.trans (hbl.mono HB2.out.size))
  have H3 := Lib.hid (H2.out.below hbl)
  clear hbl
  obtain ⟨y, ey, hy⟩ : ∃ y ey, normalI (b.extract 0 (min (b.size : Int) 200).toNat).data.toList = (y, ey) := ⟨_, _, rfl⟩
  rw [hy]
  by_cases hex : ex = 0
  · by_cases hey : ey = 0
    · subst hex hey
      obtain ⟨A, hA, -, hAl, hAL, hAx⟩ := normal_good (l := (a.extract 0 (min (a.size : Int) 200).toNat).data.toList) (by rw [hx])
      obtain ⟨B, hB, -, hBl, hBL, hBy⟩ := normal_good (l := (b.extract 0 (min (b.size : Int) 200).toNat).data.toList) (by rw [hy])
      rw [hx] at hAx
      rw [hy] at hBy
      dsimp only at hAx hBy
      obtain ⟨X, hX⟩ : ∃ X, X = smallR A := ⟨_, rfl⟩
      obtain ⟨Y, hY⟩ : ∃ Y, Y = smallR B := ⟨_, rfl⟩
      rw [← hX] at hAx
      rw [← hY] at hBy
      have fX := join_facts hA hAl hAL hX
      have fY := join_facts hB hBl hBL hY
      subst hAx hBy
      obtain ⟨xb, hxb⟩ : ∃ xb : ByteArray, xb = ⟨(enc X).toArray⟩ := ⟨_, rfl⟩
      obtain ⟨yb, hyb⟩ : ∃ yb : ByteArray, yb = ⟨(enc Y).toArray⟩ := ⟨_, rfl⟩
      have hxs : xb.size ≤ 256 := by rw [hxb]; exact fX.2.2.2.2
      have hys : yb.size ≤ 256 := by rw [hyb]; exact fY.2.2.2.2
      rw [← hxb, ← hyb]
      have FX := Lib.hid fX
      have FY := Lib.hid fY
      have HXB := Lib.hid hxb
      have HYB := Lib.hid hyb
      clear fX fY hxb hyb hX hY hA hB hAl hBl hAL hBL hx hy hA' hB'
      have q1 : (9223372036854775807 < xb.size + 1) = False := eq_false (by omega)
      have q2 : (9223372036854775807 < xb.size + 1 + yb.size) = False := eq_false (by omega)
      obtain ⟨S, hS⟩ : ∃ S : ByteArray, S = xb ++ ⟨#[cond at_ 64 46]⟩ ++ yb := ⟨_, rfl⟩
      obtain ⟨c, hc⟩ : ∃ c : Nat, c = cond at_ 64 46 := ⟨_, rfl⟩
      have hcf : sepI (c : Int) = true ∧ letterI (c : Int) = 0 ∧ VR c ∧ encodeRune (c : Int) = [cond at_ 64 46] := by
        subst hc
        cases at_
        · exact ⟨by decide, by decide, .inl (by decide), by decide⟩
        · exact ⟨by decide, by decide, .inl (by decide), by decide⟩
      have hSl : S.data.toList = enc (X ++ c :: Y) := by
        rw [hS, enc_app, enc_cons, hcf.2.2.2, HXB.out, HYB.out]
        simp
      obtain ⟨J, hJ⟩ : ∃ J, J = X ++ c :: Y := ⟨_, rfl⟩
      rw [← hJ] at hSl
      have fJ := joined FX.out FY.out hcf.1 hcf.2.1 hcf.2.2.1 hJ
      have hSs : S.size ≤ 600 := by
        rw [hS, ByteArray.size_append, ByteArray.size_append]
        show xb.size + 1 + yb.size ≤ 600
        omega
      have hcount : S.data.toList.count 64 = at64 J := by rw [hSl]; exact count_enc J fJ.1
      have FJ := Lib.hid fJ
      have HSL := Lib.hid hSl
      have HCN := Lib.hid hcount
      clear fJ hSl hcf hc hJ hcount
      cases at_
      · go_wp2_with fail
        rw [show xb ++ ⟨#[46]⟩ ++ yb = S from hS.symm]
        clear hS
        go_loopg [12, 13] S.size (fun n av iv wx => ∃ i : Nat, i + n ≥ S.size ∧ i ≤ S.size ∧ iv = .int .i64 i ∧ av = .int .i64 ((S.data.toList.take i).count 64 : Nat) ∧ Hid (Ready wx) ∧ Hid (Below w.heap.size w wx))
        case atStart => exact ⟨0, by omega, Nat.zero_le _, rfl, rfl, H3.out, HB3.out⟩
        case round =>
          clear HB3 H3
          obtain ⟨i, hn, hi, rfl, rfl, HR, HB3⟩ := hrel
          by_cases hlt : i < S.size
          · have htk : S.data.toList.take (i + 1) = S.data.toList.take i ++ [S[i]'hlt] := List.take_succ_eq_append_getElem (l := S.data.toList) hlt
            have hle : (S.data.toList.take i).count 64 ≤ i := Nat.le_trans (List.count_le_length) (by rw [List.length_take]; omega)
            by_cases h64 : (S[i]'hlt).toNat = 64
            · have hnx : (S.data.toList.take (i + 1)).count 64 = (S.data.toList.take i).count 64 + 1 := by
                rw [htk, List.count_append, show S[i]'hlt = 64 from UInt8.toNat_inj.1 h64]
                rfl
              have HNX := Lib.hid hnx
              clear htk hnx
              go_wp2_with fail
              go_roundg (gk - 1)
              case measure => omega
              case rel => exact ⟨i + 1, by omega, by omega, by go_num, by rw [HNX.out]; go_num, HR.out, HB3.out⟩
            · have hnx : (S.data.toList.take (i + 1)).count 64 = (S.data.toList.take i).count 64 := by
                have hz : List.count (64 : UInt8) [S[i]'hlt] = 0 := List.count_eq_zero.2 fun hm => h64 (by rw [← List.mem_singleton.1 hm]; rfl)
                rw [htk, List.count_append, hz, Nat.add_zero]
              have HNX := Lib.hid hnx
              have i64 : (((S[i]'hlt).toNat : Int) == 64) = false := by rw [beq_eq_false_iff_ne]; omega
              clear htk hnx
              go_wp2_with fail
              go_roundg (gk - 1)
              case measure => omega
              case rel => exact ⟨i + 1, by omega, by omega, by go_num, by rw [HNX.out], HR.out, HB3.out⟩
          · have hall : S.data.toList.take i = S.data.toList := List.take_of_length_le (by show S.size ≤ i; omega)
            rw [hall, HCN.out]
            clear hall
            have fX := text_facts FX.out.1 (HXB.out)
            have fY := text_facts FY.out.1 (HYB.out)
            have fS := text_facts FJ.out.1 (show S = ⟨(enc J).toArray⟩ by rw [← HSL.out])
            have TX := Lib.hid fX
            have TY := Lib.hid fY
            have TS := Lib.hid fS
            have hjl := FJ.out.2.1
            have hxl := FX.out.2.1
            have hyl := FY.out.2.1
            have hnorm := normal_enc FJ.out.1
            rw [FJ.out.2.2.1, FJ.out.2.2.2.1, ← HSL.out] at hnorm
            have HN := Lib.hid hnorm
            clear fX fY fS hnorm
            go_wp2_with fail
            refine (runes_good xb _ (by omega) HR.out.t TX.out.1).mono ?_
            rintro e w4 ⟨rfl, hbl⟩
            rw [TX.out.2.1]
            have HB4 := Lib.hid (HB3.out.trans (hbl.mono HB3.out.size))
            have H4 := Lib.hid (HR.out.below hbl)
            clear hbl
            go_wp2_with fail
            refine (runes_good yb _ (by omega) H4.out.t TY.out.1).mono ?_
            rintro e w5 ⟨rfl, hbl⟩
            rw [TY.out.2.1]
            have HB5 := Lib.hid (HB4.out.trans (hbl.mono HB4.out.size))
            have H5 := Lib.hid (H4.out.below hbl)
            clear hbl
            go_wp2_with fail
            refine (normal_at S _ (by omega) H5.out).mono ?_
            rintro e w6 ⟨rfl, hbl⟩
            rw [HN.out]
            have HB6 := Lib.hid (HB5.out.trans (hbl.mono HB5.out.size))
            have H6 := Lib.hid (H5.out.below hbl)
            clear hbl
            by_cases hlong : 64 < J.length
            · rw [if_pos hlong]
              have hl2 : (64 : Int) < (X.length : Int) + (Y.length : Int) + 1 := by omega
              go_wp2_with fail
              go_ret
              exact ⟨rfl, HB6.out⟩
            · rw [if_neg hlong]
              have hl2 : ((64 : Int) < (X.length : Int) + (Y.length : Int) + 1) = False := eq_false (by omega)
              by_cases hats : at64 J ≤ 1
              · rw [if_neg (by rw [decide_eq_true hats]; decide)]
                have ha2 : ((1 : Int) < (at64 J : Int)) = False := eq_false (by omega)
                have hSl1 := parts_pos [] S.data.toList
                have hXl1 := parts_pos [] xb.data.toList
                have hYl1 := parts_pos [] yb.data.toList
                have hsum : (parts [] S.data.toList).length = (parts [] xb.data.toList).length + (parts [] yb.data.toList).length := by
                  rw [TS.out.2.2, TX.out.2.2, TY.out.2.2]
                  exact FJ.out.2.2.2.2.1
                obtain ⟨nS, hnS⟩ : ∃ n, n = (parts [] S.data.toList).length := ⟨_, rfl⟩
                obtain ⟨nX, hnX⟩ : ∃ n, n = (parts [] xb.data.toList).length := ⟨_, rfl⟩
                obtain ⟨nY, hnY⟩ : ∃ n, n = (parts [] yb.data.toList).length := ⟨_, rfl⟩
                rw [← hnS, ← hnX, ← hnY] at hsum
                rw [← hnS] at hSl1
                rw [← hnX] at hXl1
                rw [← hnY] at hYl1
                have hnb : nS ≤ 601 := by
                  have := parts_count_le S.data.toList.length [] S.data.toList (Nat.le_refl _)
                  rw [← hnS] at this
                  have e1 : S.data.toList.length = S.size := rfl
                  omega
                have e2 : ((nS : Int) == (nX : Int) + (nY : Int)) = true := by rw [beq_iff_eq]; omega
                have NS := Lib.hid hnS
                have NX := Lib.hid hnX
                have NY := Lib.hid hnY
                clear hnS hnX hnY
                go_wp2_with fail
                refine (parts_any S _ (by omega)).mono ?_
                rintro e w7 ⟨⟨v, rfl, hown⟩, hbl⟩
                unfold OwnsTexts at hown
                rw [← NS.out] at hown
                obtain ⟨g1, cap1, hv, -⟩ := owns_form hown hSl1
                subst hv
                have HB7 := Lib.hid (HB6.out.trans (hbl.mono HB6.out.size))
                have H7 := Lib.hid (H6.out.below hbl)
                clear hbl hown
                go_wp2_with fail
                refine (parts_any xb _ (by omega)).mono ?_
                rintro e w8 ⟨⟨v, rfl, hown⟩, hbl⟩
                unfold OwnsTexts at hown
                rw [← NX.out] at hown
                obtain ⟨g2, cap2, hv, -⟩ := owns_form hown hXl1
                subst hv
                have HB8 := Lib.hid (HB7.out.trans (hbl.mono HB7.out.size))
                have H8 := Lib.hid (H7.out.below hbl)
                clear hbl hown
                go_wp2_with fail
                refine (parts_any yb _ (by omega)).mono ?_
                rintro e w9 ⟨⟨v, rfl, hown⟩, hbl⟩
                unfold OwnsTexts at hown
                rw [← NY.out] at hown
                obtain ⟨g3, cap3, hv, -⟩ := owns_form hown hYl1
                subst hv
                have HB9 := Lib.hid (HB8.out.trans (hbl.mono HB8.out.size))
                have H9 := Lib.hid (H8.out.below hbl)
                clear hbl hown
                go_wp2_with fail
                refine (alphabets_any S _ (by omega) H9.out.a H9.out.s).mono ?_
                rintro e w10 ⟨rfl, hbl⟩
                rw [TS.out.2.1, FJ.out.2.2.2.2.2]
                have HB10 := Lib.hid (HB9.out.trans (hbl.mono HB9.out.size))
                have H10 := Lib.hid (H9.out.below hbl)
                clear hbl
                go_wp2_with fail
                refine (alphabets_any xb _ (by omega) H10.out.a H10.out.s).mono ?_
                rintro e w11 ⟨rfl, hbl⟩
                rw [TX.out.2.1]
                have HB11 := Lib.hid (HB10.out.trans (hbl.mono HB10.out.size))
                have H11 := Lib.hid (H10.out.below hbl)
                clear hbl
                go_wp2_with fail
                refine (alphabets_any yb _ (by omega) H11.out.a H11.out.s).mono ?_
                rintro e w12 ⟨rfl, hbl⟩
                rw [TY.out.2.1]
                have HB12 := Lib.hid (HB11.out.trans (hbl.mono HB11.out.size))
                clear hbl
                have e3 : (bits .or .i64 (alphOf 0 X) (alphOf 0 Y) == bits .or .i64 (alphOf 0 X) (alphOf 0 Y)) = true := by simp
                go_wp2_with fail
                go_ret
                exact ⟨rfl, HB12.out⟩
              · rw [if_pos (decide_eq_false hats)]
                have ha2 : (1 : Int) < (at64 J : Int) := by omega
                go_wp2_with fail
                go_ret
                exact ⟨rfl, HB6.out⟩
      · go_wp2_with fail
        rw [show xb ++ ⟨#[64]⟩ ++ yb = S from hS.symm]
        clear hS
        go_loopg [12, 13] S.size (fun n av iv wx => ∃ i : Nat, i + n ≥ S.size ∧ i ≤ S.size ∧ iv = .int .i64 i ∧ av = .int .i64 ((S.data.toList.take i).count 64 : Nat) ∧ Hid (Ready wx) ∧ Hid (Below w.heap.size w wx))
        case atStart => exact ⟨0, by omega, Nat.zero_le _, rfl, rfl, H3.out, HB3.out⟩
        case round =>
          clear HB3 H3
          obtain ⟨i, hn, hi, rfl, rfl, HR, HB3⟩ := hrel
          by_cases hlt : i < S.size
          · have htk : S.data.toList.take (i + 1) = S.data.toList.take i ++ [S[i]'hlt] := List.take_succ_eq_append_getElem (l := S.data.toList) hlt
            have hle : (S.data.toList.take i).count 64 ≤ i := Nat.le_trans (List.count_le_length) (by rw [List.length_take]; omega)
            by_cases h64 : (S[i]'hlt).toNat = 64
            · have hnx : (S.data.toList.take (i + 1)).count 64 = (S.data.toList.take i).count 64 + 1 := by
                rw [htk, List.count_append, show S[i]'hlt = 64 from UInt8.toNat_inj.1 h64]
                rfl
              have HNX := Lib.hid hnx
              clear htk hnx
              go_wp2_with fail
              go_roundg (gk - 1)
              case measure => omega
              case rel => exact ⟨i + 1, by omega, by omega, by go_num, by rw [HNX.out]; go_num, HR.out, HB3.out⟩
            · have hnx : (S.data.toList.take (i + 1)).count 64 = (S.data.toList.take i).count 64 := by
                have hz : List.count (64 : UInt8) [S[i]'hlt] = 0 := List.count_eq_zero.2 fun hm => h64 (by rw [← List.mem_singleton.1 hm]; rfl)
                rw [htk, List.count_append, hz, Nat.add_zero]
              have HNX := Lib.hid hnx
              have i64 : (((S[i]'hlt).toNat : Int) == 64) = false := by rw [beq_eq_false_iff_ne]; omega
              clear htk hnx
              go_wp2_with fail
              go_roundg (gk - 1)
              case measure => omega
              case rel => exact ⟨i + 1, by omega, by omega, by go_num, by rw [HNX.out], HR.out, HB3.out⟩
          · have hall : S.data.toList.take i = S.data.toList := List.take_of_length_le (by show S.size ≤ i; omega)
            rw [hall, HCN.out]
            clear hall
            have fX := text_facts FX.out.1 (HXB.out)
            have fY := text_facts FY.out.1 (HYB.out)
            have fS := text_facts FJ.out.1 (show S = ⟨(enc J).toArray⟩ by rw [← HSL.out])
            have TX := Lib.hid fX
            have TY := Lib.hid fY
            have TS := Lib.hid fS
            have hjl := FJ.out.2.1
            have hxl := FX.out.2.1
            have hyl := FY.out.2.1
            have hnorm := normal_enc FJ.out.1
            rw [FJ.out.2.2.1, FJ.out.2.2.2.1, ← HSL.out] at hnorm
            have HN := Lib.hid hnorm
            clear fX fY fS hnorm
            go_wp2_with fail
            refine (runes_good xb _ (by omega) HR.out.t TX.out.1).mono ?_
            rintro e w4 ⟨rfl, hbl⟩
            rw [TX.out.2.1]
            have HB4 := Lib.hid (HB3.out.trans (hbl.mono HB3.out.size))
            have H4 := Lib.hid (HR.out.below hbl)
            clear hbl
            go_wp2_with fail
            refine (runes_good yb _ (by omega) H4.out.t TY.out.1).mono ?_
            rintro e w5 ⟨rfl, hbl⟩
            rw [TY.out.2.1]
            have HB5 := Lib.hid (HB4.out.trans (hbl.mono HB4.out.size))
            have H5 := Lib.hid (H4.out.below hbl)
            clear hbl
            go_wp2_with fail
            refine (normal_at S _ (by omega) H5.out).mono ?_
            rintro e w6 ⟨rfl, hbl⟩
            rw [HN.out]
            have HB6 := Lib.hid (HB5.out.trans (hbl.mono HB5.out.size))
            have H6 := Lib.hid (H5.out.below hbl)
            clear hbl
            by_cases hlong : 64 < J.length
            · rw [if_pos hlong]
              have hl2 : (64 : Int) < (X.length : Int) + (Y.length : Int) + 1 := by omega
              go_wp2_with fail
              go_ret
              exact ⟨rfl, HB6.out⟩
            · rw [if_neg hlong]
              have hl2 : ((64 : Int) < (X.length : Int) + (Y.length : Int) + 1) = False := eq_false (by omega)
              by_cases hats : at64 J ≤ 1
              · rw [if_neg (by rw [decide_eq_true hats]; decide)]
                have ha2 : ((1 : Int) < (at64 J : Int)) = False := eq_false (by omega)
                have hSl1 := parts_pos [] S.data.toList
                have hXl1 := parts_pos [] xb.data.toList
                have hYl1 := parts_pos [] yb.data.toList
                have hsum : (parts [] S.data.toList).length = (parts [] xb.data.toList).length + (parts [] yb.data.toList).length := by
                  rw [TS.out.2.2, TX.out.2.2, TY.out.2.2]
                  exact FJ.out.2.2.2.2.1
                obtain ⟨nS, hnS⟩ : ∃ n, n = (parts [] S.data.toList).length := ⟨_, rfl⟩
                obtain ⟨nX, hnX⟩ : ∃ n, n = (parts [] xb.data.toList).length := ⟨_, rfl⟩
                obtain ⟨nY, hnY⟩ : ∃ n, n = (parts [] yb.data.toList).length := ⟨_, rfl⟩
                rw [← hnS, ← hnX, ← hnY] at hsum
                rw [← hnS] at hSl1
                rw [← hnX] at hXl1
                rw [← hnY] at hYl1
                have hnb : nS ≤ 601 := by
                  have := parts_count_le S.data.toList.length [] S.data.toList (Nat.le_refl _)
                  rw [← hnS] at this
                  have e1 : S.data.toList.length = S.size := rfl
                  omega
                have e2 : ((nS : Int) == (nX : Int) + (nY : Int)) = true := by rw [beq_iff_eq]; omega
                have NS := Lib.hid hnS
                have NX := Lib.hid hnX
                have NY := Lib.hid hnY
                clear hnS hnX hnY
                go_wp2_with fail
                refine (parts_any S _ (by omega)).mono ?_
                rintro e w7 ⟨⟨v, rfl, hown⟩, hbl⟩
                unfold OwnsTexts at hown
                rw [← NS.out] at hown
                obtain ⟨g1, cap1, hv, -⟩ := owns_form hown hSl1
                subst hv
                have HB7 := Lib.hid (HB6.out.trans (hbl.mono HB6.out.size))
                have H7 := Lib.hid (H6.out.below hbl)
                clear hbl hown
                go_wp2_with fail
                refine (parts_any xb _ (by omega)).mono ?_
                rintro e w8 ⟨⟨v, rfl, hown⟩, hbl⟩
                unfold OwnsTexts at hown
                rw [← NX.out] at hown
                obtain ⟨g2, cap2, hv, -⟩ := owns_form hown hXl1
                subst hv
                have HB8 := Lib.hid (HB7.out.trans (hbl.mono HB7.out.size))
                have H8 := Lib.hid (H7.out.below hbl)
                clear hbl hown
                go_wp2_with fail
                refine (parts_any yb _ (by omega)).mono ?_
                rintro e w9 ⟨⟨v, rfl, hown⟩, hbl⟩
                unfold OwnsTexts at hown
                rw [← NY.out] at hown
                obtain ⟨g3, cap3, hv, -⟩ := owns_form hown hYl1
                subst hv
                have HB9 := Lib.hid (HB8.out.trans (hbl.mono HB8.out.size))
                have H9 := Lib.hid (H8.out.below hbl)
                clear hbl hown
                go_wp2_with fail
                refine (alphabets_any S _ (by omega) H9.out.a H9.out.s).mono ?_
                rintro e w10 ⟨rfl, hbl⟩
                rw [TS.out.2.1, FJ.out.2.2.2.2.2]
                have HB10 := Lib.hid (HB9.out.trans (hbl.mono HB9.out.size))
                have H10 := Lib.hid (H9.out.below hbl)
                clear hbl
                go_wp2_with fail
                refine (alphabets_any xb _ (by omega) H10.out.a H10.out.s).mono ?_
                rintro e w11 ⟨rfl, hbl⟩
                rw [TX.out.2.1]
                have HB11 := Lib.hid (HB10.out.trans (hbl.mono HB10.out.size))
                have H11 := Lib.hid (H10.out.below hbl)
                clear hbl
                go_wp2_with fail
                refine (alphabets_any yb _ (by omega) H11.out.a H11.out.s).mono ?_
                rintro e w12 ⟨rfl, hbl⟩
                rw [TY.out.2.1]
                have HB12 := Lib.hid (HB11.out.trans (hbl.mono HB11.out.size))
                clear hbl
                have e3 : (bits .or .i64 (alphOf 0 X) (alphOf 0 Y) == bits .or .i64 (alphOf 0 X) (alphOf 0 Y)) = true := by simp
                go_wp2_with fail
                go_ret
                exact ⟨rfl, HB12.out⟩
              · rw [if_pos (decide_eq_false hats)]
                have ha2 : (1 : Int) < (at64 J : Int) := by omega
                go_wp2_with fail
                go_ret
                exact ⟨rfl, HB6.out⟩
    · go_wp2_with fail
      go_ret
      exact ⟨rfl, HB3.out⟩
  · go_wp2_with fail
    all_goals go_ret
    all_goals exact ⟨rfl, HB3.out⟩
end Go.Proofs.YtgolffjiepcbpaaDoor
