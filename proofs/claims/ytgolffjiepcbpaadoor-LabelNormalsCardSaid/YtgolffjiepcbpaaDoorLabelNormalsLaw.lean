/- The walk of the law LabelNormals. -/
import Derived.Test.YtgolffjiepcbpaaDoorLabelSpeaks
import Derived.Test.YtgolffjiepcbpaaDoorLabelWhy
import Derived.Deep.DeepCutAuto
namespace Go.Proofs.YtgolffjiepcbpaaDoor
open Go.RowKit Go.Lib

theorem enc_le : ∀ (R : List Nat), (enc R).length ≤ 4 * R.length
  | [] => Nat.le_refl _
  | r :: R => by
    have h1 : (encodeRune (r : Int)).length ≤ 4 := by
      unfold encodeRune encodeRuneZ
      repeat' split
      all_goals simp
    rw [enc_cons, List.length_append, List.length_cons]
    have := enc_le R
    omega
theorem label_some {A : List Nat} (h : labelR A = true) : 0 < A.length := by
  cases A with
  | nil => exact absurd h (by decide)
  | cons a r => simp

set_option maxRecDepth 100000 in
set_option maxHeartbeats 1000000 in
theorem labelNormals_walk (s : ByteArray) (hm : s.size ≤ maxLen) (w : World) (h : Ready w) : Calls Tryd.prog 3 #[.string s] w fun e w' => e = .returned (.bool true) ∧ Below w.heap.size w w' := by
  have H := Lib.hid h
  unfold maxLen at hm
  clear h
  go_enter Tryd.func3, Tryd.ntmps3
  go_wp2_with fail
  refine (label_speaks _ H.out).mono ?_
  rintro e w1 ⟨rfl, hbl⟩
  have HB := Lib.hid hbl
  have H1 := Lib.hid (H.out.below hbl)
  clear hbl
  go_wp2_with fail
  have ht : (s.extract 0 (min (s.size : Int) 300).toNat).size ≤ 300 := by rw [ByteArray.size_extract]; omega
  refine (normal_at _ _ (by omega) H1.out).mono ?_
  rintro e w2 ⟨rfl, hbl⟩
  have HB2 := Lib.hid (HB.out.trans (hbl.mono HB.out.size))
  have H2 := Lib.hid (H1.out.below hbl)
  clear hbl
  obtain ⟨t, htt⟩ : ∃ t, t = s.extract 0 (min (s.size : Int) 300).toNat := ⟨_, rfl⟩
  rw [← htt] at ht ⊢
  clear htt
  obtain ⟨x, ex, hx⟩ : ∃ x ex, normalI t.data.toList = (x, ex) := ⟨_, _, rfl⟩
  rw [hx]
  have hee := neq_self ex
  go_wp2_with fail
  refine (why_any t _ (by omega)).mono ?_
  rintro e w3 ⟨rfl, hbl⟩
  have HB3 := Lib.hid (HB2.out.trans (hbl.mono HB2.out.size))
  have H3 := Lib.hid (H2.out.below hbl)
  clear hbl
  rw [hx]
  by_cases hex : ex = 0
  · subst hex
    obtain ⟨A, hA, htA, hAl, hAL, hAx⟩ := normal_good (l := t.data.toList) (by rw [hx])
    rw [hx] at hAx
    dsimp only at hAx
    have hpos := label_some hAL
    obtain ⟨X, hX⟩ : ∃ X, X = smallR A := ⟨_, rfl⟩
    have fX : VRs X ∧ X.length = A.length ∧ labelR X = true ∧ smallR X = X := by
      subst hX
      exact ⟨smallR_VRs hA, smallR_length A, by rw [label_small hA]; exact hAL, small_small hA⟩
    have hcells : ∀ i, (hi : i < A.length) → ∃ hj : i < X.length, ((X[i]'hj : Nat) : Int) = smallI (A[i]'hi) := fun i hi => by
      subst hX
      refine ⟨by rw [smallR_length]; exact hi, ?_⟩
      unfold smallR
      rw [List.getElem_map]
      exact small_nat (hA _ (List.getElem_mem hi))
    have hAr : ∀ i, (hi : i < A.length) → A[i]'hi ≤ 1114111 := fun i hi => by
      have := hA _ (List.getElem_mem hi)
      unfold VR at this
      omega
    rw [← hX] at hAx
    subst hAx
    obtain ⟨xb, hxb⟩ : ∃ xb : ByteArray, xb = ⟨(enc X).toArray⟩ := ⟨_, rfl⟩
    have hxl : xb.data.toList = enc X := by rw [hxb]
    have hxs : xb.size ≤ 1024 := by
      have := enc_le X
      rw [hxb]
      show (enc X).length ≤ 1024
      omega
    rw [← hxb]
    have vA : validD t.data.toList = true := by rw [htA]; exact valid_enc A hA
    have rA : runes t.data.toList = A := by rw [htA]; exact runes_enc A hA
    have vX : validD xb.data.toList = true := by rw [hxl]; exact valid_enc X fX.1
    have rX : runes xb.data.toList = X := by rw [hxl]; exact runes_enc X fX.1
    have nX : normalI xb.data.toList = (enc X, 0) := by
      rw [hxl, normal_enc fX.1, if_neg (by omega), if_neg (by rw [fX.2.2.1]; decide), fX.2.2.2]
    have hXl := fX.2.1
    have F := Lib.hid (And.intro vA (And.intro rA (And.intro vX (And.intro rX nX))))
    have HCE := Lib.hid hcells
    have HAR := Lib.hid hAr
    have HXB := Lib.hid hxb
    have HL := Lib.hid hXl
    clear vA rA vX rX nX fX hX hx htA hA hAL hxl hcells hAr hxb hXl
    go_wp2_with fail
    refine (refRunes_good t _ (by omega) F.out.1).mono ?_
    rintro e w4 ⟨⟨v, rfl, hown⟩, hbl⟩
    rw [F.out.2.1] at hown
    have HB4 := Lib.hid (HB3.out.trans (hbl.mono HB3.out.size))
    have H4 := Lib.hid (H3.out.below hbl)
    clear hbl
    rcases int_row hown with ⟨_, hn0⟩ | ⟨g, cap, hv0, hgl, hc1⟩
    · subst hn0
      exact absurd hpos (by decide)
    subst hv0
    have HC := Lib.hid (And.intro hgl hc1)
    clear hown hgl hc1
    go_wp2_with fail
    refine (refRunes_good xb _ (by omega) F.out.2.2.1).mono ?_
    rintro e w5 ⟨⟨v, rfl, hown⟩, hbl⟩
    rw [F.out.2.2.2.1] at hown
    have HB5 := Lib.hid (HB4.out.trans (hbl.mono HB4.out.size))
    have H5 := Lib.hid (H4.out.below hbl)
    have HC5 : Hid (∀ i, (hi : i < A.length) → w5.cell? ⟨g, i, none⟩ = some (.int .i64 (A[i]'hi : Nat))) :=
      fun i hi => (hbl.cell (p := ⟨g, i, none⟩) HC.out.1).trans (HC.out.2 i hi)
    clear hbl
    rcases int_row hown with ⟨_, hn0⟩ | ⟨g2, cap2, hv0, hgl, hc2⟩
    · have := HL.out
      rw [hn0] at this
      simp at this
      omega
    subst hv0
    have HD5 := Lib.hid hc2
    have hXA := HL.out
    rw [hXA]
    clear hown hgl hc2
    have hll := neq_self (A.length : Int)
    go_wp2_with fail
    go_loopg [2, 9] A.length (fun n _ iv wx => ∃ i : Nat, i + n ≥ A.length ∧ i ≤ A.length ∧ iv = .int .i64 i ∧ Hid (∀ i, (hi : i < A.length) → wx.cell? ⟨g, i, none⟩ = some (.int .i64 (A[i]'hi : Nat))) ∧ Hid (∀ i, (hi : i < X.length) → wx.cell? ⟨g2, i, none⟩ = some (.int .i64 (X[i]'hi : Nat))) ∧ Hid (Ready wx) ∧ Hid (Below w.heap.size w wx))
    case atStart => exact ⟨0, by omega, Nat.zero_le _, rfl, HC5.out, HD5.out, H5.out, HB5.out⟩
    case round =>
      clear HC5 HD5 H5 HB5
      obtain ⟨i, hn, hi, rfl, HC5, HD5, H5, HB5⟩ := hrel
      by_cases hlt : i < A.length
      · have hcA := HC5.out i hlt
        obtain ⟨hj, hxj⟩ := HCE.out i hlt
        have hcB := HD5.out i hj
        rw [hxj] at hcB
        have hri := HAR.out i hlt
        obtain ⟨x, hx⟩ : ∃ x, x = A[i]'hlt := ⟨_, rfl⟩
        rw [← hx] at hcA hcB hri
        clear hx hxj
        have hns := neq_self (smallI (x : Int))
        have hcA2 : wr.drew.cell? ⟨g, i, none⟩ = some (.int .i64 (x : Nat)) := hcA
        have hcB2 : wr.drew.cell? ⟨g2, i, none⟩ = some (.int .i64 (smallI (x : Int))) := hcB
        have hH5 : Hid (Ready wr.drew) := ⟨H5.out.a, H5.out.s, H5.out.t⟩
        have hsr := refSmall_any (x : Int) ⟨by omega, by omega⟩
        go_wp2_with fail
        go_region_with ((go_at_call 11; refine (hsr _).mono ?_; rintro e w6 ⟨rfl, rfl⟩))
        all_goals go_wp2_with fail
        all_goals go_roundg (gk - 1)
        all_goals first
          | (case measure => omega)
          | (case rel => exact ⟨i + 1, by omega, by omega, by go_num, HC5.out, HD5.out, hH5.out, HB5.out.drew⟩)
      · go_wp2_with fail
        refine (normal_at xb _ (by omega) H5.out).mono ?_
        rintro e w6 ⟨rfl, hbl⟩
        rw [F.out.2.2.2.2]
        have hxx : (⟨(enc X).toArray⟩ : ByteArray) = xb := HXB.out.symm
        rw [hxx]
        have HB6 := Lib.hid (HB5.out.trans (hbl.mono HB5.out.size))
        clear hbl hxx
        go_wp2_with fail
        go_ret
        exact ⟨rfl, HB6.out⟩
  · have hxe : x = [] := by
      unfold normalI at hx
      repeat' split at hx
      all_goals (first | exact ((Prod.mk.inj hx).1).symm | exact absurd (Prod.mk.inj hx).2.symm hex)
    subst hxe
    go_wp2_with fail
    go_ret
    exact ⟨rfl, HB3.out⟩
end Go.Proofs.YtgolffjiepcbpaaDoor
