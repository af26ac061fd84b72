/- The walk of layer 15's law's speaks. -/
import Derived.Test.YtgaenpbdfelhhaaDoorBandNodesB3
import Derived.Test.YtgaenpbdfelhhaaDoorBandNodesB4
import Derived.Test.YtgaenpbdfelhhaaDoorBndI
namespace Go.Proofs.YtgaenpbdfelhhaaDoor
open Go.RowKit Go.Maps
attribute [local irreducible] shaL

theorem key5_band : bandN (keyS14 160 1) 3 = 5 := by decide
set_option maxRecDepth 100000 in
set_option maxHeartbeats 4000000 in
theorem bnd_speaks (w : World) (hr : ShaReady w) : Calls Tryd.prog 7 #[] w fun e w' => e = .returned (.bool true) ∧ w.grownBy w' none := by
  have HR := Lib.hid hr
  have HNEW := Lib.hid (tnew_any w.heap.size [] w (by simp) (Nat.le_refl _))
  have HK1 : Hid (∀ w' : World, Calls Tryd.prog 10 #[.int .u8 160, .int .u8 1] w' fun e w'' => e = .returned (.string (keyS14 160 1)) ∧ w'.grownBy w'' none) := Lib.hid (fun w' => key15_any 160 1 w')
  have hk := keyS14_size 160 1
  have h5 := key5_band
  clear hr
  go_enter Tryd.func7, Tryd.ntmps7
  go_wp2_with fail
  refine HNEW.out.mono ?_
  rintro e w1 ⟨rfl, hT1, g1⟩
  obtain ⟨TB, hTB⟩ : ∃ TB, w.heap.size = TB := ⟨_, rfl⟩
  rw [hTB] at hT1 ⊢
  have HTB := Lib.hid hTB
  have HT1 := Lib.hid hT1
  have HG1 := Lib.hid g1
  generalize keyS14 160 1 = K at HK1 hk h5
  have HK := Lib.hid (And.intro hk h5)
  clear hT1 g1 hTB HNEW hk h5
  go_wp2_with fail
  refine (HK1.out _).mono ?_
  rintro e w2 ⟨rfl, g2⟩
  have HG2 := Lib.hid (grownBy_trans HG1.out g2)
  have HPUT := Lib.hid (tput_any TB [] w2 TB [] K ⟨#[118]⟩ (HT1.out.grown g2) (by simp) (by have := HG2.out.size; have := HTB.out; omega) HK.out.1 (by decide) (by decide))
  clear g2 HT1
  go_wp2_with fail
  refine HPUT.out.mono ?_
  rintro e w3 ⟨rfl, hT3, t3⟩
  have hb2 := below_grownBy HG2.out
  rw [HTB.out] at hb2
  have HG3 : Hid (w.grownBy w3 none) := by
    have h6 := t3.bel hb2 (by have := hb2.size; rw [HTB.out] at this; exact this)
    rw [← HTB.out] at h6
    exact Lib.hid (grownBy_below h6)
  have hM1 : setM [] (K, (⟨#[118]⟩ : ByteArray)) = [(K, ⟨#[118]⟩)] := rfl
  have hP : Plain [(K, (⟨#[118]⟩ : ByteArray))] := plain_of (by intro x hx; rw [List.mem_singleton.1 hx]; exact ⟨HK.out.1, by show 1 ≤ 20; decide⟩) (by show 1 ≤ 12; decide)
  rw [hM1] at hT3
  have HT3 := Lib.hid hT3
  have hNOD := bnodes_any TB [] w3 TB [(K, ⟨#[118]⟩)] 3 hT3 hP (by omega) (HR.out.grown HG3.out)
  have HRO := Lib.hid (fun (w' : World) (q3 : w3.grownBy w' none) => troot_any TB [] w' TB _ (hT3.grown q3) hP (HR.out.grown (grownBy_trans HG3.out q3)))
  have hOF : ∀ w' : World, Calls Tryd.prog 17 #[.string K, .int .i64 3] w' fun e w'' => e = .returned (.tuple #[.int .i64 5, .int .i64 0]) ∧ w'.grownBy w'' none := by
    intro w'
    have h := bof_any K HK.out.1 3 (by omega) w'
    rw [HK.out.2] at h
    exact h
  have hlen : (nodesB [(K, (⟨#[118]⟩ : ByteArray))] 3).length = 8 := nodesB_len _ _
  have h5 : (nodesB [(K, (⟨#[118]⟩ : ByteArray))] 3)[5]? = some (nodeN 128 [(K, ⟨#[118]⟩)] 0) := by
    unfold nodesB
    rw [List.getElem?_map, List.getElem?_range (by decide)]
    show some (nodeN 125 (bandS [(K, ⟨#[118]⟩)] 3 5) 3) = _
    have e : bandS [(K, (⟨#[118]⟩ : ByteArray))] 3 5 = [(K, ⟨#[118]⟩)] := by unfold bandS; simp [HK.out.2]
    rw [e, nodeN_one, nodeN_one]
  have h4 : (nodesB [(K, (⟨#[118]⟩ : ByteArray))] 3)[4]? = some emptyS := by
    unfold nodesB
    rw [List.getElem?_map, List.getElem?_range (by decide)]
    show some (nodeN 125 (bandS [(K, ⟨#[118]⟩)] 3 4) 3) = _
    have e : bandS [(K, (⟨#[118]⟩ : ByteArray))] 3 4 = [] := by unfold bandS; simp [HK.out.2]
    rw [e, nodeN_nil]
  obtain ⟨NB, hNB⟩ : ∃ l, nodesB [(K, (⟨#[118]⟩ : ByteArray))] 3 = l := ⟨_, rfl⟩
  obtain ⟨R, hR⟩ : ∃ R, nodeN 128 [(K, (⟨#[118]⟩ : ByteArray))] 0 = R := ⟨_, rfl⟩
  rw [hNB] at hNOD hlen h5 h4
  rw [hR] at HRO h5
  rw [hlen] at hNOD
  have HNOD := Lib.hid hNOD
  have HOF := Lib.hid hOF
  have HL := Lib.hid (And.intro hlen (And.intro h5 h4))
  have HG3' := HG3
  clear hT3 t3 hb2 HPUT hM1 hP hNOD hOF hlen h5 h4 hNB hR HT3
  go_wp2_with fail
  refine HNOD.out.mono ?_
  rintro e w4 ⟨v4, rfl, ho4, g4⟩
  obtain ⟨a4, c4, rfl⟩ := slice_own' ho4
  have H4 := Lib.hid (And.intro (grownBy_trans HG3.out g4) (And.intro g4 (by have h := ho4; exact h)))
  clear ho4 g4 HNOD
  go_wp2_with fail
  refine (HK1.out _).mono ?_
  rintro e w5 ⟨rfl, g5⟩
  have H5 := Lib.hid (And.intro (grownBy_trans H4.out.1 g5) (And.intro (grownBy_trans H4.out.2.1 g5) (own_keep H4.out.2.2 g5 (fun _ _ e => by cases e))))
  clear g5 H4
  go_wp2_with fail
  refine (HOF.out _).mono ?_
  rintro e w6 ⟨rfl, g6⟩
  have ho6 := own_keep H5.out.2.2 g6 (fun _ _ e => by cases e)
  have H6 := Lib.hid (And.intro (grownBy_trans H5.out.1 g6) (grownBy_trans H5.out.2.1 g6))
  obtain ⟨g, rfl⟩ : ∃ g, a4 = some ⟨g, 0, none⟩ := by
    rcases own_form' ho6 with ⟨_, e⟩ | ⟨g, cap, e, _, _⟩
    · cases e
    · cases e; exact ⟨g, rfl⟩
  have x5 : w6.cell? ⟨g, 5, none⟩ = some (.string R) := str_cell ho6 HL.out.2.1
  have x4 : w6.cell? ⟨g, 4, none⟩ = some (.string emptyS) := str_cell ho6 HL.out.2.2
  have hself : (R.toList == R.toList) = true := by simp
  have hem : (emptyS.toList == [0]) = true := by rw [ByteArray.toList_eq]; rfl
  have i1 : (5 : Int) < 8 := by omega
  have i2 : (4 : Int) < 8 := by omega
  clear ho6 g6 H5 HOF HL
  go_wp2_with fail
  go_region_held3 (fun w' => w'.cell? ⟨g, 5, none⟩ = some (.string R) ∧ w'.cell? ⟨g, 4, none⟩ = some (.string emptyS)) (first | exact ck | exact ⟨x5, x4⟩)
    (first
      | (go_at_call 20; (with_reducible refine (HRO.out _ (grownBy_drew H6.out.2)).mono ?_); rintro e w7 ⟨rfl, g7⟩; have ck : w7.cell? ⟨g, 5, none⟩ = some (.string R) ∧ w7.cell? ⟨g, 4, none⟩ = some (.string emptyS) := ⟨g7.cell x5 (by simp), g7.cell x4 (by simp)⟩))
  have HG7 := Lib.hid (grownBy_trans (grownBy_drew H6.out.1) g7)
  clear g7 ck
  go_wp2_with fail
  go_ret
  exact ⟨rfl, HG7.out⟩
end Go.Proofs.YtgaenpbdfelhhaaDoor
