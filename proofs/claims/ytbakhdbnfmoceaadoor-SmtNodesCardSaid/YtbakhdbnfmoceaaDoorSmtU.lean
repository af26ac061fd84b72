/- The walk of layer 13's laws' speaks. -/
import Derived.Test.YtbakhdbnfmoceaaDoorSmtS
import Derived.Test.YtbakhdbnfmoceaaDoorSmtQ
namespace Go.Proofs.YtbakhdbnfmoceaaDoor
open Go.RowKit Go.Maps
attribute [local irreducible] shaL

theorem vtxt : ((⟨#[118]⟩ : ByteArray).toList == [118]) = true := by rw [ByteArray.toList_eq]; rfl
set_option maxRecDepth 100000 in
set_option maxHeartbeats 1600000 in
theorem smt_speaks (w : World) (hr : ShaReady w) : Calls Tryd.prog 9 #[] w fun e w' => e = .returned (.bool true) ∧ w.grownBy w' none := by
  have HR := Lib.hid hr
  have HNEW := Lib.hid (tnew_any w.heap.size [] w (by simp) (Nat.le_refl _))
  have HKEY : Hid (∀ w' : World, Calls Tryd.prog 16 #[.int .u8 1, .int .u8 2] w' fun e w'' => e = .returned (.string (keyS 1 2)) ∧ w'.grownBy w'' none) := Lib.hid (fun w' => key_any 1 2 w')
  have hk := keyS_size 1 2
  have hvt := vtxt
  clear hr
  go_enter Tryd.func9, Tryd.ntmps9
  go_wp2_with fail
  refine HNEW.out.mono ?_
  rintro e w1 ⟨rfl, hT1, g1⟩
  obtain ⟨TB, hTB⟩ : ∃ TB, w.heap.size = TB := ⟨_, rfl⟩
  rw [hTB] at hT1 ⊢
  have HTB := Lib.hid hTB
  have HT1 := Lib.hid hT1
  have HG1 := Lib.hid g1
  generalize keyS 1 2 = K at HKEY hk
  have HK := Lib.hid hk
  clear hT1 g1 hTB HNEW hk
  go_wp2_with fail
  refine (HKEY.out _).mono ?_
  rintro e w2 ⟨rfl, g2⟩
  have HG2 := Lib.hid (grownBy_trans HG1.out g2)
  have HPUT := Lib.hid (tput_any TB [] w2 TB [] K ⟨#[118]⟩ (HT1.out.grown g2) (by simp) (by have := HG2.out.size; have := HTB.out; omega) HK.out (by decide) (by decide))
  clear g2 HT1
  go_wp2_with fail
  refine HPUT.out.mono ?_
  rintro e w3 ⟨rfl, hT3, t3⟩
  have hb2 := below_grownBy HG2.out
  rw [HTB.out] at hb2
  have HG3 : Hid (w.grownBy w3 none) := by
    have h6 := t3.bel hb2 (by have := hb2.size; rw [HTB.out] at this; exact this)
    rw [← HTB.out] at h6
    exact Lib.hid (grownBy_below h6)
  have HT3 := Lib.hid hT3
  have hM1 : setM [] (K, (⟨#[118]⟩ : ByteArray)) = [(K, ⟨#[118]⟩)] := rfl
  have hP : Plain [(K, (⟨#[118]⟩ : ByteArray))] := plain_of (by intro x hx; rw [List.mem_singleton.1 hx]; exact ⟨HK.out, by show 1 ≤ 20; decide⟩) (by show 1 ≤ 12; decide)
  rw [hM1] at HT3
  have HP := Lib.hid hP
  clear hT3 t3 hb2 HPUT hM1 hP
  go_wp2_with fail
  refine (HKEY.out _).mono ?_
  rintro e w4 ⟨rfl, g4⟩
  have HG4 := Lib.hid (grownBy_trans HG3.out g4)
  have HT4 := Lib.hid (HT3.out.grown g4)
  have hget := tget_any TB [] w4 TB _ K HT4.out (by have := HK.out; unfold maxLen; omega)
  have e1 : valM [(K, (⟨#[118]⟩ : ByteArray))] K = ⟨#[118]⟩ := by unfold valM; simp
  have e2 : hasM [(K, (⟨#[118]⟩ : ByteArray))] K = true := by unfold hasM; simp
  rw [e1, e2] at hget
  have HGET := Lib.hid hget
  clear g4 HT3 hget e1 e2
  go_wp2_with fail
  refine HGET.out.mono ?_
  rintro e w5 ⟨rfl, rfl⟩
  have hroot := troot_any TB [] w4 TB _ HT4.out HP.out (HR.out.grown HG4.out)
  rw [nodeN_one] at hroot
  have HROOT := Lib.hid hroot
  have HLEAF := Lib.hid (fun (w' : World) (q : w.grownBy w' none) => tleaf_any K ⟨#[118]⟩ (by have := HK.out; omega) (by decide) w' (HR.out.grown q))
  have hls : ∀ x : ByteArray, (x.toList == x.toList) = true := fun x => by simp
  have hlr := hls (leafS K ⟨#[118]⟩)
  generalize leafS K ⟨#[118]⟩ = R at HROOT HLEAF hlr
  have HLEN := Lib.hid (fun (w' : World) (q : w4.grownBy w' none) => tlen_any TB [] w' TB _ (HT4.out.grown q))
  clear hroot HGET hls
  go_wp2_with fail
  refine HROOT.out.mono ?_
  rintro e w6 ⟨rfl, g6⟩
  have HG6 := Lib.hid (And.intro (grownBy_trans HG4.out g6) g6)
  clear g6
  go_wp2_with fail
  refine (HKEY.out _).mono ?_
  rintro e w7 ⟨rfl, g7⟩
  have HG7 := Lib.hid (And.intro (grownBy_trans HG6.out.1 g7) (grownBy_trans HG6.out.2 g7))
  clear g7
  go_wp2_with fail
  refine (HLEAF.out _ HG7.out.1).mono ?_
  rintro e w8 ⟨rfl, g8⟩
  have HG8 := Lib.hid (And.intro (grownBy_trans HG7.out.1 g8) (grownBy_trans HG7.out.2 g8))
  clear g8
  go_wp2_with fail
  refine (HLEN.out _ HG8.out.2).mono ?_
  rintro e w9 ⟨rfl, rfl⟩
  go_wp2_with fail
  go_ret
  exact ⟨rfl, HG8.out.1⟩
end Go.Proofs.YtbakhdbnfmoceaaDoor
