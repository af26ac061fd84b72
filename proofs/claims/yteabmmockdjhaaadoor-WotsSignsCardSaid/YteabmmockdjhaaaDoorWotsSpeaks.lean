/- The walk of the wots laws' speaks. -/
import Derived.Test.YteabmmockdjhaaaDoorWotsC
namespace Go.Proofs.YteabmmockdjhaaaDoor
open Go.RowKit
attribute [local irreducible] shaL

theorem public_size (seed : ByteArray) (leaf : Nat) : (publicS seed leaf).size = 16 := tagS_size _ _
theorem rec_public (seed : ByteArray) (leaf : Nat) (d : List UInt8) (h : d.length = 16) : publicOfS (openS seed) leaf (recS (openS seed) leaf (digs d) (sigS seed leaf (digs d) 35) 35) = publicS seed leaf := by
  rw [rec_sig seed leaf (digs d) (digs_bd d h) 35 (by rw [digs_length]; omega) 35 (Nat.le_refl _)]
  rfl

set_option maxRecDepth 100000 in
set_option maxHeartbeats 800000 in
theorem wots_speaks (w : World) (hr : ShaReady w) : Calls Tryd.prog 5 #[] w fun e w' => e = .returned (.bool true) ∧ w.grownBy w' none := by
  have HR := Lib.hid hr
  have ht := Lib.hid (tagged_new w 9 [⟨#[120]⟩] _ 1 9 rfl rfl rfl hr (by simp) (by intro s h; simp at h; subst h; decide))
  clear hr
  go_enter Tryd.func5, Tryd.ntmps5
  go_wp2_with fail
  refine ht.out.mono ?_
  rintro e w1 ⟨rfl, g1⟩
  have G1 := Lib.hid g1
  clear g1 ht
  have hd := tagS_size 9 [⟨#[120]⟩]
  generalize tagS 9 [⟨#[120]⟩] = d at hd ⊢
  have HD := Lib.hid hd
  clear hd
  have hsig := Lib.hid (wsign_any ⟨#[115, 101, 101, 100]⟩ d 3 (by decide) HD.out (by decide) w1 (HR.out.grown G1.out))
  go_wp2_with fail
  refine hsig.out.mono ?_
  rintro e w2 ⟨v2, rfl, h2, g2⟩
  have G2 := Lib.hid (grownBy_trans G1.out g2)
  have HS2 := Lib.hid h2
  clear h2 g2 hsig
  have hop := Lib.hid (wopen_any ⟨#[115, 101, 101, 100]⟩ (by decide) w2 (HR.out.grown G2.out))
  go_wp2_with fail
  refine hop.out.mono ?_
  rintro e w3 ⟨rfl, g3⟩
  have G3 := Lib.hid (grownBy_trans G2.out g3)
  have HS3 := Lib.hid (HS2.out.grown g3)
  clear g3 hop HS2 G2
  have hrec := wrecover_any (openS ⟨#[115, 101, 101, 100]⟩) d 3 v2 (sigS ⟨#[115, 101, 101, 100]⟩ 3 (digs d.data.toList) 35) (by rw [openS_size]; omega) HD.out (by decide) (sigS_length _ _ _ _) (sigS_all _ _ _ _) w3 HS3.out (HR.out.grown G3.out)
  rw [rec_public _ _ _ HD.out] at hrec
  have HREC := Lib.hid hrec
  obtain ⟨a2, c2, rfl⟩ := HS3.out.form
  rw [sigS_length] at HREC ⊢
  clear hrec
  go_wp2_with fail
  refine HREC.out.mono ?_
  rintro e w4 ⟨rfl, g4⟩
  have G4 := Lib.hid (grownBy_trans G3.out g4)
  clear g4 HREC HS3
  have hpub := Lib.hid (wpublic_any ⟨#[115, 101, 101, 100]⟩ 3 (by decide) (by decide) w4 (HR.out.grown G4.out))
  have hps := public_size ⟨#[115, 101, 101, 100]⟩ 3
  obtain ⟨p, hp⟩ : ∃ p, publicS ⟨#[115, 101, 101, 100]⟩ 3 = p := ⟨_, rfl⟩
  rw [hp] at hpub hps ⊢
  clear hp
  go_wp2_with fail
  refine hpub.out.mono ?_
  rintro e w5 ⟨rfl, g5⟩
  have G5 := Lib.hid (grownBy_trans G4.out g5)
  clear g5 hpub
  go_wp2_with fail
  go_ret
  exact ⟨rfl, G5.out⟩
end Go.Proofs.YteabmmockdjhaaaDoor
