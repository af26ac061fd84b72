/- The walk of the law HeaderParses. -/
import Derived.Test.YtemndmhdlgfajaaDoorHdrT
import Derived.Test.YtemndmhdlgfajaaDoorHdrD
import Derived.Test.YtemndmhdlgfajaaDoorHdrS
namespace Go.Proofs.YtemndmhdlgfajaaDoor
open Go.RowKit
attribute [local irreducible] shaL

theorem HdrS.small_of {x : HdrS} (h : x.err = 0) : x.small := by
  obtain ⟨f1, f2, f3, f4⟩ := HdrS.fits h
  obtain ⟨_, g2, g3⟩ := HdrS.fit h
  have hp : 2 ^ x.d.toNat ≤ 16 := pow4 (by omega)
  exact ⟨by omega, by omega, by omega, fun s hs => by have := nodeOk_size (g3 s hs); omega⟩
theorem hdrZ_small : hdrZ.small := ⟨by show (0 : Nat) ≤ _; decide, by show (0 : Nat) ≤ _; decide, by show (0 : Nat) ≤ _; decide, fun s hs => by cases hs⟩
set_option maxRecDepth 100000 in
set_option maxHeartbeats 3200000 in
theorem headerParses_walk (e : Nat) (p : ByteArray) (d a : Int) (N J : ByteArray) (cut : Nat) (he : e ≤ 18446744073709551615) (hp : p.size ≤ maxLen) (hN : N.size ≤ maxLen) (hJ : J.size ≤ maxLen) (hc : cut ≤ 255) (w : World) (hr : ShaReady w) :
    Calls Tryd.prog 4 #[.agg #[.int .u64 e, .string p, .int .i64 d, .int .i64 a, .string N], .string J, .int .u8 cut] w fun r w' => r = .returned (.bool true) ∧ w.grownBy w' none := by
  have HR := Lib.hid hr
  have HTO := Lib.hid (fun w' => told_any e p d a N hp hN w')
  obtain ⟨m, hm⟩ : ∃ m, w.heap.size = m := ⟨_, rfl⟩
  have hb0 := heap_alloc_at w (.cells #[.int .u64 e, .string p, .int .i64 d, .int .i64 a, .string N] 24) m hm
  have hg0 : w.grownBy (w.alloc (.cells #[.int .u64 e, .string p, .int .i64 d, .int .i64 a, .string N] 24)) none := World.grownBy_alloc _ _ _
  obtain ⟨W0, hW0⟩ : ∃ W0, w.alloc (.cells #[.int .u64 e, .string p, .int .i64 d, .int .i64 a, .string N] 24) = W0 := ⟨_, rfl⟩
  rw [hW0] at hb0 hg0
  have HW := Lib.hid (And.intro hW0 hm)
  have HG0 := Lib.hid (And.intro hg0 hb0)
  have HSP := Lib.hid (hdr_speaks W0 (hr.grown hg0))
  unfold maxLen at hp hN hJ
  clear hr hb0 hg0 hW0 hm
  go_enter Tryd.func4, Tryd.ntmps4
  go_wp2_with (first | rw [HW.out.1, HW.out.2] | rw [HW.out.1])
  refine HSP.out.mono ?_
  rintro r w1 ⟨rfl, g1⟩
  have HG1 := Lib.hid (grownBy_trans HG0.out.1 g1)
  obtain ⟨x0, x1, x2, x3, x4⟩ := cells5 (g1.heap HG0.out.2 (by simp))
  clear g1 HSP
  go_wp2_with fail
  refine (HTO.out _).mono ?_
  rintro r w2 ⟨P, L, v, rfl, hP, hL, hLs, hO, g2⟩
  obtain ⟨av, cv, rfl⟩ := slice_own' hO
  have hst := strs_own hO
  have hsm : (⟨e, P, d, a, L⟩ : HdrS).small := ⟨he, by show P.size ≤ _; omega, by show L.length ≤ _; omega, fun s hs => by have := hLs s hs; omega⟩
  have HEN := Lib.hid (fun w' q => hencode_any (⟨e, P, d, a, L⟩ : HdrS) hsm (.slice av L.length cv) w' q)
  have HST := Lib.hid hst
  have HG2 := Lib.hid (grownBy_trans HG1.out g2)
  obtain ⟨z, hz⟩ : ∃ z, (⟨e, P, d, a, L⟩ : HdrS).err = z := ⟨_, rfl⟩
  have hez : (⟨e, P, d, a, L⟩ : HdrS).enc.size ≤ 400 := by
    unfold HdrS.enc
    split
    · rename_i q; rw [str_size]; exact HdrS.len q
    · exact Nat.zero_le _
  obtain ⟨E, hE⟩ : ∃ E, (⟨e, P, d, a, L⟩ : HdrS).enc = E := ⟨_, rfl⟩
  rw [hz, hE] at HEN
  rw [hE] at hez
  have HEZ := Lib.hid hez
  clear hO hst hsm g2 hz hE hez hP hL hLs HTO x0 x1 x2 x3 x4
  unfold HdrS.val at HEN ⊢
  go_wp2_with fail
  refine (HEN.out _ HST.out).mono ?_
  rintro r w3 ⟨rfl, g3⟩
  have HG3 := Lib.hid (grownBy_trans HG2.out g3)
  clear g3 HST HEN HG2
  go_upto_if 22 with (fail)
  go_cut [7] (fun sv wx => ∃ S : ByteArray, sv = .string S ∧ S.size ≤ 400 ∧ Hid (w3 = wx))
  case first =>
    by_cases hz0 : z = 0
    · have q1 : (z != 0) = false := by simp [hz0]
      have q2 : (z == 0) = true := by simp [hz0]
      clear hz0
      go_wp2_with fail
      go_meet
      case rel => exact ⟨E, rfl, HEZ.out, rfl⟩
    · have q1 : (z != 0) = true := by simp [hz0]
      have q2 : (z == 0) = false := by simp [hz0]
      clear hz0
      go_wp2_with fail
      go_meet
      case rel => exact ⟨_, rfl, by decide, rfl⟩
  obtain ⟨S, rfl, hS, HWE⟩ := hcut
  have hwe := HWE.out
  subst hwe
  obtain ⟨K, hK⟩ : ∃ K, cut % (S.size + 1) = K := ⟨_, rfl⟩
  have hKS : K ≤ S.size := by rw [← hK]; have := Nat.mod_lt cut (show 0 < S.size + 1 by omega); omega
  have r4 : (cut : Int) % ((S.size : Int) + 1) = (K : Int) := by rw [← hK]; simp
  have r1 : ((S.size : Int) + 1 == 0) = false := by rw [beq_eq_false_iff_ne]; omega
  have r2 : ¬ ((S.size : Int) + 1 = 0) := by omega
  have r3 : IntKind.i64.wrap ((S.size : Int) + 1) = (S.size : Int) + 1 := IntWalk.i64_in _ (by omega)
  have r5 : (K : Int) ≤ (S.size : Int) := by omega
  have r6 : (0 : Int) ≤ (K : Int) := by omega
  have hm1 : (0 : Int) ≤ min (J.size : Int) 40 := by omega
  have hm2 : min (J.size : Int) 40 ≤ (J.size : Int) := by omega
  obtain ⟨A, hA⟩ : ∃ A, S.extract 0 K = A := ⟨_, rfl⟩
  obtain ⟨B, hB⟩ : ∃ B, J.extract 0 (min (J.size : Int) 40).toNat = B := ⟨_, rfl⟩
  have hAs : A.size ≤ 400 := by rw [← hA, ByteArray.size_extract]; omega
  have hBs : B.size ≤ 40 := by rw [← hB, ByteArray.size_extract]; omega
  have q5 : (9223372036854775807 < A.size + B.size) = False := eq_false (by omega)
  clear hK HWE
  go_upto_region 6 with (fail)
  go_region
  clear r1 r2 r3 r4 r5 r6 hm1 hm2 q5
  obtain ⟨T, hT⟩ : ∃ T, A ++ B = T := ⟨_, rfl⟩
  have hTs : T.size ≤ 440 := by rw [← hT, ByteArray.size_append]; omega
  rw [hT]
  clear hT hA hB hAs hBs hKS hS HG1 HG0
  have HG4 := Lib.hid (grownBy_drew HG3.out)
  obtain ⟨W4, hW4⟩ : ∃ W4, w3.drew = W4 := ⟨_, rfl⟩
  rw [hW4] at HG4 ⊢
  clear hW4 HG3
  have HDE := Lib.hid (hdecode_any T (by omega) W4)
  have hcodes := decH_codes T
  have hback := hdr_back T
  have hzero : (decH T).err ≠ 0 → (decH T).ans = hdrZ := fun h => by unfold DecH.ans; rw [if_neg h]
  obtain ⟨y, hy⟩ : ∃ y, (decH T).ans = y := ⟨_, rfl⟩
  obtain ⟨f, hf⟩ : ∃ f, (decH T).err = f := ⟨_, rfl⟩
  have hpost : ∀ (r : Ending) (w' : World), HDecAns T W4 r w' → ∃ v, r = .returned (.tuple #[y.val v, .int .i64 f]) ∧ StrsAt w' v y.L ∧ W4.grownBy w' none := by
    rintro r w' ⟨v, hr1, hr2, hr3⟩
    rw [hy, hf] at hr1
    rw [hy] at hr2
    obtain ⟨a1, c1, rfl⟩ := slice_own' hr2
    exact ⟨_, hr1, strs_own hr2, hr3⟩
  have HPO := Lib.hid hpost
  rw [hf] at hcodes hback hzero
  rw [hy] at hback hzero
  have hTT : (T.toList == T.toList) = true := by simp
  clear hy hf hpost
  by_cases hf0 : f = 0
  · obtain ⟨hb1, hb2⟩ := hback hf0
    have hysm := HdrS.small_of hb2
    have HEN := Lib.hid (fun v w' q => hencode_any y hysm v w' q)
    have henc : y.enc = T := by unfold HdrS.enc; rw [if_pos hb2, ← hb1]
    rw [henc, hb2] at HEN
    obtain ⟨ye, yp, yd, ya, yL⟩ := y
    have q1 : (f != 0) = false := by simp [hf0]
    have q2 : (f == 0) = true := by simp [hf0]
    clear hf0 hb1 hb2 hysm henc hcodes hback hzero hTs
    go_wp2_with fail
    refine HDE.out.mono ?_
    intro r w5 hr5
    obtain ⟨v, rfl, hst5, g5⟩ := HPO.out r w5 hr5
    unfold HdrS.val at HEN ⊢
    have hst5 : StrsAt w5 v yL := hst5
    obtain ⟨a5, c5, rfl⟩ := hst5.form
    have HST := Lib.hid hst5
    have HG5 := Lib.hid (grownBy_trans HG4.out g5)
    clear hst5 g5 hr5 HDE HPO
    go_wp2_with fail
    refine (HEN.out _ _ (HST.out.grown (World.grownBy_alloc _ _ _))).mono ?_
    rintro r w6 ⟨rfl, g6⟩
    have HG6 := Lib.hid (grownBy_trans (grownBy_alloc' HG5.out _) g6)
    clear g6
    go_wp2_with fail
    go_ret
    exact ⟨rfl, HG6.out⟩
  · have hyz := hzero hf0
    subst hyz
    have HDG := Lib.hid (fun v w' q r => hdigest_any hdrZ hdrZ_small v w' q r)
    have hdz : hdrZ.dig = ⟨#[]⟩ := HdrS.dig_none (by rw [hdrZ_err]; decide)
    rw [hdz] at HDG
    have q1 : (f != 0) = true := by simp [hf0]
    have q2 : (f == 0) = false := by simp [hf0]
    have hcc := hcodes hf0
    clear hf0 hcodes hback hzero hTs hdz
    rcases hcc with rfl | rfl | rfl | rfl
    all_goals
      go_wp2_with fail
      refine HDE.out.mono ?_
      intro r w5 hr5
      obtain ⟨v, rfl, hst5, g5⟩ := HPO.out r w5 hr5
      unfold HdrS.val hdrZ at HDG ⊢
      have hst5 : StrsAt w5 v [] := hst5
      obtain ⟨a5, c5, rfl⟩ := hst5.form
      have HST := Lib.hid hst5
      have HG5 := Lib.hid (grownBy_trans HG4.out g5)
      clear hst5 g5 hr5 HDE HPO
      go_wp2_with fail
      refine (HDG.out _ _ (HST.out.grown (World.grownBy_alloc _ _ _)) (HR.out.grown (grownBy_alloc' HG5.out _))).mono ?_
      rintro r w6 ⟨rfl, g6⟩
      have HG6 := Lib.hid (grownBy_trans (grownBy_alloc' HG5.out _) g6)
      clear g6
      go_wp2_with fail
      go_ret
      exact ⟨rfl, HG6.out⟩
theorem headerParses_below (e : Int) (p : ByteArray) (d a : Int) (N J : ByteArray) (cut : Int) (he : 0 ≤ e ∧ e ≤ 18446744073709551615) (hp : p.size ≤ maxLen) (hN : N.size ≤ maxLen) (hJ : J.size ≤ maxLen) (hc : 0 ≤ cut ∧ cut ≤ 255) (w : World) (hr : ShaReady w) :
    Calls Tryd.prog 4 #[.agg #[.int .u64 e, .string p, .int .i64 d, .int .i64 a, .string N], .string J, .int .u8 cut] w fun r w' => r = .returned (.bool true) ∧ Below w.heap.size w w' := by
  obtain ⟨e, rfl⟩ := Int.eq_ofNat_of_zero_le he.1
  obtain ⟨cut, rfl⟩ := Int.eq_ofNat_of_zero_le hc.1
  exact (headerParses_walk e p d a N J cut (by omega) hp hN hJ (by omega) w hr).mono fun _ _ h => ⟨h.1, below_grownBy h.2⟩
end Go.Proofs.YtemndmhdlgfajaaDoor
