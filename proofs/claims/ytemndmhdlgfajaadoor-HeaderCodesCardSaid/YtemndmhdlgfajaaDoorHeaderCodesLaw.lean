/- The walk of the law HeaderCodes. -/
import Derived.Test.YtemndmhdlgfajaaDoorHeaderParsesLaw
import Derived.Test.YtemndmhdlgfajaaDoorHdrR
namespace Go.Proofs.YtemndmhdlgfajaaDoor
open Go.RowKit
attribute [local irreducible] shaL

theorem own_le {w : World} {B n : Nat} {t : TypeId} {a : Option Addr} {c : Nat} {xs : List Value} (h : w.ownsRow B t 1 (.slice a n c) n xs) : n ≤ c := by
  rcases h.2 with ⟨q, h0⟩ | ⟨g', cap', cur, e, _, _, h1, _⟩
  · omega
  · injection e with e1 e2 e3
    subst e3
    exact h1
set_option maxRecDepth 100000 in
set_option maxHeartbeats 3200000 in
theorem headerCodes_walk (e : Nat) (p : ByteArray) (d a : Int) (N : ByteArray) (he : e ≤ 18446744073709551615) (hp : p.size ≤ maxLen) (hN : N.size ≤ maxLen) (w : World) (hr : ShaReady w) :
    Calls Tryd.prog 3 #[.agg #[.int .u64 e, .string p, .int .i64 d, .int .i64 a, .string N]] w fun r w' => r = .returned (.bool true) ∧ w.grownBy w' none := by
  have HR := Lib.hid hr
  have HTO := Lib.hid (fun w' => told_any e p d a N hp hN w')
  obtain ⟨m, hm⟩ : ∃ m, w.heap.size = m := ⟨_, rfl⟩
  have hb0 := heap_alloc_at w (.cells #[.int .u64 e, .string p, .int .i64 d, .int .i64 a, .string N] 24) m hm
  have hg0 : w.grownBy (w.alloc (.cells #[.int .u64 e, .string p, .int .i64 d, .int .i64 a, .string N] 24)) none := World.grownBy_alloc _ _ _
  obtain ⟨W0, hW0⟩ : ∃ W0, w.alloc (.cells #[.int .u64 e, .string p, .int .i64 d, .int .i64 a, .string N] 24) = W0 := ⟨_, rfl⟩
  rw [hW0] at hb0 hg0
  have HW := Lib.hid (And.intro hW0 hm)
  have HG0 := Lib.hid (And.intro hg0 hb0)
  have HSP := Lib.hid (hdr_speaks W0 (hr.grown hg0))
  unfold maxLen at hp hN
  clear hr hb0 hg0 hW0 hm
  go_enter Tryd.func3, Tryd.ntmps3
  go_wp2_with (first | rw [HW.out.1, HW.out.2] | rw [HW.out.1])
  refine HSP.out.mono ?_
  rintro r w1 ⟨rfl, g1⟩
  have HG1 := Lib.hid (grownBy_trans HG0.out.1 g1)
  obtain ⟨x0, x1, x2, x3, x4⟩ := cells5 (g1.heap HG0.out.2 (by simp))
  clear g1 HSP
  go_wp2_with fail
  refine (HTO.out _).mono ?_
  rintro r w2 ⟨P, L, v, rfl, hP, hL, hLs, hO, g2⟩
  obtain ⟨av, cv, rfl⟩ := slice_own' hO
  have hst := strs_own hO
  have hle := own_le hO
  have hsm : (⟨e, P, d, a, L⟩ : HdrS).small := ⟨he, by show P.size ≤ _; omega, by show L.length ≤ _; omega, fun s hs => by have := hLs s hs; omega⟩
  obtain ⟨HB, hHB⟩ : ∃ HB, w2.heap.size = HB := ⟨_, rfl⟩
  have hb3 := heap_alloc_at w2 (.cells #[.int .u64 e, .string P, .int .i64 d, .int .i64 a, .slice av L.length cv] 28) HB hHB
  have hg3 : w2.grownBy (w2.alloc (.cells #[.int .u64 e, .string P, .int .i64 d, .int .i64 a, .slice av L.length cv] 28)) none := World.grownBy_alloc _ _ _
  obtain ⟨W3, hW3⟩ : ∃ W3, w2.alloc (.cells #[.int .u64 e, .string P, .int .i64 d, .int .i64 a, .slice av L.length cv] 28) = W3 := ⟨_, rfl⟩
  rw [hW3] at hb3 hg3
  have HW3 := Lib.hid (And.intro hW3 hHB)
  have HG3 := Lib.hid (grownBy_trans HG1.out (grownBy_trans g2 hg3))
  have HB3 := Lib.hid hb3
  have HST := Lib.hid (hst.grown hg3)
  -- what is asked of the header, at any world behind
  obtain ⟨X, hX⟩ : ∃ X : HdrS, X = ⟨e, P, d, a, L⟩ := ⟨_, rfl⟩
  have hval : ∀ u, X.val u = .agg #[.int .u64 e, .string P, .int .i64 d, .int .i64 a, u] := fun u => by rw [hX]; rfl
  have hXL : X.L = L := by rw [hX]
  have hXd : X.d = d := by rw [hX]
  rw [← hX] at hsm
  have hsz : ∀ s ∈ X.L, s.size ≤ 1000 := fun s hs => by rw [hXL] at hs; have := hLs s hs; omega
  have cEN := fun w' q => hencode_any X hsm (.slice av L.length cv) w' q
  have cRE := fun w' q => ref19enc_any X hsm (.slice av L.length cv) w' q
  have cDG := fun w' q r => hdigest_any X hsm (.slice av L.length cv) w' q r
  have cRD := fun w' q => ref19dig_any X hsm (.slice av L.length cv) w' q
  have cPL := fun w' => plain19_any X av L.length cv w'
  have cSM := fun u w' q1 q2 => hsame_any X X hsm hsm u (.slice av L.length cv) w' q1 q2
  have cRT := fun w' r q => hroot_any X hsz av L.length cv w' r q (by rw [hXL]) hle
  have cBR := fun w' r q => broot_hdr X hsz av L.length cv w' r q (by rw [hXL]) hle
  have hre := HdrS.rootE_root X
  have hbk : X.err = 0 → ∀ w', Calls Tryd.prog 18 #[.string X.enc] w' fun r w'' => ∃ u, r = .returned (.tuple #[X.val u, .int .i64 0]) ∧ StrsAt w'' u X.L ∧ w'.grownBy w'' none := fun h w' => by
    have henc : X.enc = str X.bytes := by unfold HdrS.enc; rw [if_pos h]
    have hl := HdrS.len h
    obtain ⟨h1, h2⟩ := hdr_dec h
    rw [← henc] at h1 h2
    refine (hdecode_any X.enc (by rw [henc, str_size]; omega) w').mono ?_
    rintro r w'' ⟨u, hr1, hr2, hr3⟩
    rw [h1, h2] at hr1
    rw [h2] at hr2
    obtain ⟨a1, c1, rfl⟩ := slice_own' hr2
    exact ⟨_, hr1, strs_own hr2, hr3⟩
  rw [hXL] at cEN cRE cDG cRD cSM cRT cBR
  rw [hXd] at cBR
  simp only [hval, hXL] at cEN cRE cDG cRD cPL cSM cRT hbk
  obtain ⟨z, hz⟩ : ∃ z, X.err = z := ⟨_, rfl⟩
  obtain ⟨E, hE⟩ : ∃ E, X.enc = E := ⟨_, rfl⟩
  obtain ⟨D, hD⟩ : ∃ D, X.dig = D := ⟨_, rfl⟩
  obtain ⟨R, hRR⟩ : ∃ R, X.root = R := ⟨_, rfl⟩
  obtain ⟨re, hree⟩ : ∃ re, X.rootE = re := ⟨_, rfl⟩
  simp only [hz, hE, hD, hRR, hree] at cEN cRE cDG cRD cSM cRT cBR hre hbk
  obtain ⟨bz, hbz⟩ : ∃ bz, decide (z = 0) = bz := ⟨_, rfl⟩
  have hsame : (bz && (bz && decide (E = E))) = bz := by cases bz <;> simp
  simp only [hbz, hsame] at cSM
  have hzb : (z == 0) = bz := by rw [← hbz, Bool.eq_iff_iff]; simp
  have EN := Lib.hid cEN
  have RE := Lib.hid cRE
  have DG := Lib.hid cDG
  have RD := Lib.hid cRD
  have PL := Lib.hid cPL
  have SM := Lib.hid cSM
  have RT := Lib.hid cRT
  have BR := Lib.hid cBR
  have RZ := Lib.hid hre
  have BK := Lib.hid hbk
  have HBZ := Lib.hid (And.intro hbz hzb)
  clear cEN cRE cDG cRD cPL cSM cRT cBR hre hbk hval hXL hXd hsz hsm hX hz hE hD hRR hree hbz hzb hsame hO hst hle g2 hP hL hLs HTO hHB hb3 hg3 hW3
  clear x0 x1 x2 x3 x4
  obtain ⟨x0, x1, x2, x3, x4⟩ := cells5 HB3.out
  unfold HdrS.val
  go_wp2_with (first | rw [HW3.out.1, HW3.out.2] | rw [HW3.out.1])
  refine (EN.out _ HST.out).mono ?_
  rintro r w4 ⟨rfl, g4⟩
  have HG4 := Lib.hid g4
  clear x0 x1 x2 x3 x4 g4
  obtain ⟨x0, x1, x2, x3, x4⟩ := cells5 (HG4.out.heap HB3.out (by simp))
  go_wp2_with fail
  refine (PL.out _).mono ?_
  rintro r w5 ⟨rfl, g5⟩
  have HG5 := Lib.hid (grownBy_trans HG4.out g5)
  clear x0 x1 x2 x3 x4 g5
  go_wp2_with fail
  refine (RE.out _ (HST.out.grown HG5.out)).mono ?_
  rintro r w6 ⟨rfl, g6⟩
  have HG6 := Lib.hid (grownBy_trans HG5.out g6)
  clear g6 HG5 HG4 EN RE
  have hEE : (E.toList == E.toList) = true := by simp
  have hEE2 : (E.toList != E.toList) = false := by simp
  have hDD : (D.toList == D.toList) = true := by simp
  have hDD2 : (D.toList != D.toList) = false := by simp
  have hzz : (z != z) = false := by simp
  have hbb : (bz != bz) = false := by simp
  have hzb := HBZ.out.2
  have HPK : Hid (∀ w' : World, w6.grownBy w' none → w'.cell? ⟨HB, 0, none⟩ = some (.int .u64 e) ∧ w'.cell? ⟨HB, 1, none⟩ = some (.string P) ∧ w'.cell? ⟨HB, 2, none⟩ = some (.int .i64 d) ∧ w'.cell? ⟨HB, 3, none⟩ = some (.int .i64 a) ∧ w'.cell? ⟨HB, 4, none⟩ = some (.slice av L.length cv)) := Lib.hid (fun w' q => cells5 (q.heap (HG6.out.heap HB3.out (by simp)) (by simp)))
  have HDR : Hid (w6.grownBy w6.drew none) := Lib.hid (grownBy_drew (World.grownBy.refl w6 none))
  have CD : Hid (∀ w', w6.grownBy w' none → Calls Tryd.prog 13 #[.agg #[.int .u64 e, .string P, .int .i64 d, .int .i64 a, .slice av L.length cv]] w' fun r w'' => r = .returned (.string D) ∧ w6.grownBy w'' none) := Lib.hid (fun w' q => (DG.out w' (HST.out.grown (grownBy_trans HG6.out q)) (HR.out.grown (grownBy_trans HG3.out (grownBy_trans HG6.out q)))).mono (by rintro r w'' ⟨rfl, g⟩; exact ⟨rfl, grownBy_trans q g⟩))
  have CP : Hid (∀ w', w6.grownBy w' none → Calls Tryd.prog 12 #[.agg #[.int .u64 e, .string P, .int .i64 d, .int .i64 a, .slice av L.length cv]] w' fun r w'' => r = .returned (.agg #[.int .u64 e, .string P, .int .i64 d, .int .i64 a, .slice av L.length cv]) ∧ w6.grownBy w'' none) := Lib.hid (fun w' q => (PL.out w').mono (by rintro r w'' ⟨rfl, g⟩; exact ⟨rfl, grownBy_trans q g⟩))
  have CR : Hid (∀ w', w6.grownBy w' none → Calls Tryd.prog 14 #[.agg #[.int .u64 e, .string P, .int .i64 d, .int .i64 a, .slice av L.length cv]] w' fun r w'' => r = .returned (.string D) ∧ w6.grownBy w'' none) := Lib.hid (fun w' q => (RD.out w' (HST.out.grown (grownBy_trans HG6.out q))).mono (by rintro r w'' ⟨rfl, g⟩; exact ⟨rfl, grownBy_trans q g⟩))
  have CS : Hid (∀ w', w6.grownBy w' none → Calls Tryd.prog 15 #[.agg #[.int .u64 e, .string P, .int .i64 d, .int .i64 a, .slice av L.length cv], .agg #[.int .u64 e, .string P, .int .i64 d, .int .i64 a, .slice av L.length cv]] w' fun r w'' => r = .returned (.bool bz) ∧ w6.grownBy w'' none) := Lib.hid (fun w' q => (SM.out _ w' (HST.out.grown (grownBy_trans HG6.out q)) (HST.out.grown (grownBy_trans HG6.out q))).mono (by rintro r w'' ⟨rfl, g⟩; exact ⟨by cases bz <;> simp, grownBy_trans q g⟩))
  clear DG RD PL
  go_wp2_with fail
  go_region_held3 (fun w' => w'.cell? ⟨HB, 0, none⟩ = some (.int .u64 e) ∧ w'.cell? ⟨HB, 1, none⟩ = some (.string P) ∧ w'.cell? ⟨HB, 2, none⟩ = some (.int .i64 d) ∧ w'.cell? ⟨HB, 3, none⟩ = some (.int .i64 a) ∧ w'.cell? ⟨HB, 4, none⟩ = some (.slice av L.length cv)) (first | with_reducible exact HPK.out _ ckd | with_reducible exact HPK.out _ ckc | with_reducible exact HPK.out _ ckb | with_reducible exact HPK.out _ cka | with_reducible exact HPK.out _ HDR.out)
    (first
    | (go_at_call 13; (with_reducible refine (CD.out _ HDR.out).mono ?_); rintro r wa ⟨rfl, cka⟩)
    | (go_at_call 12; (with_reducible refine (CP.out _ cka).mono ?_); rintro r wb ⟨rfl, ckb⟩)
    | (go_at_call 14; (with_reducible refine (CR.out _ ckb).mono ?_); rintro r wc ⟨rfl, ckc⟩)
    | (go_at_call 15; (with_reducible refine (CS.out _ ckc).mono ?_); rintro r wd ⟨rfl, ckd⟩))
  have HGd := Lib.hid (grownBy_trans HG6.out ckd)
  clear cka ckb ckc ckd CD CP CR CS HPK HDR HG6
  obtain ⟨x0, x1, x2, x3, x4⟩ := cells5 (HGd.out.heap HB3.out (by simp))
  go_wp2_with fail
  refine (BR.out _ (HR.out.grown (grownBy_trans HG3.out HGd.out)) (HST.out.grown HGd.out)).mono ?_
  rintro r w7 ⟨rfl, g7⟩
  have HG7 := Lib.hid (grownBy_trans HGd.out g7)
  clear g7 BR HGd x0 x1 x2 x3 x4
  obtain ⟨x0, x1, x2, x3, x4⟩ := cells5 (HG7.out.heap HB3.out (by simp))
  have CT := Lib.hid (RT.out w7 (HR.out.grown (grownBy_trans HG3.out HG7.out)) (HST.out.grown HG7.out))
  have hRRl : (R.toList == R.toList) = true := by simp
  have hRRl2 : (R.toList != R.toList) = false := by simp
  clear RT
  by_cases hre0 : re = 0
  · have q8 : (re == 0) = true := by simp [hre0]
    have q9 : (re != 0) = false := by simp [hre0]
    clear hre0
    go_wp2_with fail
    refine CT.out.mono ?_
    rintro r wx ⟨rfl, g8⟩
    have HGX := Lib.hid (grownBy_trans HG7.out g8)
    clear g8 x0 x1 x2 x3 x4 CT RZ hRRl hRRl2 HG7
    by_cases hz0 : z = 0
    · have q1 : (z != 0) = false := by simp [hz0]
      have q2 : (z == 0) = true := by simp [hz0]
      have HDE := Lib.hid (BK.out hz0 wx)
      have hbt : bz = true := by rw [← HBZ.out.1]; simp [hz0]
      clear hz0 BK
      go_wp2_with fail
      refine HDE.out.mono ?_
      rintro r w9 ⟨u, rfl, hu, g9⟩
      obtain ⟨a9, c9, rfl⟩ := hu.form
      have HU := Lib.hid (hu.grown (World.grownBy_alloc w9 (.cells #[.int .u64 e, .string P, .int .i64 d, .int .i64 a, .slice a9 L.length c9] 28) none))
      have HGY := Lib.hid (grownBy_alloc' (grownBy_trans HGX.out g9) (.cells #[.int .u64 e, .string P, .int .i64 d, .int .i64 a, .slice a9 L.length c9] 28))
      obtain ⟨x0, x1, x2, x3, x4⟩ := cells5 (HGY.out.heap HB3.out (by simp))
      clear hu g9 HDE
      go_wp2_with fail
      refine (SM.out _ _ HU.out (HST.out.grown HGY.out)).mono ?_
      rintro r w10 ⟨rfl, g10⟩
      have HGZ := Lib.hid (grownBy_trans HG3.out (grownBy_trans HGY.out g10))
      subst hbt
      clear g10
      go_wp2_with fail
      go_ret
      exact ⟨by simp, HGZ.out⟩
    · have q1 : (z != 0) = true := by simp [hz0]
      have q2 : (z == 0) = false := by simp [hz0]
      clear hz0
      go_wp2_with fail
      go_ret
      exact ⟨rfl, grownBy_trans HG3.out HGX.out⟩
  · have q8 : (re == 0) = false := by simp [hre0]
    have q9 : (re != 0) = true := by simp [hre0]
    have hR0 := RZ.out hre0
    have hRe : (R.toList == []) = true := by rw [hR0, ByteArray.toList_eq]; rfl
    have hRe2 : R.toList.isEmpty = true := by rw [hR0, ByteArray.toList_eq]; rfl
    clear hre0 hR0
    go_wp2_with fail
    refine CT.out.mono ?_
    rintro r wx ⟨rfl, g8⟩
    have HGX := Lib.hid (grownBy_trans HG7.out g8)
    clear g8 x0 x1 x2 x3 x4 CT RZ hRRl hRRl2 HG7
    by_cases hz0 : z = 0
    · have q1 : (z != 0) = false := by simp [hz0]
      have q2 : (z == 0) = true := by simp [hz0]
      have HDE := Lib.hid (BK.out hz0 wx)
      have hbt : bz = true := by rw [← HBZ.out.1]; simp [hz0]
      clear hz0 BK
      go_wp2_with fail
      refine HDE.out.mono ?_
      rintro r w9 ⟨u, rfl, hu, g9⟩
      obtain ⟨a9, c9, rfl⟩ := hu.form
      have HU := Lib.hid (hu.grown (World.grownBy_alloc w9 (.cells #[.int .u64 e, .string P, .int .i64 d, .int .i64 a, .slice a9 L.length c9] 28) none))
      have HGY := Lib.hid (grownBy_alloc' (grownBy_trans HGX.out g9) (.cells #[.int .u64 e, .string P, .int .i64 d, .int .i64 a, .slice a9 L.length c9] 28))
      obtain ⟨x0, x1, x2, x3, x4⟩ := cells5 (HGY.out.heap HB3.out (by simp))
      clear hu g9 HDE
      go_wp2_with fail
      refine (SM.out _ _ HU.out (HST.out.grown HGY.out)).mono ?_
      rintro r w10 ⟨rfl, g10⟩
      have HGZ := Lib.hid (grownBy_trans HG3.out (grownBy_trans HGY.out g10))
      subst hbt
      clear g10
      go_wp2_with fail
      go_ret
      exact ⟨by simp, HGZ.out⟩
    · have q1 : (z != 0) = true := by simp [hz0]
      have q2 : (z == 0) = false := by simp [hz0]
      clear hz0
      go_wp2_with fail
      go_ret
      exact ⟨rfl, grownBy_trans HG3.out HGX.out⟩
theorem headerCodes_below (e : Int) (p : ByteArray) (d a : Int) (N : ByteArray) (he : 0 ≤ e ∧ e ≤ 18446744073709551615) (hp : p.size ≤ maxLen) (hN : N.size ≤ maxLen) (w : World) (hr : ShaReady w) :
    Calls Tryd.prog 3 #[.agg #[.int .u64 e, .string p, .int .i64 d, .int .i64 a, .string N]] w fun r w' => r = .returned (.bool true) ∧ Below w.heap.size w w' := by
  obtain ⟨e, rfl⟩ := Int.eq_ofNat_of_zero_le he.1
  exact (headerCodes_walk e p d a N (by omega) hp hN w hr).mono fun _ _ h => ⟨h.1, below_grownBy h.2⟩
end Go.Proofs.YtemndmhdlgfajaaDoor
