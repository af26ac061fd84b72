/- The walk of the law ProofTells. -/
import Derived.Test.YtheabbknflmnfaaDoorProofTellsP
import Derived.Test.YtheabbknflmnfaaDoorPrfY
import Derived.Test.YtheabbknflmnfaaDoorPrfQ
import Derived.Test.YtheabbknflmnfaaDoorPrfR
namespace Go.Proofs.YtheabbknflmnfaaDoor
open Go.RowKit Go.Maps
attribute [local irreducible] shaL

theorem key_neT (a b : ByteArray) (h : a ≠ b) : (a.toList == b.toList) = false := by rw [str_same]; simp [h]
theorem puts_grownT {w w' : World} {x : Option Addr} {n c : Nat} {L : List PutS} (h : PutsAt w (.slice x n c) L) (g : w.grownBy w' none) : PutsAt w' (.slice x n c) L := by
  obtain ⟨a', cap', e, hc⟩ := h
  refine ⟨a', cap', e, fun i hi => ?_⟩
  obtain ⟨g', o, e2, h1, h2, h3⟩ := hc i hi
  exact ⟨g', o, e2, g.cell h1 (by simp), g.cell h2 (by simp), g.cell h3 (by simp)⟩
set_option maxRecDepth 100000 in
set_option maxHeartbeats 8000000 in
theorem proofTells_walk (L : List PutS) (x : Option Addr) (n c : Nat) (a b : UInt8) (z : Int) (hz : -9223372036854775808 ≤ z ∧ z ≤ 9223372036854775807) (w : World) (hr : ShaReady w) (hv : PutsAt w (.slice x n c) L) (hsz : ∀ p ∈ L, p.2.2.size ≤ maxLen) (hn : n ≤ maxLen) :
    Calls Tryd.prog 4 #[.slice x n c, .agg #[.int .u8 a.toNat, .int .u8 b.toNat],   .int .i64 z] w fun e w' => e = .returned (.bool true) ∧ Below w.heap.size w w' := by
  have hb0 := heap_alloc_at w (.cells #[.int .u8 a.toNat, .int .u8 b.toNat] 30) _ rfl
  have hg0 : w.grownBy (w.alloc (.cells #[.int .u8 a.toNat, .int .u8 b.toNat] 30)) none := World.grownBy_alloc _ _ _
  have HSP := Lib.hid (prf_speaks _ (hr.grown hg0))
  have HV := Lib.hid (And.intro (puts_grownT hv hg0) (And.intro hsz hn))
  have HR := Lib.hid hr
  have HKEY := Lib.hid (fun (w' : World) => key14_any a b w')
  have hks := keyS14_size a b
  generalize keyS14 a b = K at HKEY hks
  have HKS := Lib.hid hks
  clear hr hv hsz hn hks
  go_enter Tryd.func4, Tryd.ntmps4
  go_wp2_with fail
  refine HSP.out.mono ?_
  rintro e w1 ⟨rfl, g1⟩
  have HB := Lib.hid (both_any w1 x n c L (puts_grownT HV.out.1 g1) HV.out.2.1 HV.out.2.2)
  have hb1 := g1.heap hb0 (by simp)
  have hg1 := grownBy_trans hg0 g1
  obtain ⟨BX, hBX⟩ : ∃ BX, w.heap.size = BX := ⟨_, rfl⟩
  rw [hBX] at hb1 ⊢
  have H1 := Lib.hid (And.intro hg1 hb1)
  clear hb0 hg0 g1 hb1 hg1 hBX HSP HV
  go_wp2_with fail
  refine HB.out.mono ?_
  rintro e w2 ⟨mv, tb, rfl, hPA, hT, g2⟩
  have hok := bothM_ok (L.take 12) (List.length_take_le 12 L)
  generalize bothM (L.take 12) = M at hPA hT hok
  have hP := plain_of hok.1 hok.2
  have hPAk := hPA
  obtain ⟨ma, mc, rfl, hmc, hmm, hcells⟩ := hPA
  have HPA := Lib.hid hPAk
  have hvs : ∀ y ∈ M, y.2.size ≤ 1000 := fun y hy => by have := (hok.1 y hy).2; omega
  have hc2 := g2.heap H1.out.2 (by simp)
  have ca : w2.cell? ⟨BX, 0, none⟩ = some (.int .u8 a.toNat) := by rw [cell_of hc2]; rfl
  have cb : w2.cell? ⟨BX, 1, none⟩ = some (.int .u8 b.toNat) := by rw [cell_of hc2]; rfl
  obtain ⟨N0, hN0⟩ : ∃ N0, w1.heap.size = N0 := ⟨_, rfl⟩
  rw [hN0] at hT
  have HG2 := Lib.hid (grownBy_trans H1.out.1 g2)
  have HT := Lib.hid hT
  have HP := Lib.hid (And.intro hP (And.intro hvs hok))
  clear hPAk hcells hmm hT hP hvs g2 HB hc2 hN0 hok hmc
  go_wp2_with fail
  refine (HKEY.out _).mono ?_
  rintro e w3 ⟨rfl, g3⟩
  have G3 := Lib.hid (And.intro (grownBy_trans HG2.out g3) g3)
  by_cases hout : z < 0 ∨ z > 128
  · have HPO := Lib.hid (fun (t : Value) (w' : World) => prove_out t K (by rw [HKS.out]; unfold maxLen; omega) z w' (Or.inr hout))
    rcases Int.lt_or_le z 0 with hn | hn
    · clear hout g3 ca cb HT HP HPA
      go_wp2_with fail
      refine (HPO.out _ _).mono ?_
      rintro e w4 ⟨rfl, g4⟩
      have HG4 := Lib.hid (grownBy_alloc' (grownBy_trans G3.out.1 g4) (.cells #[.slice none 0 0, .bool false, .string ⟨#[]⟩, .string ⟨#[]⟩] 51))
      clear g4
      go_wp2_with fail
      go_ret
      exact ⟨rfl, below_grownBy HG4.out⟩
    · have hn2 : z > 128 := by omega
      have hn3 : ¬ z < 0 := by omega
      clear hout g3 ca cb HT HP HPA
      go_wp2_with fail
      refine (HPO.out _ _).mono ?_
      rintro e w4 ⟨rfl, g4⟩
      have HG4 := Lib.hid (grownBy_alloc' (grownBy_trans G3.out.1 g4) (.cells #[.slice none 0 0, .bool false, .string ⟨#[]⟩, .string ⟨#[]⟩] 51))
      clear g4
      go_wp2_with fail
      go_ret
      exact ⟨rfl, below_grownBy HG4.out⟩
  · obtain ⟨d, rfl⟩ : ∃ d : Nat, z = (d : Int) := ⟨z.toNat, by omega⟩
    have hd : d ≤ 128 := by omega
    have d1 : ¬ (d : Int) < 0 := by omega
    have d2 : ¬ (d : Int) > 128 := by omega
    have HD := Lib.hid hd
    have hone := HT.out.one
    have HONE := Lib.hid hone
    have HPR := Lib.hid (prove_own N0 _ w3 tb M K d (HT.out.grown g3) HP.out.1 HP.out.2.1 HKS.out hd (HR.out.grown G3.out.1))
    have HNO : Hid (∀ w' : World, w3.grownBy w' none → Calls Tryd.prog 29 #[.pointer (some ⟨tb, 0, none⟩), .string K, .int .i64 d] w' fun e w'' => e = .returned (.string (nodeAt M K d)) ∧ w'.grownBy w'' none) := by
      intro w' q
      have h := tnode_any N0 _ w' tb M K (d : Int) (HT.out.grown (grownBy_trans g3 q)) HP.out.1 (by rw [HKS.out]; unfold maxLen; omega) (HR.out.grown (grownBy_trans G3.out.1 q))
      rw [capD_at d HD.out] at h
      exact h
    have HSTA := Lib.hid (fun (w' : World) (q : w3.grownBy w' none) => starts_any _ M K d w' (HPA.out.grown (grownBy_trans g3 q)) (by have := HP.out.2.2.2; omega) HP.out.1.k16 HKS.out hd)
    clear g3 ca cb HT HPA hout hd hz hone
    go_wp2_with fail
    refine HPR.out.mono ?_
    rintro e w4 ⟨b4, rfl, ho4, g4⟩
    obtain ⟨a4, q4, rfl⟩ := ho4.form
    have hGOOD := fun (w' : World) (q : w4.grownBy w' none) => (ho4.grown q).good
    have hNODE := fun (w' : World) (q : w4.grownBy w' none) => (ho4.grown q).node
    have hHAS := fun (y : ByteArray) (w' : World) (q : w4.grownBy w' none) => (ho4.grown q).has y
    have hLAC := fun (w' : World) (q : w4.grownBy w' none) => (ho4.grown q).lacks
    have HRH := Lib.hid (rest_has HONE.out HP.out.1.k16 K d HD.out)
    obtain ⟨t0, ht0⟩ : ∃ t, decide (restT M K d ≠ []) = t := ⟨_, rfl⟩
    obtain ⟨k0, hk0⟩ : ∃ k, keyOf (restT M K d) = k := ⟨_, rfl⟩
    obtain ⟨y0, hy0⟩ : ∃ y, valOf (restT M K d) = y := ⟨_, rfl⟩
    obtain ⟨lp, hlp⟩ : ∃ l, (wayT M K d).length = l := ⟨_, rfl⟩
    rw [ht0, hk0, hy0, hlp] at hGOOD hNODE hHAS hLAC
    rw [ht0, hk0, hy0, hlp]
    rw [hlp] at ho4
    have HP0 := Lib.hid (And.intro ht0 (And.intro hk0 (And.intro hy0 hlp)))
    have hp5 := ProofIn.new w4 (.slice a4 lp q4) t0 k0 y0
    have hg5 : w4.grownBy (w4.alloc (.cells #[.slice a4 lp q4, .bool t0, .string k0, .string y0] 51)) none := World.grownBy_alloc _ _ _
    obtain ⟨ND, hND⟩ : ∃ N, nodeAt M K d = N := ⟨_, rfl⟩
    rw [hND] at hNODE hHAS hLAC HNO
    have HGOOD := Lib.hid hGOOD
    have HNODE := Lib.hid hNODE
    have HHAS := Lib.hid hHAS
    have HLAC := Lib.hid hLAC
    clear ht0 hk0 hy0 hlp hGOOD hNODE hHAS hLAC hND HPR
    go_wp2_with fail
    obtain ⟨W5, hW5⟩ : ∃ W5, w4.alloc (.cells #[.slice a4 lp q4, .bool t0, .string k0, .string y0] 51) = W5 := ⟨_, rfl⟩
    rw [hW5] at hp5 hg5 ⊢
    obtain ⟨P, hP⟩ : ∃ P, w4.heap.size = P := ⟨_, rfl⟩
    rw [hP] at hp5 ⊢
    have H5 := Lib.hid (And.intro hp5 (And.intro (ho4.grown hg5) (And.intro (grownBy_trans g4 hg5) hg5)))
    clear hp5 hg5 hW5 hP ho4 g4
    refine (HSTA.out W5 H5.out.2.2.1).mono ?_
    rintro e w6 ⟨v6, rfl, ho6, g6⟩
    have hPA6 := pairs_own ho6
    obtain ⟨a6, c6, rfl, hc6, hm6, hcells6⟩ := hPA6
    have hBES := fun (w' : World) (q : w6.grownBy w' none) => refBeside_any K HKS.out (128 - d) d _ (startM M K d) w' (by have := HD.out; omega) (by have h := List.length_filter_le (fun x : PairS => belowB x.1 K d) M; have := HP.out.2.2.2; show (M.filter _).length ≤ _; omega) (start_alike HONE.out HP.out.1.k16 K d) (fun x hx => HP.out.2.1 x (List.mem_filter.1 hx).1) ((pairs_own ho6).grown q)
    have HPA6 := Lib.hid (pairs_own ho6)
    have HBES := Lib.hid hBES
    have HS6 := Lib.hid (And.intro (H5.out.1.grown g6) (And.intro (H5.out.2.1.grown g6) (And.intro (grownBy_trans H5.out.2.2.1 g6) (grownBy_trans H5.out.2.2.2 g6))))
    obtain ⟨ls, hls⟩ : ∃ l, (startM M K d).length = l := ⟨_, rfl⟩
    have HLS := Lib.hid hls
    rw [hls] at HPA6 HBES ⊢
    have hls12 : ls ≤ 12 := by
      have h := List.length_filter_le (fun x : PairS => belowB x.1 K d) M
      have h2 := HP.out.2.2.2
      have h3 : (M.filter fun x : PairS => belowB x.1 K d).length = ls := hls
      omega
    have HLS2 := Lib.hid hls12
    clear hBES ho6 hc6 hm6 hcells6 g6 H5 hls HSTA hls12
    go_wp2_with fail
    refine (HBES.out w6 (World.grownBy.refl _ _)).mono ?_
    rintro e w7 ⟨v7, rfl, ho7, _, g7⟩
    obtain ⟨a7, c7, rfl⟩ := slice_own' ho7
    have hlw : (wayB K (128 - d) (startM M K d) d).length = lp := HP0.out.2.2.2
    have hs7 := strs_own ho7
    rw [hlw] at hs7 ⊢
    have hs7' : StrsAt w7 (.slice a7 lp c7) (wayT M K d) := hs7
    have hp7 := HS6.out.1.grown g7
    have H7 := Lib.hid (And.intro hp7 (And.intro (HS6.out.2.1.grown g7).strs (And.intro hs7' (And.intro (HPA6.out.grown g7) (And.intro (grownBy_trans HS6.out.2.2.1 g7) (grownBy_trans HS6.out.2.2.2 g7))))))
    obtain ⟨x0, x1, x2, x3⟩ := hp7.cells
    have hlp128 : lp ≤ 128 := by have := wayT_len M K d HD.out; have := HP0.out.2.2.2; omega
    have HLP := Lib.hid hlp128
    have hlpp : ((lp : Int) != (lp : Int)) = false := by simp
    clear ho7 hs7 hs7' hlw g7 hp7 HS6 HBES HPA6 hlp128
    go_wp2_with fail
    refine (HGOOD.out _ H7.out.2.2.2.2.2).mono ?_
    rintro e w8 ⟨rfl, g8⟩
    have H8 := Lib.hid (And.intro (H7.out.1.grown g8) (And.intro (strs_grown H7.out.2.1 g8) (And.intro (strs_grown H7.out.2.2.1 g8) (And.intro (H7.out.2.2.2.1.grown g8) (And.intro (grownBy_trans H7.out.2.2.2.2.1 g8) (grownBy_trans H7.out.2.2.2.2.2 g8))))))
    clear x0 x1 x2 x3 H7 g8 HGOOD
    go_wp2_with fail
    go_loopw [14] (fun iv wr => ∃ i : Nat, i ≤ lp ∧ iv = .int .i64 i ∧ Hid (w8.grownBy wr none)) (fun iv _ => lp - (intOf iv).toNat)
    case atStart => exact ⟨0, Nat.zero_le _, rfl, World.grownBy.refl _ _⟩
    case round =>
      obtain ⟨i, hi, rfl, HG⟩ := hrel
      by_cases hil : i < lp
      · obtain ⟨s, hs⟩ : ∃ s, (wayT M K d)[i]? = some s := ⟨_, List.getElem?_eq_getElem (by have := HP0.out.2.2.2; omega)⟩
        obtain ⟨g1, o1, rfl, hc1⟩ := (strs_grown H8.out.2.1 HG.out).at_ i s hs
        obtain ⟨g2, o2, rfl, hc2⟩ := (strs_grown H8.out.2.2.1 HG.out).at_ i s hs
        have x0 := HG.out.cell H8.out.1.cells.1 (by simp)
        have e0 : (0 : Int) ≤ (i : Int) := by omega
        have e1 : (i : Int) < (lp : Int) := by omega
        have hlpz := HLP.out
        clear hs
        go_wp2_with fail
        go_region
        all_goals
          go_wp2_with fail
          go_roundw
          case rel => exact ⟨i + 1, by omega, by have := HLP.out; go_num, Lib.hid (grownBy_drew HG.out)⟩
          case measure => simp [intOf]; omega
      · have e1 : ¬ (i : Int) < (lp : Int) := by omega
        have H9 := Lib.hid (And.intro (H8.out.1.grown HG.out) (And.intro (H8.out.2.2.2.1.grown HG.out) (And.intro (grownBy_trans H8.out.2.2.2.2.1 HG.out) (grownBy_trans H8.out.2.2.2.2.2 HG.out))))
        clear H8 hi hil
        go_wp2_with fail
        refine (HNO.out _ H9.out.2.2.1).mono ?_
        rintro e w10 ⟨rfl, g10⟩
        have H10 := Lib.hid (And.intro (H9.out.1.grown g10) (And.intro (H9.out.2.1.grown g10) (And.intro (grownBy_trans H9.out.2.2.1 g10) (grownBy_trans H9.out.2.2.2 g10))))
        clear H9 g10 HNO HG
        go_wp2_with fail
        have HSP2 := Lib.hid (start_val HONE.out K d)
        have HSH2 := Lib.hid (start_has M K d)
        have HSS := Lib.hid (start_start M K d lp)
        have hrest : restT M K d = startM M K (d + lp) := by have := rest_eq M K d HD.out; rw [HP0.out.2.2.2] at this; exact this
        have HRE := Lib.hid hrest
        have hS1 : (startM M K d).Pairwise (fun p q => p.1 ≠ q.1) := HONE.out.filter _
        have hS16 : ∀ x ∈ startM M K d, x.1.size = 16 := fun x hx => HP.out.1.k16 x (List.mem_filter.1 hx).1
        obtain ⟨S, hS⟩ : ∃ S, startM M K d = S := ⟨_, rfl⟩
        rw [hS] at HSP2 HSH2 HSS hS1 hS16 HLS H10
        have HSI := Lib.hid (And.intro hS1 hS16)
        clear hrest hS hS1 hS16
        go_loopw [16, 17, 18] (fun vv tv iv wr => ∃ i : Nat, i ≤ ls ∧ iv = .int .i64 i ∧ vv = .string (valM (S.take i) K) ∧ tv = .bool (hasM (S.take i) K) ∧ Hid (w10.grownBy wr none)) (fun _ _ iv _ => ls - (intOf iv).toNat)
        case atStart => exact ⟨0, Nat.zero_le _, rfl, rfl, rfl, World.grownBy.refl _ _⟩
        case round =>
          obtain ⟨i, hi, rfl, rfl, rfl, HG⟩ := hrel
          have hls12 := HLS2.out
          by_cases hil : i < ls
          · have hil2 : i < S.length := by have := HLS.out; omega
            have hpa := H10.out.2.1.grown HG.out
            obtain ⟨ax, cx, hax, _, _, hcx⟩ := hpa
            obtain ⟨g2, o2, e2, h1, h2⟩ := hcx i hil2
            obtain rfl : a6 = ax := by injection hax
            obtain rfl := e2
            clear hax
            obtain ⟨pp, hpp⟩ : ∃ p, S[i] = p := ⟨_, rfl⟩
            have hsn : S.take (i + 1) = S.take i ++ [pp] := by rw [List.take_succ_eq_append_getElem hil2, hpp]
            have hfr := has_fresh HSI.out.1 i hil2
            obtain ⟨pk, pv⟩ := pp
            rw [hpp] at h1 h2 hfr
            have e0 : (0 : Int) ≤ (i : Int) := by omega
            have e1 : (i : Int) < (ls : Int) := by omega
            have HSN := Lib.hid (And.intro hsn hfr)
            clear hpp hsn hfr hcx hil2
            by_cases hk : pk = K
            · have hkq : (pk.toList == K.toList) = true := by rw [hk]; simp
              have HKK := Lib.hid hk
              clear hk
              go_wp2_with fail
              go_roundw
              case rel => exact ⟨i + 1, by omega, by go_num, by rw [HSN.out.1, valM_hit (by have := HSN.out.2; rw [← HKK.out]; exact this) HKK.out], by rw [HSN.out.1, hasM_snoc, decide_eq_true HKK.out, Bool.or_true], HG.out⟩
              case measure => simp [intOf]; omega
            · have hkq : (pk.toList == K.toList) = false := key_neT pk K hk
              have HKK := Lib.hid hk
              clear hk
              go_wp2_with fail
              go_roundw
              case rel => exact ⟨i + 1, by omega, by go_num, by rw [HSN.out.1, valM_miss HKK.out], by rw [HSN.out.1, hasM_snoc, decide_eq_false HKK.out, Bool.or_false], HG.out⟩
              case measure => simp [intOf]; omega
          · have e1 : ¬ (i : Int) < (ls : Int) := by omega
            have hin : S.take i = S := List.take_of_length_le (by have := HLS.out; omega)
            rw [hin, HSP2.out, HSH2.out]
            have H11 := Lib.hid (And.intro (H10.out.1.grown HG.out) (And.intro (grownBy_trans H10.out.2.2.1 HG.out) (grownBy_trans H10.out.2.2.2 HG.out)))
            have hst := starts_any _ S K (d + lp) wr (H10.out.2.1.grown HG.out) (by have := HLS.out; omega) HSI.out.2 HKS.out (by have := wayT_len M K d HD.out; have := HP0.out.2.2.2; omega)
            rw [HSS.out, ← HRE.out, Int.natCast_add] at hst
            have HST := Lib.hid hst
            have hlpz := HLP.out
            have e5 : IntKind.i64.wrap ((d : Int) + (lp : Int)) = ((d + lp : Nat) : Int) := by rw [IntWalk.i64_in _ (by have := HD.out; omega)]; rfl
            clear hin hst hil hi HG H10
            go_wp2_with fail
            refine HST.out.mono ?_
            rintro e w12 ⟨v12, rfl, ho12, g12⟩
            have hPA12 := pairs_own ho12
            have hfew := restT_few HONE.out HP.out.1.k16 K d HD.out
            have h0 := HP0.out
            obtain ⟨VV, hVV⟩ : ∃ v, valM M K = v := ⟨_, rfl⟩
            obtain ⟨OK, hOK⟩ : ∃ v, hasM M K = v := ⟨_, rfl⟩
            have hVVs : VV.size ≤ 1000 := by
              rw [← hVV]
              cases hh : hasM M K
              · rw [valM_none hh]; exact Nat.zero_le _
              · rw [← HRH.out.2 hh]; exact (rest_size HP.out.1 K d HD.out HP.out.2.1).2
            rw [hVV, hOK]
            obtain ⟨ar, cr, rfl, hcr, hmr, hcells⟩ := hPA12
            obtain ⟨c0, c1, c2, c3⟩ := (H11.out.1.grown g12).cells
            clear hcr hmr HST
            match hr : restT M K d, hfew with
            | [], _ =>
              rw [hr] at h0
              obtain ⟨rfl, rfl, rfl, _⟩ := h0
              clear hcells hr
              have HG12 := Lib.hid (And.intro (grownBy_trans H11.out.2.1 g12) (And.intro (grownBy_trans H11.out.2.2 g12) (H11.out.1.grown g12)))
              clear g12 ho12 H11
              go_wp2_with fail
              go_region
              have HGW := Lib.hid (And.intro (grownBy_drew HG12.out.1) (And.intro (grownBy_drew HG12.out.2.1) (HG12.out.2.2.grown (grownBy_drew (World.grownBy.refl _ _)))))
              clear HG12
              have hself : (ND.toList == ND.toList) = true := by simp
              have hq1 := HHAS.out VV
              have hq2 := HHAS.out (VV ++ ⟨#[120]⟩)
              have hq3 := HLAC.out
              rw [hVV, hOK, decide_eq_true rfl, Bool.and_true] at hq1
              rw [hVV, hOK, decide_eq_false (val_more VV), Bool.and_false] at hq2
              rw [hOK] at hq3
              have HQ1 := Lib.hid hq1
              have HQ2 := Lib.hid hq2
              have HQ3 := Lib.hid hq3
              have hadd : (9223372036854775807 < VV.size + (⟨#[120]⟩ : ByteArray).size) = False := eq_false (by have := hVVs; have h2 : (⟨#[120]⟩ : ByteArray).size = 1 := rfl; omega)
              have hadd2 : (9223372036854775807 < VV.size + 1) = False := eq_false (by have := hVVs; omega)
              clear hq1 hq2 hq3 hVV hOK hVVs HHAS HLAC
              cases OK
              all_goals
                go_wp2_with fail
                refine (HNODE.out _ HGW.out.2.1).mono ?_
                rintro e w14 ⟨rfl, g14⟩
                have H14 := Lib.hid (And.intro (grownBy_trans HGW.out.1 g14) (And.intro (grownBy_trans HGW.out.2.1 g14) (HGW.out.2.2.grown g14)))
                obtain ⟨p0, p1, p2, p3⟩ := H14.out.2.2.cells
                clear g14 c0 c1 c2 c3
                go_wp2_with fail
                refine (HQ1.out _ H14.out.2.1).mono ?_
                rintro e w15 ⟨rfl, g15⟩
                have H15 := Lib.hid (And.intro (grownBy_trans H14.out.1 g15) (And.intro (grownBy_trans H14.out.2.1 g15) (H14.out.2.2.grown g15)))
                clear p0 p1 p2 p3
                obtain ⟨p0, p1, p2, p3⟩ := H15.out.2.2.cells
                clear g15
                go_wp2_with fail
                refine (HQ3.out _ H15.out.2.1).mono ?_
                rintro e w16 ⟨rfl, g16⟩
                have H16 := Lib.hid (And.intro (grownBy_trans H15.out.1 g16) (And.intro (grownBy_trans H15.out.2.1 g16) (H15.out.2.2.grown g16)))
                clear p0 p1 p2 p3
                obtain ⟨p0, p1, p2, p3⟩ := H16.out.2.2.cells
                clear g16
                go_wp2_with fail
                refine (HQ2.out _ H16.out.2.1).mono ?_
                rintro e w17 ⟨rfl, g17⟩
                have H17 := Lib.hid (grownBy_trans H16.out.1 g17)
                clear g17 p0 p1 p2 p3
                go_wp2_with fail
                go_ret
                exact ⟨rfl, below_grownBy (grownBy_trans G3.out.1 H17.out)⟩

            | [xx], _ =>
              obtain ⟨xk, xv⟩ := xx
              rw [hr] at h0 hcells
              obtain ⟨e1', e2', e3', _⟩ := h0
              have et : t0 = true := by rw [← e1']; rfl
              have ek : k0 = xk := e2'.symm
              have ev : y0 = xv := e3'.symm
              subst et ek ev
              obtain ⟨gr, orr, rfl, cr1, cr2⟩ := hcells 0 (by show 0 < 1; decide)
              have cr1 : w12.cell? ⟨gr, orr, none⟩ = some (.string k0) := cr1
              have cr2 : w12.cell? ⟨gr, orr + 1, none⟩ = some (.string y0) := by have := cr2; simp at this; exact this
              have hkk : (k0.toList == k0.toList) = true := by simp
              have hyy : (y0.toList == y0.toList) = true := by simp
              clear hcells hr e1' e2' e3'
              have HG12 := Lib.hid (And.intro (grownBy_trans H11.out.2.1 g12) (And.intro (grownBy_trans H11.out.2.2 g12) (H11.out.1.grown g12)))
              clear g12 ho12 H11
              go_wp2_with fail
              go_region
              have HGW := Lib.hid (And.intro (grownBy_drew HG12.out.1) (And.intro (grownBy_drew HG12.out.2.1) (HG12.out.2.2.grown (grownBy_drew (World.grownBy.refl _ _)))))
              clear HG12
              have hself : (ND.toList == ND.toList) = true := by simp
              have hq1 := HHAS.out VV
              have hq2 := HHAS.out (VV ++ ⟨#[120]⟩)
              have hq3 := HLAC.out
              rw [hVV, hOK, decide_eq_true rfl, Bool.and_true] at hq1
              rw [hVV, hOK, decide_eq_false (val_more VV), Bool.and_false] at hq2
              rw [hOK] at hq3
              have HQ1 := Lib.hid hq1
              have HQ2 := Lib.hid hq2
              have HQ3 := Lib.hid hq3
              have hadd : (9223372036854775807 < VV.size + (⟨#[120]⟩ : ByteArray).size) = False := eq_false (by have := hVVs; have h2 : (⟨#[120]⟩ : ByteArray).size = 1 := rfl; omega)
              have hadd2 : (9223372036854775807 < VV.size + 1) = False := eq_false (by have := hVVs; omega)
              clear hq1 hq2 hq3 hVV hOK hVVs HHAS HLAC
              cases OK
              all_goals
                go_wp2_with fail
                refine (HNODE.out _ HGW.out.2.1).mono ?_
                rintro e w14 ⟨rfl, g14⟩
                have H14 := Lib.hid (And.intro (grownBy_trans HGW.out.1 g14) (And.intro (grownBy_trans HGW.out.2.1 g14) (HGW.out.2.2.grown g14)))
                obtain ⟨p0, p1, p2, p3⟩ := H14.out.2.2.cells
                clear g14 c0 c1 c2 c3
                go_wp2_with fail
                refine (HQ1.out _ H14.out.2.1).mono ?_
                rintro e w15 ⟨rfl, g15⟩
                have H15 := Lib.hid (And.intro (grownBy_trans H14.out.1 g15) (And.intro (grownBy_trans H14.out.2.1 g15) (H14.out.2.2.grown g15)))
                clear p0 p1 p2 p3
                obtain ⟨p0, p1, p2, p3⟩ := H15.out.2.2.cells
                clear g15
                go_wp2_with fail
                refine (HQ3.out _ H15.out.2.1).mono ?_
                rintro e w16 ⟨rfl, g16⟩
                have H16 := Lib.hid (And.intro (grownBy_trans H15.out.1 g16) (And.intro (grownBy_trans H15.out.2.1 g16) (H15.out.2.2.grown g16)))
                clear p0 p1 p2 p3
                obtain ⟨p0, p1, p2, p3⟩ := H16.out.2.2.cells
                clear g16
                go_wp2_with fail
                refine (HQ2.out _ H16.out.2.1).mono ?_
                rintro e w17 ⟨rfl, g17⟩
                have H17 := Lib.hid (grownBy_trans H16.out.1 g17)
                clear g17 p0 p1 p2 p3
                go_wp2_with fail
                go_ret
                exact ⟨rfl, below_grownBy (grownBy_trans G3.out.1 H17.out)⟩

theorem proofTells_ints (L : List PutS) (x : Option Addr) (n c : Nat) (la : List UInt8) (hl : la.length = 2) (z : Int) (hz : -9223372036854775808 ≤ z ∧ z ≤ 9223372036854775807) (w : World) (hr : ShaReady w) (hv : PutsAt w (.slice x n c) L) (hsz : ∀ p ∈ L, p.2.2.size ≤ maxLen) (hn : n ≤ maxLen) :
    Calls Tryd.prog 4 #[.slice x n c, .agg (bytesV la).toArray, .int .i64 z] w fun e w' => e = .returned (.bool true) ∧ Below w.heap.size w w' := by
  match la, hl with
  | [a, b], _ => exact proofTells_walk L x n c a b z hz w hr hv hsz hn
end Go.Proofs.YtheabbknflmnfaaDoor
