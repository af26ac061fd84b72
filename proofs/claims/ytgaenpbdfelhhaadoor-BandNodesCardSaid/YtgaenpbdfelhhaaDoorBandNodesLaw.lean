/- The walk of the law BandNodes. -/
import Derived.Test.YtgaenpbdfelhhaaDoorBandNodesB4
import Derived.Test.YtgaenpbdfelhhaaDoorBandNodesB3
import Derived.Test.YtgaenpbdfelhhaaDoorBndS
import Derived.Test.YtgaenpbdfelhhaaDoorBandNodesB6
import Derived.Test.YtgaenpbdfelhhaaDoorSmtQ
namespace Go.Proofs.YtgaenpbdfelhhaaDoor
open Go.RowKit Go.Maps
attribute [local irreducible] shaL

theorem TwosAt.grown {w w' : World} {v : Value} {L : List TwoS} (h : TwosAt w v L) (k : w.grownBy w' none) : TwosAt w' v L := by
  obtain ⟨a, c, e, hc⟩ := h
  refine ⟨a, c, e, fun i hi => ?_⟩
  obtain ⟨g, o, e2, h1, h2⟩ := hc i hi
  exact ⟨g, o, e2, k.cell h1 (by simp), k.cell h2 (by simp)⟩
/-- what the law has of its tree: all that is asked of it, behind a world -/
structure TreeIn (w : World) (tb : Nat) (M : List PairS) : Prop where
  nodes : ∀ (d : Nat) (w' : World), d ≤ 4 → w.grownBy w' none → Calls Tryd.prog 12 #[.pointer (some ⟨tb, 0, none⟩), .int .i64 d] w' fun e w'' => ∃ v, e = .returned (.tuple #[v, .int .i64 0]) ∧ w''.ownsRow w'.heap.size 9 1 v (nodesB M d).length (strsV (nodesB M d)) ∧ w'.grownBy w'' none
  keys : ∀ (d b : Nat) (w' : World), d ≤ 4 → b < 2 ^ d → w.grownBy w' none → Calls Tryd.prog 16 #[.pointer (some ⟨tb, 0, none⟩), .int .i64 b, .int .i64 d] w' fun e w'' => ∃ v, e = .returned (.tuple #[v, .int .i64 0]) ∧ w''.ownsRow w'.heap.size 9 1 v (bandS M d b).length (strsV (ofBand d b (keysM M))) ∧ w'.grownBy w'' none
  root : ∀ (w' : World), w.grownBy w' none → Calls Tryd.prog 20 #[.pointer (some ⟨tb, 0, none⟩)] w' fun e w'' => e = .returned (.string (nodeN 128 M 0)) ∧ w'.grownBy w'' none
theorem treeIn_of {n0 : Nat} {X : List Nat} {w : World} {tb : Nat} {M : List PairS} (hT : TreeK n0 X w tb M) (hP : Plain M) (hr : ShaReady w) : TreeIn w tb M := by
  refine ⟨fun d w' hd q => bnodes_any n0 X w' tb M d (hT.grown q) hP hd (hr.grown q), fun d b w' hd hb q => ?_, fun w' q => troot_any n0 X w' tb M (hT.grown q) hP (hr.grown q)⟩
  have h := bkeys_any n0 X w' tb M b d (hT.grown q) hP hd hb
  rwa [ofBand_len] at h
set_option maxRecDepth 100000 in
set_option maxHeartbeats 8000000 in
theorem bandNodes_walk (L : List TwoS) (x : Option Addr) (n c : Nat) (z : Int) (hz : -9223372036854775808 ≤ z ∧ z ≤ 9223372036854775807) (w : World) (hr : ShaReady w) (hv : TwosAt w (.slice x n c) L) (hn : n ≤ maxLen) :
    Calls Tryd.prog 3 #[.slice x n c, .int .i64 z] w fun e w' => e = .returned (.bool true) ∧ Below w.heap.size w w' := by
  obtain ⟨i0, hti, hz0, hz1, hz2⟩ := info_parts infoPair
  have hln : L.length = n := by obtain ⟨_, _, e, _⟩ := hv; injection e with _ e _; exact e.symm
  have HSP := Lib.hid (bnd_speaks w hr)
  have HR := Lib.hid hr
  have HV0 := Lib.hid hv
  have HLN := Lib.hid hln
  unfold maxLen at hn
  clear hr hv hln
  go_enter Tryd.func3, Tryd.ntmps3
  go_wp2_with fail
  refine HSP.out.mono ?_
  rintro e w0 ⟨rfl, g0⟩
  have HV := Lib.hid (HV0.out.grown g0)
  have HG0 := Lib.hid g0
  have HNEW := Lib.hid (tnew_any w0.heap.size [] w0 (by simp) (Nat.le_refl _))
  clear g0 HSP HV0
  go_wp2_with fail
  refine HNEW.out.mono ?_
  rintro e w1 ⟨rfl, hT1, g1⟩
  obtain ⟨TB, hTB⟩ : ∃ TB, w0.heap.size = TB := ⟨_, rfl⟩
  have HTB := Lib.hid hTB
  rw [hTB] at hT1 ⊢
  have HT1 := Lib.hid hT1
  have HG1 := Lib.hid g1
  clear hT1 g1 HNEW hTB
  go_upto_block 0 with (fail)
  go_cut [5, 7] (fun mv _ wx => ∃ (v : Value) (M : List PairS), v = mv ∧ Hid (PairsAt wx v M) ∧ Hid (TreeIn wx TB M) ∧ Hid (((∀ x ∈ M, x.1.size = 16 ∧ x.2.size ≤ 20) ∧ M.length ≤ 14) ∧ M.Pairwise (fun p q => p.1 ≠ q.1)) ∧ Hid (w.grownBy wx none))
  case first =>
   go_wp2_with fail
   go_loopw [5, 7] (fun mv iv wr => ∃ (i : Nat) (v : Value), i ≤ 14 ∧ iv = .int .i64 i ∧ v = mv ∧ Hid (i ≤ n) ∧ Hid (wr.ownsRow TB 33 2 v (twosM (L.take i)).length (pv (twosM (L.take i)))) ∧ Hid (TreeK TB (ownL v) wr TB (twosM (L.take i))) ∧ Hid (w0.grownBy wr none)) (fun _ iv _ => 14 - (intOf iv).toNat)
   case atStart => exact ⟨0, _, Nat.zero_le _, rfl, rfl, Nat.zero_le _, World.ownsRow_nil _ _ _ _, by show TreeK _ _ _ _ _; exact HT1.out, HG1.out⟩
   case round =>
     obtain ⟨i, v, hi, rfl, rfl, HIN, HO, HT, HG⟩ := hrel
     by_cases hlm : i < n ∧ i < 14
     · obtain ⟨hm1, hm2⟩ := hlm
       have q1 : (i : Int) < (n : Int) := by omega
       have q2 : (i : Int) < 14 := by omega
       have q0 : (0 : Int) ≤ (i : Int) := by omega
       have hil : i < L.length := by have := HLN.out; omega
       obtain ⟨a', cap', e, hc⟩ := HV.out
       obtain ⟨g, o, rfl, h1, h2⟩ := hc i hil
       have hsn : twosM (L.take (i + 1)) = setM (twosM (L.take i)) (keyS14 L[i].1 L[i].2, vS) := by rw [List.take_succ_eq_append_getElem hil]; exact twosM_snoc _ _
       obtain ⟨p, hp⟩ : ∃ p, L[i] = p := ⟨_, rfl⟩
       obtain ⟨pa, pb⟩ := p
       rw [hp] at h1 h2 hsn
       injection e with e1 e2 e3
       have hgl : g < w0.heap.size := cell_lt h1
       have HGL := Lib.hid hgl
       have HSN := Lib.hid hsn
       have hok := twosM_ok (L.take i) (by have := List.length_take_le i L; omega)
       have HOK := Lib.hid hok
       have c1 := HG.out.cell h1 (by simp)
       have c2 := HG.out.cell h2 (by simp)
       simp only [e1] at *
       clear hc h1 h2 hp hsn hgl hok e1 e2 e3
       have HKEY := Lib.hid (fun (w' : World) => key15_any pa pb w')
       have HS0 := Lib.hid (And.intro c1 c2)
       obtain ⟨M, hM⟩ : ∃ M, twosM (L.take i) = M := ⟨_, rfl⟩
       rw [hM] at HOK HT HO HSN
       have HOW := HO
       have HTW := HT
       have hXl : ∀ x ∈ ownL v, x < wr.heap.size := fun x hx => (HO.out.lt x (ownL_mem.1 hx)).2
       have HPUT : Hid (∀ w', wr.grownBy w' none → Calls Tryd.prog 9 #[.pointer (some ⟨TB, 0, none⟩), .string (keyS14 pa pb), .string ⟨#[118]⟩] w' fun e w'' => e = .returned (.int .i64 0) ∧ TreeK TB (ownL v) w'' TB (setM M (keyS14 pa pb, vS)) ∧ Turn (rest TB (ownL v)) w' w'') := Lib.hid (fun w' q =>
         tput_any TB (ownL v) w' TB M (keyS14 pa pb) vS (HTW.out.grown q) (fun x hx => Nat.lt_of_lt_of_le (hXl x hx) q.size) (by have := HTB.out; have := HG.out.size; have := q.size; omega) (keyS14_size _ _) (by show 1 ≤ _; decide) (by have := HOK.out.2; omega))
       clear hM hXl HT HO
       generalize keyS14 pa pb = KK at HKEY HPUT HSN ⊢
       have HKC := Lib.hid (fun (w' : World) (q : wr.grownBy w' none) => puts_ck q HS0.out)
       have HPC : Hid (∀ w4 w5 : World, wr.grownBy w4 none → Turn (rest TB (ownL v)) w4 w5 → w5.cell? ⟨g, o + i * 2, none⟩ = some (.int .u8 (pa.toNat : Int)) ∧ w5.cell? ⟨g, o + i * 2 + 1, none⟩ = some (.int .u8 (pb.toNat : Int))) := Lib.hid (fun w4 w5 q t => by
         have h4 := HKC.out w4 q
         have hg4 : g < w4.heap.size := cell_lt h4.1
         have hn : ¬ rest TB (ownL v) g := fun r => by have := r.1; have := HTB.out; have := HGL.out; omega
         exact ⟨(t.cell hg4 hn _).trans h4.1, (t.cell hg4 hn _).trans h4.2⟩)
       go_wp2_with fail
       go_region_held3 (fun w' => w'.cell? ⟨g, o + i * 2, none⟩ = some (.int .u8 (pa.toNat : Int)) ∧ w'.cell? ⟨g, o + i * 2 + 1, none⟩ = some (.int .u8 (pb.toNat : Int))) (first | exact HPC.out _ _ ckp.2.2 ckp.2.1 | exact HKC.out _ ck | exact HS0.out)
         (first
         | (go_at_call 10; (with_reducible refine (HKEY.out _).mono ?_); rintro e w4 ⟨rfl, g4⟩; have ck := grownBy_trans (grownBy_drew (World.grownBy.refl wr none)) g4)
         | (go_at_call 9; (with_reducible refine (HPUT.out _ ck).mono ?_); rintro e w5 ⟨rfl, hT5, t5⟩; have ckp := And.intro hT5 (And.intro t5 ck)))
       have HS5 := Lib.hid (HPC.out _ _ ckp.2.2 ckp.2.1)
       have hT5 := ckp.1
       have t5 := ckp.2.1
       have hO5 : w5.ownsRow TB 33 2 v M.length (pv M) := own_turn (own_keep2' HOW.out ckp.2.2) t5 (fun x e q => q.2 (ownL_mem.2 e))
       have HT5 := Lib.hid hT5
       have hb4 := below_grownBy (grownBy_trans HG.out ckp.2.2)
       rw [HTB.out] at hb4
       have HG5 : Hid (w0.grownBy w5 none) := by
         have h6 := t5.bel hb4 (by have := hb4.size; rw [HTB.out] at this; exact this)
         rw [← HTB.out] at h6
         exact Lib.hid (grownBy_below h6)
       have HPA5 := Lib.hid (pairs_own hO5)
       have HSET : Hid (∀ (w' : World), w5.grownBy w' none → Calls Tryd.prog 11 #[v, .agg #[.string KK, .string ⟨#[118]⟩]] w' fun e w'' => ∃ v2, e = .returned v2 ∧ w''.ownsRow w'.heap.size 33 2 v2 (setM M (KK, vS)).length (pv (setM M (KK, vS))) ∧ w'.grownBy w'' none) := Lib.hid (fun (w' : World) (q : w5.grownBy w' none) => refSet_any w' v M (KK, vS) (HPA5.out.grown q) (by have := HOK.out.2; omega))
       have HKC5 := Lib.hid (fun (w' : World) (q : w5.grownBy w' none) => puts_ck q HS5.out)
       have d1 := HS5.out.1
       have d2 := HS5.out.2
       clear c1 c2 ck ckp hT5 t5 hO5 hb4 HPUT HPC HKC HS0 HOW HTW
       go_wp2_with fail
       go_region_held3 (fun w' => w'.cell? ⟨g, o + i * 2, none⟩ = some (.int .u8 (pa.toNat : Int)) ∧ w'.cell? ⟨g, o + i * 2 + 1, none⟩ = some (.int .u8 (pb.toNat : Int))) (first | exact HKC5.out _ (grownBy_trans ckq.2.2 ckq.2.1) | exact HKC5.out _ ck | exact HS5.out)
         (first
         | (go_at_call 10; (with_reducible refine (HKEY.out _).mono ?_); rintro e w6 ⟨rfl, g6⟩; have ck := grownBy_trans (grownBy_drew (World.grownBy.refl w5 none)) g6)
         | (go_at_call 11; (with_reducible refine (HSET.out _ ck).mono ?_); rintro e w7 ⟨v2, rfl, ho7, g7⟩; have ckq := And.intro ho7 (And.intro g7 ck)))
       have HO7 := Lib.hid ckq.1
       have hg57 := grownBy_trans ckq.2.2 ckq.2.1
       have hsz6 : w5.heap.size ≤ w6.heap.size := ckq.2.2.size
       have HT7 : Hid (TreeK TB (ownL v2) w7 TB (setM M (KK, vS))) := Lib.hid (HT5.out.more hg57 (fun x hx => .inr (by have := (ckq.1.lt x (ownL_mem.1 hx)).1; omega)))
       have HG7 := Lib.hid (grownBy_trans HG5.out hg57)
       have HTB6 : Hid (TB ≤ w6.heap.size) := Lib.hid (by have := HG5.out.size; have := HTB.out; omega)
       clear ck ckq hg57 hsz6 d1 d2
       go_wp2_with fail
       go_roundw
       case rel =>
         refine ⟨i + 1, v2, by omega, by go_num, rfl, by show _ ≤ _; omega, ?_, ?_, HG7.out⟩
         · rw [HSN.out]; show World.ownsRow _ _ _ _ _ _ _; exact own_low2 HO7.out HTB6.out
         · rw [HSN.out]; exact HT7.out
       case measure => simp [intOf]; omega
     · have hM14 : twosM (L.take i) = twosM (L.take 14) := by
         congr 1
         by_cases hin : i < n
         · rw [show i = 14 by omega]
         · have h1 := HLN.out
           have h2 := HIN.out
           rw [List.take_of_length_le (by omega), List.take_of_length_le (by omega)]
       rw [hM14] at HO HT
       have hok := twosM_ok (L.take 14) (List.length_take_le 14 L)
       have hrest : ((n : Int) ≤ (i : Int)) ∨ ((i : Int) < (n : Int) ∧ (14 : Int) ≤ (i : Int)) := by omega
       obtain ⟨M, hM⟩ : ∃ M, twosM (L.take 14) = M := ⟨_, rfl⟩
       rw [hM] at HO HT hok
       have hone := HT.out.one
       have hP : Plain M := plain14 hok.1 hok.2
       have HPA := Lib.hid (pairs_own HO.out)
       have HTI := Lib.hid (treeIn_of HT.out hP (HR.out.grown (grownBy_trans HG0.out HG.out)))
       have HOK := Lib.hid (And.intro hok hone)
       have HGW := Lib.hid (grownBy_trans HG0.out HG.out)
       clear hM14 HO HT hok hM hone hP HLN HV
       rcases hrest with hh | ⟨h1, h2⟩
       · have q1 : ¬ (i : Int) < (n : Int) := by omega
         clear hh
         go_wp2_with fail
         go_meet
         case rel => exact ⟨v, M, rfl, HPA.out, HTI.out, HOK.out, HGW.out⟩
       · have q2 : ¬ (i : Int) < 14 := by omega
         clear h2
         go_wp2_with fail
         go_meet
         case rel => exact ⟨v, M, rfl, HPA.out, HTI.out, HOK.out, HGW.out⟩
  case rest =>
    obtain ⟨v, M, rfl, HPA, HTI, HOK, HGW⟩ := hcut
    clear HT1 HG1 HV HLN HTB HG0
    obtain ⟨ma, mc, rfl, hmc, hmm, hcells⟩ := HPA.out
    have HC := Lib.hid hcells
    clear hcells
    obtain ⟨m, hm⟩ : ∃ m, M.length = m := ⟨_, rfl⟩
    rw [hm] at hmc ⊢
    have HM := Lib.hid hm
    have hm14 : m ≤ 14 := by have := HOK.out.1.2; omega
    have h16 : ∀ x ∈ M, x.1.size = 16 := fun x hx => (HOK.out.1.1 x hx).1
    by_cases hzz : 0 ≤ z ∧ z ≤ 4
    · obtain ⟨d, rfl⟩ := Int.eq_ofNat_of_zero_le hzz.1
      have hd : d ≤ 4 := by omega
      have HCB := Lib.hid (fun w' => bcount_in d hd w')
      have HCR := Lib.hid (fun w' => refCount_in d hd w')
      have hNOD := HTI.out.nodes d wc hd (World.grownBy.refl _ _)
      rw [nodesB_len] at hNOD
      have hpos : 0 < 2 ^ d := Nat.pow_pos (by decide)
      have hle : 2 ^ d ≤ 2 ^ 4 := Nat.pow_le_pow_right (by decide) hd
      have hle : 2 ^ d ≤ 16 := hle
      have HD := Lib.hid hd
      have HROOT := Lib.hid (fun (w' : World) (na : Option Addr) (nc : Nat) (q : wc.grownBy w' none) (ho : w'.ownsRow wc.heap.size 9 1 (.slice na (2 ^ d) nc) (2 ^ d) (strsV (nodesB M d))) => broot_any wc.heap.size _ M d w' (HR.out.grown (grownBy_trans HGW.out q)) ho hd)
      have HKR := Lib.hid (fun (w' : World) => bkeys_range (.pointer (some ⟨TB, 0, none⟩)) (2 ^ d) d hd (Nat.le_refl _) w')
      have HOS : Hid (∀ w' : World, Calls Tryd.prog 17 #[.string ⟨#[115, 104, 111, 114, 116]⟩, .int .i64 d] w' fun e w'' => e = .returned (.tuple #[.int .i64 0, .int .i64 10]) ∧ w'.grownBy w'' none) := Lib.hid (fun w' => bof_short _ (by decide) d hd w')
      have HKEYS := Lib.hid (fun (i : Nat) (w' : World) (hi : i < 2 ^ d) (q : wc.grownBy w' none) => HTI.out.keys d i w' hd hi q)
      have HNB := Lib.hid (fun (i : Nat) (hi : i < 2 ^ d) => nodesB_at M d i hi)
      obtain ⟨N, hN⟩ : ∃ N, 2 ^ d = N := ⟨_, rfl⟩
      rw [hN] at hNOD hpos hle HCB HCR HROOT HKR HKEYS HNB
      have HNOD := Lib.hid hNOD
      have hp0 : ((N : Int) == 0) = false := beq_eq_false_iff_ne.2 (by omega)
      have HAL := Lib.hid (fun i => band_alike HOK.out.2 h16 d i)
      clear hNOD hN hzz h16 hd
      go_wp2_with fail
      refine HNOD.out.mono ?_
      rintro e w2 ⟨nv, rfl, ho2, g2⟩
      obtain ⟨na, nc, rfl⟩ := slice_own' ho2
      have HO2 := Lib.hid ho2
      have HG2 := Lib.hid g2
      have hst := strs_own ho2
      have HST := Lib.hid hst
      clear ho2 g2 hst HNOD
      go_wp2_with fail
      refine (HCR.out _).mono ?_
      rintro e w2' ⟨rfl, rfl⟩
      go_wp2_with fail
      refine (HCB.out _).mono ?_
      rintro e w2' ⟨rfl, rfl⟩
      go_wp2_with fail
      go_loopw [17, 18, 19, 20, 21, 22, 23, 24, 25] (fun iv _ _ _ _ _ _ _ _ wr => ∃ (i : Nat), i ≤ N ∧ iv = .int .i64 i ∧ Hid (w2.grownBy wr none)) (fun iv _ _ _ _ _ _ _ _ _ => N - (intOf iv).toNat)
      case atStart => exact ⟨0, Nat.zero_le _, rfl, World.grownBy.refl _ _⟩
      case round =>
        obtain ⟨i, hi, rfl, HG⟩ := hrel
        by_cases hlt : i < N
        · have d1 : (i : Int) < (N : Int) := by omega
          have d0 : (0 : Int) ≤ (i : Int) := by omega
          rename World => W2
          obtain ⟨XB, hXB⟩ : ∃ XB, W2.heap.size = XB := ⟨_, rfl⟩
          have HXB := Lib.hid hXB
          clear hXB
          go_wp2_with fail
          go_loopw [18, 19, 20, 21, 22, 23] (fun sv kv _ _ _ _ wq => ∃ (k : Nat) (u : Value), k ≤ m ∧ kv = .int .i64 k ∧ u = sv ∧ Hid (wq.ownsRow XB 33 2 u (bandS (M.take k) d i).length (pv (bandS (M.take k) d i))) ∧ Hid (W2.grownBy wq none)) (fun _ kv _ _ _ _ _ => m - (intOf kv).toNat)
          case atStart => exact ⟨0, _, Nat.zero_le _, rfl, rfl, World.ownsRow_nil _ _ _ _, World.grownBy.refl _ _⟩
          case round =>
            obtain ⟨k, u, hk, rfl, rfl, HU, HGK⟩ := hrel
            rename World => W3
            by_cases hkm : k < m
            · have k1 : (k : Int) < (m : Int) := by omega
              have k0 : (0 : Int) ≤ (k : Int) := by omega
              have hkl : k < M.length := by have := HM.out; omega
              have hsz := (HOK.out.1.1 M[k] (List.getElem_mem _)).1
              have hst := bandS_take M d i k hkl
              obtain ⟨p, hp⟩ : ∃ p, M[k] = p := ⟨_, rfl⟩
              obtain ⟨pk, py⟩ := p
              obtain ⟨g, o, rfl, h1, h2⟩ := HC.out k hkl
              rw [hp] at h1 h2 hsz hst
              have hpk : pk.size = 16 := hsz
              have hgr := grownBy_trans HG2.out (grownBy_trans HG.out HGK.out)
              have c1 := hgr.cell h1 (by simp)
              have c2 := hgr.cell h2 (by simp)
              have C12 := Lib.hid (And.intro c1 c2)
              have HSTK := Lib.hid hst
              have hul : (bandS (M.take k) d i).length ≤ 14 := by
                have h1 := bandS_len (M.take k) d i
                have h2 := List.length_take_le k M
                have := HM.out
                omega
              have HUL := Lib.hid hul
              have HBIT := Lib.hid (fun (j : Nat) (hj : j < d) (w' : World) => refBit_any pk (by omega) j (by have := HD.out; omega) w')
              have HOF := Lib.hid (fun (w' : World) => bof_any pk hpk d HD.out w')
              have HB16 : Hid (∀ j, j ≤ d → bandN pk j ≤ 16) := Lib.hid (fun j hj => by
                have h1 := bandN_lt pk j
                have h2 : 2 ^ j ≤ 2 ^ 4 := Nat.pow_le_pow_right (by decide) (by have := HD.out; omega)
                have h3 : 2 ^ j ≤ 16 := h2
                omega)
              clear h1 h2 hp hst hsz hpk hgr hul c2
              go_wp2_with fail
              go_loopw [20, 21] (fun bv jv wj => ∃ (j : Nat), j ≤ d ∧ jv = .int .i64 j ∧ bv = .int .i64 (bandN pk j : Nat) ∧ W3 = wj) (fun _ jv _ => d - (intOf jv).toNat)
              case atStart => exact ⟨0, Nat.zero_le _, rfl, rfl, rfl⟩
              case round =>
                obtain ⟨j, hj, rfl, rfl, rfl⟩ := hrel
                by_cases hjd : j < d
                · have j1 : (j : Int) < (d : Int) := by omega
                  have hb := HB16.out j hj
                  have hbl := bitS_le pk j
                  have hu : bandN pk (j + 1) = 2 * bandN pk j + bitS pk j := rfl
                  have HBJ := Lib.hid (HBIT.out j hjd)
                  generalize bandN pk j = bb at hb hu
                  generalize bitS pk j = bt at hu hbl HBJ
                  have e1 : 2 * (bb : Int) + (bt : Int) = ((bandN pk (j + 1) : Nat) : Int) := by omega
                  have HE1 := Lib.hid e1
                  have w1 : IntKind.i64.wrap (2 * (bb : Int)) = 2 * (bb : Int) := wrap_i64_nat (2 * bb) (by omega)
                  clear hu e1
                  go_wp2_with fail
                  refine (HBJ.out _).mono ?_
                  rintro e w3 ⟨rfl, rfl⟩
                  go_wp2_with fail
                  go_roundw
                  case rel => exact ⟨j + 1, by omega, by go_num, by rw [← HE1.out], by first | trivial | rfl⟩
                  case measure => simp [intOf]; omega
                · have hjd2 : j = d := by omega
                  subst hjd2
                  have j1 : ¬ (j : Int) < (j : Int) := by omega
                  obtain ⟨bb, hbb⟩ : ∃ bb, bandN pk j = bb := ⟨_, rfl⟩
                  rw [hbb] at HOF ⊢
                  have HBB := Lib.hid hbb
                  clear hbb hjd hj
                  go_wp2_with fail
                  refine (HOF.out _).mono ?_
                  rintro e w3 ⟨rfl, g3⟩
                  have HG3 := Lib.hid g3
                  have HO3 := Lib.hid (own_keep2' HU.out g3)
                  have HSZ : Hid (XB ≤ w3.heap.size) := Lib.hid (by have := HXB.out; have := HGK.out.size; have := g3.size; omega)
                  have c1 := g3.cell C12.out.1 (by simp)
                  have c2 := g3.cell C12.out.2 (by simp)
                  clear g3
                  by_cases hbi : bb = i
                  · subst hbi
                    go_wp2_with (at_builtin; refine wpList_append_own _ rfl _ _ 24 rfl XB 33 i0 (.agg #[.string ⟨#[]⟩, .string ⟨#[]⟩]) 2 32 Tryd.underlying24 hti hz0 hz1 hz2 rfl (by decide) _ _ _ rfl (HO3.out.alloc _) ⟨w3.heap.size, 0, none⟩ 1 1 [.string pk, .string py] rfl rfl (lit_pair _ _ _) ?q2 ?q3 ?q4 ?q5 ?_)
                    case q2 => first | rfl | (intro u hu; simp at hu; rcases hu with rfl | rfl <;> rfl) | exact ⟨rfl, rfl⟩
                    case q3 => have := HUL.out; unfold maxLen; omega
                    case q4 => have := HUL.out; omega
                    case q5 => have := HSZ.out; first | (simp; omega) | omega
                    intro v' w' ho hg _
                    have HO4 := Lib.hid ho
                    have HG4 : Hid (W2.grownBy w' none) := by
                      refine Lib.hid (grown_row (grownBy_alloc' (grownBy_trans HGK.out HG3.out) (.cells #[.string pk, .string py] 33)) hg (fun x e => ?_))
                      have := (HO3.out.lt x e).1
                      have := HXB.out
                      omega
                    clear ho hg
                    go_wp2_with fail
                    go_roundw
                    case rel =>
                      refine ⟨k + 1, v', by omega, by go_num, rfl, ?_, HG4.out⟩
                      have := HSTK.out
                      simp [HBB.out] at this
                      show World.ownsRow _ _ _ _ _ _ _
                      rw [this, pv_append, List.length_append]
                      exact HO4.out
                    case measure => simp [intOf]; omega
                  · have b1 : ((bb : Int) == (i : Int)) = false := beq_eq_false_iff_ne.2 (by omega)
                    have HNE := Lib.hid hbi
                    clear hbi
                    go_wp2_with fail
                    go_roundw
                    case rel =>
                      refine ⟨k + 1, u, by omega, by go_num, rfl, ?_, grownBy_trans HGK.out HG3.out⟩
                      have := HSTK.out
                      simp [HBB.out, HNE.out] at this
                      show World.ownsRow _ _ _ _ _ _ _
                      rw [this]
                      exact HO3.out
                    case measure => simp [intOf]; omega
            · have k1 : ¬ (k : Int) < (m : Int) := by omega
              have hin : M.take k = M := List.take_of_length_le (by have := HM.out; omega)
              rw [hin] at HU
              have HPS := Lib.hid (pairs_own HU.out)
              obtain ⟨ua, uc, rfl, _⟩ := HPS.out
              have hln : (bandS M d i).length ≤ 1000000 := by
                have := bandS_len M d i
                have := HM.out
                omega
              have hvs : ∀ x ∈ bandS M d i, x.2.size ≤ 1000 := fun x hx => by have := (HOK.out.1.1 x (List.mem_filter.1 hx).1).2; omega
              have HREF := Lib.hid (fun (w' : World) (q : W3.grownBy w' none) => refNode_any (128 - d) d _ (bandS M d i) w' (by have := HD.out; omega) hln (HAL.out i) hvs (HPS.out.grown q))
              have HKI := Lib.hid (HKEYS.out i W3 hlt (grownBy_trans HG2.out (grownBy_trans HG.out HGK.out)))
              obtain ⟨g, o, rfl, x1⟩ := HST.out.at_ i _ (HNB.out i hlt)
              have x1 := (grownBy_trans HG.out HGK.out).cell x1 (by simp)
              have HX1 := Lib.hid x1
              have hself : ∀ s : ByteArray, (s.toList == s.toList) = true := fun s => by simp
              have hs1 := hself (nodeN (128 - d) (bandS M d i) d)
              obtain ⟨R, hR⟩ : ∃ R, nodeN (128 - d) (bandS M d i) d = R := ⟨_, rfl⟩
              rw [hR] at HREF x1 HX1 hs1
              obtain ⟨q, hq⟩ : ∃ q, (bandS M d i).length = q := ⟨_, rfl⟩
              rw [hq] at HKI HREF ⊢
              have HG4 := Lib.hid (grownBy_trans HG.out HGK.out)
              have hq14 : q ≤ 14 := by rw [← hq]; have := bandS_len M d i; have := HM.out; omega
              clear hin HU hln hvs hself hR hq hk hkm HPS x1
              go_wp2_with fail
              refine HKI.out.mono ?_
              rintro e w4 ⟨kv, rfl, ho4, g4⟩
              obtain ⟨ka, kc, rfl⟩ := slice_own' ho4
              have HG5 := Lib.hid g4
              have x1 := g4.cell HX1.out (by simp)
              clear ho4 g4 HKI
              go_wp2_with fail
              go_region_held3 (fun w' => w'.cell? ⟨g, o + i, none⟩ = some (.string R)) (first | exact ck.cell x1 (by simp) | exact x1)
                ((go_at_call 19; (with_reducible refine (HREF.out _ (grownBy_drew HG5.out)).mono ?_); rintro e w5 ⟨rfl, g5⟩; have ck := grownBy_trans (grownBy_drew (World.grownBy.refl w4 none)) g5))
              have HG6 := Lib.hid (grownBy_trans HG4.out (grownBy_trans HG5.out ck))
              clear ck g5
              go_wp2_with fail
              go_roundw
              case rel => exact ⟨i + 1, by omega, by go_num, HG6.out⟩
              case measure => simp [intOf]; omega
        · have hiN : i = N := by omega
          subst hiN
          have d1 : ¬ (i : Int) < (i : Int) := by omega
          have HG6 := Lib.hid (grownBy_trans HG2.out HG.out)
          have HRT := Lib.hid (HROOT.out wr na nc HG6.out (own_keep HO2.out HG.out (fun _ _ e => by cases e)))
          have hself : ∀ s : ByteArray, (s.toList == s.toList) = true := fun s => by simp
          have hs1 := hself (nodeN 128 M 0)
          have HTR := Lib.hid (fun (w' : World) (q : wc.grownBy w' none) => HTI.out.root w' q)
          obtain ⟨R, hR⟩ : ∃ R, nodeN 128 M 0 = R := ⟨_, rfl⟩
          rw [hR] at HRT hs1 HTR
          clear hself hR hi hlt HG HROOT
          go_wp2_with fail
          refine HRT.out.mono ?_
          rintro e w7 ⟨rfl, b7⟩
          have HG7 := Lib.hid (grownBy_trans HG6.out (grownBy_below b7))
          clear b7 HRT
          go_wp2_with fail
          refine (HKR.out _).mono ?_
          rintro e w8 ⟨rfl, g8⟩
          have HG8 := Lib.hid (grownBy_trans HG7.out g8)
          clear g8
          go_wp2_with fail
          refine (HOS.out _).mono ?_
          rintro e w9 ⟨rfl, g9⟩
          have HG9 := Lib.hid (grownBy_trans HG8.out g9)
          clear g9
          go_wp2_with fail
          refine (HTR.out _ HG9.out).mono ?_
          rintro e w10 ⟨rfl, g10⟩
          have HG10 := Lib.hid (grownBy_trans HG9.out g10)
          clear g10
          go_wp2_with fail
          go_ret
          exact ⟨rfl, below_grownBy (grownBy_trans HGW.out HG10.out)⟩
    · have hzo : z < 0 ∨ z > 4 := by omega
      have HN := Lib.hid (fun (t : Value) (w' : World) => bnodes_out t z hzo w')
      have HCB := Lib.hid (fun w' => bcount_out z hzo w')
      have HCR := Lib.hid (fun w' => refCount_out z hzo w')
      have HRO := Lib.hid (fun (v : Value) (w' : World) => broot_out v z (by omega) w')
      have HKO := Lib.hid (fun (t : Value) (b : Int) (w' : World) => bkeys_out t b z hzo w')
      have HOO := Lib.hid (fun (k : ByteArray) (w' : World) => bof_out k z hzo w')
      have HK1 : Hid (∀ w' : World, Calls Tryd.prog 10 #[.int .u8 1, .int .u8 1] w' fun e w'' => e = .returned (.string (keyS14 1 1)) ∧ w'.grownBy w'' none) := Lib.hid (fun w' => key15_any 1 1 w')
      generalize keyS14 1 1 = K1 at HK1
      clear hzz hzo h16 hmm
      go_wp2_with fail
      refine (HN.out _ _).mono ?_
      rintro e w2 ⟨rfl, rfl⟩
      go_wp2_with fail
      refine (HCR.out _).mono ?_
      rintro e w2 ⟨rfl, rfl⟩
      go_wp2_with fail
      refine (HCB.out _).mono ?_
      rintro e w2 ⟨rfl, rfl⟩
      go_wp2_with fail
      refine (HRO.out _ _).mono ?_
      rintro e w2 ⟨rfl, rfl⟩
      go_wp2_with fail
      refine (HKO.out _ _ _).mono ?_
      rintro e w3 ⟨rfl, g3⟩
      have HG3 := Lib.hid (grownBy_trans HGW.out g3)
      clear g3
      go_wp2_with fail
      refine (HK1.out _).mono ?_
      rintro e w4 ⟨rfl, g4⟩
      have HG4 := Lib.hid (grownBy_trans HG3.out g4)
      clear g4
      go_wp2_with fail
      refine (HOO.out _ _).mono ?_
      rintro e w5 ⟨rfl, g5⟩
      have HG5 := Lib.hid (grownBy_trans HG4.out g5)
      clear g5
      go_wp2_with fail
      go_ret
      exact ⟨rfl, below_grownBy HG5.out⟩
theorem bandNodes_ints (L : List TwoS) (x : Option Addr) (n c : Nat) (z : Int) (hz : -9223372036854775808 ≤ z ∧ z ≤ 9223372036854775807) (w : World) (hr : ShaReady w) (hv : TwosAt w (.slice x n c) L) (hn : n ≤ maxLen) :
    Calls Tryd.prog 3 #[.slice x n c, .int .i64 z] w fun e w' => e = .returned (.bool true) ∧ Below w.heap.size w w' := bandNodes_walk L x n c z hz w hr hv hn
end Go.Proofs.YtgaenpbdfelhhaaDoor
