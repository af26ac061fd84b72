/- The walk of the law SmtNodes. -/
import Derived.Test.YtbakhdbnfmoceaaDoorSmtN
import Derived.Test.YtbakhdbnfmoceaaDoorBelow
namespace Go.Proofs.YtbakhdbnfmoceaaDoor
open Go.RowKit Go.Maps
attribute [local irreducible] shaL

theorem capD_cast (z : Int) : min (max z 0) 128 = ((capD z : Nat) : Int) := by unfold capD; omega
theorem capD_next (d : Nat) (h : d ≤ 15) : capD ((d : Int) + 1) = d + 1 := by unfold capD; omega
theorem first_int (b d : Nat) (x y : Int) (hx : x = (b : Int)) (hy : y = (d : Int)) (hd : d ≤ 16) (hb : b < 2 ^ d) (w : World) :
    Calls Tryd.prog 21 #[.int .i64 x, .int .i64 y] w fun e w' => ∃ s : ByteArray, e = .returned (.string s) ∧ (s.size ≤ maxLen ∧ ∀ i, bitS s i = if i < d then b / 2 ^ (d - 1 - i) % 2 else 0) ∧ w.grownBy w' none := by
  subst hx hy
  refine (first_any b d hd hb w).mono ?_
  rintro e w' ⟨l, rfl, ⟨hl, hbits⟩, g⟩
  exact ⟨str l, rfl, ⟨by show l.length ≤ maxLen; unfold maxLen; omega, hbits⟩, g⟩
theorem nodeAt_size (M : List PairS) (s : ByteArray) (d : Nat) : (nodeAt M s d).size ≤ 17 := (nodeN_node _ _ _).size
set_option maxRecDepth 100000 in
set_option maxHeartbeats 8000000 in
theorem smtNodes_walk (L : List PutS) (x : Option Addr) (n c : Nat) (a : UInt8) (z : Int) (hz : -9223372036854775808 ≤ z ∧ z ≤ 9223372036854775807) (w : World) (hr : ShaReady w) (hv : PutsAt w (.slice x n c) L) (hsz : ∀ p ∈ L, p.2.2.size ≤ maxLen) (hn : n ≤ maxLen) :
    Calls Tryd.prog 4 #[.slice x n c, .int .u8 a.toNat, .int .i64 z] w fun e w' => e = .returned (.bool true) ∧ Below w.heap.size w w' := by
  obtain ⟨i0, hti, hz0, hz1, hz2⟩ := info_parts infoPair
  have HSP := Lib.hid (smt_speaks w hr)
  have HR := Lib.hid hr
  have HV := Lib.hid (And.intro hv (And.intro hsz hn))
  have HKEY := Lib.hid (fun (w' : World) => key_any a 0 w')
  have hks := keyS_size a 0
  generalize keyS a 0 = KK at HKEY hks
  have hkl : KK.size ≤ maxLen := by unfold maxLen; omega
  have HKS := Lib.hid hkl
  have hcast := capD_cast z
  have hd128 := capD_le z
  obtain ⟨d, hd⟩ : ∃ d, capD z = d := ⟨_, rfl⟩
  rw [hd] at hcast hd128
  have HD := Lib.hid hd
  clear hr hv hsz hn hks hd hkl
  go_enter Tryd.func4, Tryd.ntmps4
  go_wp2_with fail
  refine HSP.out.mono ?_
  rintro e w1 ⟨rfl, g1⟩
  have hv1 : PutsAt w1 (.slice x n c) L := by
    obtain ⟨a', cap', e, hc⟩ := HV.out.1
    refine ⟨a', cap', e, fun i hi => ?_⟩
    obtain ⟨g, o, e2, h1, h2, h3⟩ := hc i hi
    exact ⟨g, o, e2, g1.cell h1 (by simp), g1.cell h2 (by simp), g1.cell h3 (by simp)⟩
  have HB := Lib.hid (both_any w1 x n c L hv1 HV.out.2.1 HV.out.2.2)
  have HG1 := Lib.hid g1
  clear g1 hv1 HSP HV
  go_wp2_with fail
  refine HB.out.mono ?_
  rintro e w2 ⟨mv, tb, rfl, hPA, hT, g2⟩
  have hok := bothM_ok (L.take 12) (List.length_take_le 12 L)
  generalize bothM (L.take 12) = M at hPA hT hok
  have hone := hT.one
  have hP := plain_of hok.1 hok.2
  obtain ⟨ma, mc, rfl, hmc, hmm, hcells⟩ := hPA
  have HC := Lib.hid hcells
  have HG2 := Lib.hid (grownBy_trans HG1.out g2)
  have HT := Lib.hid hT
  have HOK := Lib.hid (And.intro hok (And.intro hone hP))
  obtain ⟨N0, hN0⟩ : ∃ N0, w1.heap.size = N0 := ⟨_, rfl⟩
  rw [hN0] at HT
  obtain ⟨XX, hXX⟩ : ∃ XX, ownL (.slice ma M.length mc) = XX := ⟨_, rfl⟩
  rw [hXX] at HT
  obtain ⟨m, hm⟩ : ∃ m, M.length = m := ⟨_, rfl⟩
  rw [hm] at hmc ⊢
  have HM := Lib.hid hm
  have hm12 : m ≤ 12 := by have := hok.2; omega
  have HNODE := Lib.hid (fun (s : ByteArray) (hs : s.size ≤ maxLen) (y : Int) (w' : World) (q : w2.grownBy w' none) => tnode_any N0 XX w' tb M s y (HT.out.grown q) hP hs ((HR.out.grown HG2.out).grown q))
  have HBEL := Lib.hid (fun (k : ByteArray) (hk : k.size ≤ maxLen) (w' : World) => below_any k KK hk HKS.out d hd128 w')
  clear hT hok hone hP g2 HB hcells hm hN0 hXX
  go_wp2_with fail
  refine (HKEY.out _).mono ?_
  rintro e w3 ⟨rfl, g3⟩
  have HG3 := Lib.hid g3
  clear g3
  obtain ⟨XB, hXB⟩ : ∃ XB, w3.heap.size = XB := ⟨_, rfl⟩
  have HXB := Lib.hid hXB
  clear hXB
  go_wp2_with fail
  go_loopw [11, 12] (fun v iv wr => ∃ (i : Nat), i ≤ m ∧ iv = .int .i64 i ∧ Hid (wr.ownsRow XB 36 2 v ((M.take i).filter fun p => belowB p.1 KK d).length (pv ((M.take i).filter fun p => belowB p.1 KK d))) ∧ Hid (w3.grownBy wr none)) (fun _ iv _ => m - (intOf iv).toNat)
  case atStart => exact ⟨0, Nat.zero_le _, rfl, World.ownsRow_nil _ _ _ _, World.grownBy.refl _ _⟩
  case round =>
    obtain ⟨i, hi, rfl, HO, HG⟩ := hrel
    by_cases hlt : i < m
    · have d1 : (i : Int) < (m : Int) := by omega
      have d0 : (0 : Int) ≤ (i : Int) := by omega
      have hil : i < M.length := by have := HM.out; omega
      have hsz := (HOK.out.1.1 M[i] (List.getElem_mem _)).1
      obtain ⟨p, hp⟩ : ∃ p, M[i] = p := ⟨_, rfl⟩
      obtain ⟨pk, py⟩ := p
      obtain ⟨g, o, rfl, h1, h2⟩ := HC.out i hil
      rw [hp] at h1 h2 hsz
      have hpk : pk.size ≤ maxLen := by have : pk.size = 16 := hsz; unfold maxLen; omega
      have HPB := Lib.hid (HBEL.out pk hpk)
      have c1 := HG3.out.cell h1 (by simp)
      have c2 := HG3.out.cell h2 (by simp)
      have c1 := HG.out.cell c1 (by simp)
      have c2 := HG.out.cell c2 (by simp)
      have C12 := Lib.hid (And.intro c1 c2)
      have hst := filter_step M (fun p => belowB p.1 KK d) i hil
      rw [hp] at hst
      have HST := Lib.hid hst
      have hfl : ((M.take i).filter fun p => belowB p.1 KK d).length ≤ 12 := by
        have h1 := List.length_filter_le (fun p : PairS => belowB p.1 KK d) (M.take i)
        have h2 := List.length_take_le i M
        omega
      have HFL := Lib.hid hfl
      clear h1 h2 hp hst hsz hpk hfl c2
      rcases hbb : belowB pk KK d with _ | _
      · rw [hbb] at HPB
        have HBB := Lib.hid hbb
        clear hbb
        go_wp2_with fail
        refine (HPB.out _).mono ?_
        rintro e w6 ⟨rfl, g6⟩
        go_wp2_with fail
        go_roundw
        case rel =>
          refine ⟨i + 1, by omega, by go_num, ?_, grownBy_trans HG.out g6⟩
          have := HST.out
          simp [HBB.out] at this
          show World.ownsRow _ _ _ _ _ _ _
          rw [this]
          exact own_keep2' HO.out g6
        case measure => simp [intOf]; omega
      · rw [hbb] at HPB
        have HBB := Lib.hid hbb
        clear hbb
        go_wp2_with fail
        refine (HPB.out _).mono ?_
        rintro e w6 ⟨rfl, g6⟩
        have HG6 := Lib.hid g6
        have HO6 := Lib.hid (own_keep2' HO.out g6)
        have HSZ : Hid (XB ≤ w6.heap.size) := Lib.hid (by have := HXB.out; have := HG.out.size; have := g6.size; omega)
        have c1 := g6.cell C12.out.1 (by simp)
        have c2 := g6.cell C12.out.2 (by simp)
        clear g6
        go_wp2_with (at_builtin; refine wpList_append_own _ rfl _ _ 24 rfl XB 36 i0 (.agg #[.string ⟨#[]⟩, .string ⟨#[]⟩]) 2 32 Tryd.underlying24 hti hz0 hz1 hz2 rfl (by decide) _ _ _ rfl (HO6.out.alloc _) ⟨w6.heap.size, 0, none⟩ 1 1 [.string pk, .string py] rfl rfl (lit_pair _ _ _) ?q2 ?q3 ?q4 ?q5 ?_)
        case q2 => first | rfl | (intro u hu; simp at hu; rcases hu with rfl | rfl <;> rfl) | exact ⟨rfl, rfl⟩
        case q3 => have := HFL.out; unfold maxLen; omega
        case q4 => have := HFL.out; omega
        case q5 => have := HSZ.out; first | (simp; omega) | omega
        intro v' w' ho hg _
        have HO2 := Lib.hid ho
        have HG2' : Hid (w3.grownBy w' none) := by
          refine Lib.hid (grown_row (grownBy_alloc' (grownBy_trans HG.out HG6.out) (.cells #[.string pk, .string py] 36)) hg (fun x e => ?_))
          have := (HO6.out.lt x e).1
          have := HXB.out
          omega
        clear ho hg
        go_wp2_with fail
        go_roundw
        case rel =>
          refine ⟨i + 1, by omega, by go_num, ?_, HG2'.out⟩
          have := HST.out
          simp [HBB.out] at this
          show World.ownsRow _ _ _ _ _ _ _
          rw [this, pv_append, List.length_append]
          exact HO2.out
        case measure => simp [intOf]; omega
    · have d1 : ¬ (i : Int) < (m : Int) := by omega
      have hin : M.take i = M := List.take_of_length_le (by have := HM.out; omega)
      rw [hin] at HO
      have HPS := Lib.hid (pairs_own (M := startM M KK d) HO.out)
      obtain ⟨va, vc, rfl, _⟩ := HPS.out
      have hal := start_alike HOK.out.2.1 HOK.out.2.2.k16 KK d
      have hln : (startM M KK d).length ≤ 1000000 := by
        have := List.length_filter_le (fun x : PairS => belowB x.1 KK d) M
        have := HM.out
        unfold startM
        omega
      have hvs : ∀ x ∈ startM M KK d, x.2.size ≤ 1000 := fun x hx => by have := (HOK.out.1.1 x (List.mem_filter.1 hx).1).2; omega
      have HREF := Lib.hid (fun (w' : World) (q : wr.grownBy w' none) => refNode_any (128 - d) d _ (startM M KK d) w' (by omega) hln hal hvs (HPS.out.grown q))
      have HN1 := Lib.hid (HNODE.out KK HKS.out z)
      rw [HD.out] at HN1
      have hna : nodeN (128 - d) (startM M KK d) d = nodeAt M KK d := rfl
      rw [hna] at HREF
      have HG4 := Lib.hid (grownBy_trans HG3.out HG.out)
      have HJ := Lib.hid (fun (s0 s1 : ByteArray) (hd : d ≤ 15) (h0 : ∀ i, bitS s0 i = if i < d + 1 then (2 * bandN KK d + 0) / 2 ^ (d + 1 - 1 - i) % 2 else 0) (h1 : ∀ i, bitS s1 i = if i < d + 1 then (2 * bandN KK d + 1) / 2 ^ (d + 1 - 1 - i) % 2 else 0) => nodeAt_join (M := M) (k := KK) hd h0 h1)
      have HLT := Lib.hid (bandN_lt KK d)
      have hls : ∀ x : ByteArray, (x.toList == x.toList) = true := fun x => by simp
      have hlr := hls (nodeAt M KK d)
      obtain ⟨R, hR⟩ : ∃ R, nodeAt M KK d = R := ⟨_, rfl⟩
      rw [hR] at HREF hlr
      have HRR := Lib.hid hR
      clear hln hal hvs hna HO HG hin hls hR hi hlt
      go_wp2_with fail
      refine (HN1.out _ HG4.out).mono ?_
      rintro e w5 ⟨rfl, g5⟩
      rw [HRR.out]
      have HG5 := Lib.hid (And.intro g5 (grownBy_trans HG4.out g5))
      clear g5
      go_wp2_with fail
      refine (HREF.out _ HG5.out.1).mono ?_
      rintro e w6 ⟨rfl, g6⟩
      have HG6 := Lib.hid (grownBy_trans HG5.out.2 g6)
      clear g6 HREF HG5
      by_cases h15 : d ≤ 15
      · have dd : ¬ (15 : Int) < (d : Int) := by omega
        have hpow : 2 ^ d ≤ 2 ^ 15 := Nat.pow_le_pow_right (by decide) h15
        have hpow : 2 ^ d ≤ 32768 := hpow
        have hBL := HLT.out
        have HBD := Lib.hid (fun (w' : World) => band_any KK HKS.out d (by omega) w')
        obtain ⟨B, hB⟩ : ∃ B, bandN KK d = B := ⟨_, rfl⟩
        rw [hB] at HBD HJ hBL
        have b0 : (0 : Int) ≤ (B : Int) := by omega
        have b1 : (B : Int) ≤ 32768 := by omega
        have e0 : (0 : Int) ≤ (d : Int) := by omega
        have e1 : (d : Int) ≤ 15 := by omega
        have hp2 : 2 * B + 1 < 2 ^ (d + 1) := by rw [Nat.pow_succ]; omega
        have HF0 := Lib.hid (fun (w' : World) => first_int (2 * B + 0) (d + 1) (2 * (B : Int)) ((d : Int) + 1) (by omega) (by omega) (by omega) (by omega) w')
        have HF1 := Lib.hid (fun (w' : World) => first_int (2 * B + 1) (d + 1) (2 * (B : Int) + 1) ((d : Int) + 1) (by omega) (by omega) (by omega) hp2 w')
        have HNX := Lib.hid (fun (s : ByteArray) (hs : s.size ≤ maxLen) => HNODE.out s hs ((d : Int) + 1))
        rw [capD_next d h15] at HNX
        have HJ2 := Lib.hid (fun (s0 s1 : ByteArray) => HJ.out s0 s1 h15)
        have wd : IntKind.i64.wrap ((d : Int) + 1) = (d : Int) + 1 := wrap_i64_nat (d + 1) (by omega)
        have wb : IntKind.i64.wrap (2 * (B : Int)) = 2 * (B : Int) := wrap_i64_nat (2 * B) (by omega)
        have wb1 : IntKind.i64.wrap (2 * (B : Int) + 1) = 2 * (B : Int) + 1 := wrap_i64_nat (2 * B + 1) (by omega)
        clear hpow hBL hB hp2 HJ h15 HNODE HLT
        go_wp2_with fail
        refine (HBD.out _).mono ?_
        rintro e w7 ⟨rfl, g7⟩
        have HG7 := Lib.hid (grownBy_trans HG6.out g7)
        clear g7
        go_wp2_with fail
        refine (HF0.out _).mono ?_
        rintro e w8 ⟨s0, rfl, hs0, g8⟩
        have HS0 := Lib.hid hs0
        have HG8 := Lib.hid (grownBy_trans HG7.out g8)
        clear g8 hs0
        go_wp2_with fail
        refine (HNX.out s0 HS0.out.1 _ HG8.out).mono ?_
        rintro e w9 ⟨rfl, g9⟩
        have HG9 := Lib.hid (grownBy_trans HG8.out g9)
        clear g9
        have hz0 := nodeAt_size M s0 (d + 1)
        have HJ3 := Lib.hid (fun s1 => HJ2.out s0 s1 HS0.out.2)
        obtain ⟨R0, hR0⟩ : ∃ R0, nodeAt M s0 (d + 1) = R0 := ⟨_, rfl⟩
        rw [hR0] at hz0 HJ3 ⊢
        have HZ0 := Lib.hid hz0
        clear hz0 hR0 HJ2
        go_wp2_with fail
        refine (HF1.out _).mono ?_
        rintro e w10 ⟨s1, rfl, hs1, g10⟩
        have HS1 := Lib.hid hs1
        have HG10 := Lib.hid (grownBy_trans HG9.out g10)
        clear g10 hs1
        go_wp2_with fail
        refine (HNX.out s1 HS1.out.1 _ HG10.out).mono ?_
        rintro e w11 ⟨rfl, g11⟩
        have HG11 := Lib.hid (grownBy_trans HG10.out g11)
        clear g11
        have hz1 := nodeAt_size M s1 (d + 1)
        have hj := HJ3.out s1 HS1.out.2
        obtain ⟨R1, hR1⟩ : ∃ R1, nodeAt M s1 (d + 1) = R1 := ⟨_, rfl⟩
        rw [hR1] at hz1 hj ⊢
        rw [HRR.out] at hj
        have hjo := join_any R0 R1 (by have := HZ0.out; omega) (by omega) w11 (HR.out.grown (grownBy_trans HG2.out HG11.out))
        rw [hj] at hjo
        have HJO := Lib.hid hjo
        clear hz1 hj hR1 hjo
        go_wp2_with fail
        refine HJO.out.mono ?_
        rintro e w12 ⟨rfl, g12⟩
        have HG12 := Lib.hid (grownBy_trans HG11.out g12)
        clear g12
        go_wp2_with fail
        refine (HN1.out _ HG12.out).mono ?_
        rintro e w13 ⟨rfl, g13⟩
        rw [HRR.out]
        have HG13 := Lib.hid (grownBy_trans HG12.out g13)
        clear g13
        go_wp2_with fail
        go_ret
        exact ⟨rfl, below_grownBy (grownBy_trans HG2.out HG13.out)⟩
      · have dd : (15 : Int) < (d : Int) := by omega
        go_wp2_with fail
        go_ret
        exact ⟨rfl, below_grownBy (grownBy_trans HG2.out HG6.out)⟩
theorem smtNodes_ints (L : List PutS) (x : Option Addr) (n c : Nat) (a : Int) (ha : 0 ≤ a ∧ a ≤ 255) (z : Int) (hz : -9223372036854775808 ≤ z ∧ z ≤ 9223372036854775807) (w : World) (hr : ShaReady w) (hv : PutsAt w (.slice x n c) L) (hsz : ∀ p ∈ L, p.2.2.size ≤ maxLen) (hn : n ≤ maxLen) :
    Calls Tryd.prog 4 #[.slice x n c, .int .u8 a, .int .i64 z] w fun e w' => e = .returned (.bool true) ∧ Below w.heap.size w w' := by
  have h := smtNodes_walk L x n c (UInt8.ofNat a.toNat) z hz w hr hv hsz hn
  have e : ((UInt8.ofNat a.toNat).toNat : Int) = a := by
    rw [UInt8.toNat_ofNat_of_lt' (show a.toNat < 256 by omega)]
    omega
  rwa [e] at h
end Go.Proofs.YtbakhdbnfmoceaaDoor
