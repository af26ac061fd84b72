/- The walk of the law ProofCodes. -/
import Derived.Test.YtheabbknflmnfaaDoorPrfCod
namespace Go.Proofs.YtheabbknflmnfaaDoor
open Go.RowKit Go.Maps
attribute [local irreducible] shaL

theorem puts_grownC {w w' : World} {x : Option Addr} {n c : Nat} {L : List PutS} (h : PutsAt w (.slice x n c) L) (g : w.grownBy w' none) : PutsAt w' (.slice x n c) L := by
  obtain ⟨a', cap', e, hc⟩ := h
  refine ⟨a', cap', e, fun i hi => ?_⟩
  obtain ⟨g', o, e2, h1, h2, h3⟩ := hc i hi
  exact ⟨g', o, e2, g.cell h1 (by simp), g.cell h2 (by simp), g.cell h3 (by simp)⟩
theorem startM_zeroC (M : List PairS) (s : ByteArray) : nodeAt M s 0 = nodeN 128 M 0 := by unfold nodeAt; rw [startM_zero]
def cut100 (s : ByteArray) : ByteArray := s.extract 0 (min s.size 100)
theorem cut100_size (s : ByteArray) : (cut100 s).size ≤ 100 := by
  unfold cut100
  rw [ByteArray.size_extract]
  omega
theorem cut100_eq (s : ByteArray) : s.extract 0 (min (s.size : Int) 100).toNat = cut100 s := by
  unfold cut100
  congr 1
  omega
theorem eq_self (s : ByteArray) : (s.toList == s.toList) = true := by simp
def shortT : ByteArray := ⟨#[115, 104, 111, 114, 116]⟩
set_option maxRecDepth 100000 in
set_option maxHeartbeats 8000000 in
theorem proofCodes_walk (L : List PutS) (x : Option Addr) (n c : Nat) (a b : UInt8) (J : ByteArray) (hJ : J.size ≤ maxLen) (w : World) (hr : ShaReady w) (hv : PutsAt w (.slice x n c) L) (hsz : ∀ p ∈ L, p.2.2.size ≤ maxLen) (hn : n ≤ maxLen) :
    Calls Tryd.prog 6 #[.slice x n c, .agg #[.int .u8 a.toNat, .int .u8 b.toNat], .string J] w fun e w' => e = .returned (.bool true) ∧ Below w.heap.size w w' := by
  have hb0 := heap_alloc_at w (.cells #[.int .u8 a.toNat, .int .u8 b.toNat] 30) _ rfl
  have hg0 : w.grownBy (w.alloc (.cells #[.int .u8 a.toNat, .int .u8 b.toNat] 30)) none := World.grownBy_alloc _ _ _
  have HSP := Lib.hid (prf_speaks _ (hr.grown hg0))
  have HV := Lib.hid (And.intro (puts_grownC hv hg0) (And.intro hsz hn))
  have HR := Lib.hid hr
  have HKEY := Lib.hid (fun (w' : World) => key14_any a b w')
  have hks := keyS14_size a b
  generalize keyS14 a b = K at HKEY hks
  have HKS := Lib.hid hks
  unfold maxLen at hJ
  clear hr hv hsz hn hks
  go_enter Tryd.func6, Tryd.ntmps6
  go_wp2_with fail
  refine HSP.out.mono ?_
  rintro e w1 ⟨rfl, g1⟩
  have HB := Lib.hid (both_any w1 x n c L (puts_grownC HV.out.1 g1) HV.out.2.1 HV.out.2.2)
  have hb1 := g1.heap hb0 (by simp)
  have hg1 := grownBy_trans hg0 g1
  obtain ⟨BX, hBX⟩ : ∃ BX, w.heap.size = BX := ⟨_, rfl⟩
  rw [hBX] at hb1 ⊢
  have H1 := Lib.hid (And.intro hg1 hb1)
  clear hb0 hg0 g1 hb1 hg1 hBX HSP HV
  go_wp2_with fail
  refine HB.out.mono ?_
  rintro e w2 ⟨mv, tb, rfl, hPA, hT, g2⟩
  have hok := bothM_ok (L.take 12) (List.length_take_le 12 L)
  generalize bothM (L.take 12) = M at hPA hT hok
  have hP := plain_of hok.1 hok.2
  obtain ⟨ma, mc, rfl, hmc, hmm, hcells⟩ := hPA
  have hvs : ∀ y ∈ M, y.2.size ≤ 1000 := fun y hy => by have := (hok.1 y hy).2; omega
  have hc2 := g2.heap H1.out.2 (by simp)
  have ca : w2.cell? ⟨BX, 0, none⟩ = some (.int .u8 a.toNat) := by rw [cell_of hc2]; rfl
  have cb : w2.cell? ⟨BX, 1, none⟩ = some (.int .u8 b.toNat) := by rw [cell_of hc2]; rfl
  obtain ⟨N0, hN0⟩ : ∃ N0, w1.heap.size = N0 := ⟨_, rfl⟩
  rw [hN0] at hT
  have HG2 := Lib.hid (And.intro (grownBy_trans H1.out.1 g2) hc2)
  have HT := Lib.hid hT
  have HP := Lib.hid (And.intro hP hvs)
  clear hcells hmm hT hP hvs g2 HB hc2 hN0 hok
  go_wp2_with fail
  refine (HKEY.out _).mono ?_
  rintro e w3 ⟨rfl, g3⟩
  have G3 := Lib.hid (And.intro (grownBy_trans HG2.out.1 g3) (g3.heap HG2.out.2 (by simp)))
  have hT3 := HT.out.grown g3
  have HPR := Lib.hid (prove_own N0 _ w3 tb M K 0 hT3 HP.out.1 HP.out.2 HKS.out (Nat.zero_le _) (HR.out.grown G3.out.1))
  have HRO := Lib.hid (fun (w' : World) (q : w3.grownBy w' none) => troot_any N0 _ w' tb M (hT3.grown q) HP.out.1 (HR.out.grown (grownBy_trans G3.out.1 q)))
  have HPO := Lib.hid (fun (w' : World) => prove_out (.pointer (some ⟨tb, 0, none⟩)) shortT (by unfold maxLen; decide) 0 w' (Or.inl (by decide)))
  have hone := hT3.one
  have HONE := Lib.hid hone
  clear g3 ca cb HT hT3 hone
  go_wp2_with fail
  refine HPR.out.mono ?_
  rintro e w4 ⟨b4, rfl, ho4, g4⟩
  obtain ⟨a4, q4, rfl⟩ := ho4.form
  have hsz := rest_size HP.out.1 K 0 (Nat.zero_le _) HP.out.2
  have hws := way_small M K 0
  have hwl := wayT_len M K 0 (Nat.zero_le _)
  have hEN := fun (w' : World) (q : w4.grownBy w' none) => encode_any a4 q4 (wayT M K 0) (decide (restT M K 0 ≠ [])) (keyOf (restT M K 0)) (valOf (restT M K 0)) w' (strs_grown ho4.strs q) (by omega) (fun s hs => by have := hws s hs; omega) (by have := hsz.1; omega) (by have := hsz.2; omega)
  have hDE := fun (w' : World) => decode_own (wayT M K 0) (decide (restT M K 0 ≠ [])) (keyOf (restT M K 0)) (valOf (restT M K 0)) (by omega) (fun s hs => by have := hws s hs; omega) (by have := hsz.1; omega) (by have := hsz.2; omega) w'
  have hND := fun (bv : Value) (w' : World) (h : OwnP w' bv M K 0) => h.node
  obtain ⟨t0, ht0⟩ : ∃ t, decide (restT M K 0 ≠ []) = t := ⟨_, rfl⟩
  obtain ⟨k0, hk0⟩ : ∃ k, keyOf (restT M K 0) = k := ⟨_, rfl⟩
  obtain ⟨y0, hy0⟩ : ∃ y, valOf (restT M K 0) = y := ⟨_, rfl⟩
  obtain ⟨lp, hlp⟩ : ∃ l, (wayT M K 0).length = l := ⟨_, rfl⟩
  rw [startM_zeroC] at hND
  rw [ht0, hk0, hy0, hlp] at hEN
  rw [ht0, hk0, hy0, hlp] at hDE
  rw [ht0, hk0, hy0] at hND
  rw [ht0, hk0, hy0, hlp]
  rw [hlp] at ho4
  obtain ⟨SB, hSB⟩ : ∃ s, str (encB (wayT M K 0) t0 k0 y0) = s := ⟨_, rfl⟩
  rw [hSB] at hEN hDE
  obtain ⟨RT, hRT⟩ : ∃ s, nodeN 128 M 0 = s := ⟨_, rfl⟩
  rw [hRT] at hND HRO
  have HEN := Lib.hid hEN
  have HDE := Lib.hid hDE
  have HND : Hid (∀ (bv : Value) (w' : World), OwnP w' bv M K 0 → Calls Tryd.prog 30 #[.agg #[bv, .bool t0, .string k0, .string y0], .string K, .int .i64 0] w' fun e w'' => e = .returned (.string RT) ∧ w'.grownBy w'' none) := Lib.hid hND
  have HLP := Lib.hid hlp
  have hp5 := ProofIn.new w4 (.slice a4 lp q4) t0 k0 y0
  have hg5 : w4.grownBy (w4.alloc (.cells #[.slice a4 lp q4, .bool t0, .string k0, .string y0] 51)) none := World.grownBy_alloc _ _ _
  clear ht0 hk0 hy0 hlp hEN hDE hND hSB hRT hsz hws hwl HPR
  go_wp2_with fail
  obtain ⟨W5, hW5⟩ : ∃ W5, w4.alloc (.cells #[.slice a4 lp q4, .bool t0, .string k0, .string y0] 51) = W5 := ⟨_, rfl⟩
  rw [hW5] at hp5 hg5 ⊢
  obtain ⟨P, hP⟩ : ∃ P, w4.heap.size = P := ⟨_, rfl⟩
  rw [hP] at hp5 ⊢
  have H5 := Lib.hid (And.intro hp5 (And.intro (grownBy_trans g4 hg5) hg5))
  clear hp5 hW5 hP g4
  refine (HEN.out W5 hg5).mono ?_
  rintro e w6 ⟨rfl, g6⟩
  have H6 := Lib.hid (And.intro (H5.out.1.grown g6) (grownBy_trans H5.out.2.1 g6))
  clear hg5 g6 H5 HEN ho4
  go_wp2_with fail
  refine (HDE.out w6).mono ?_
  rintro e w7 ⟨b7, rfl, ho7, g7⟩
  obtain ⟨a7, q7, rfl⟩ := slice_own' ho7
  have hoq : OwnP w7 (.slice a7 lp q7) M K 0 := ⟨⟨_, by rw [HLP.out]; exact ho7⟩, HR.out.grown (grownBy_trans G3.out.1 (grownBy_trans H6.out.2 g7)), HP.out.1, HP.out.2, HONE.out, HKS.out, Nat.zero_le _⟩
  have hp8 := ProofIn.new w7 (.slice a7 lp q7) t0 k0 y0
  have hg8 : w7.grownBy (w7.alloc (.cells #[.slice a7 lp q7, .bool t0, .string k0, .string y0] 51)) none := World.grownBy_alloc _ _ _
  obtain ⟨W, hW⟩ : ∃ W, w7.alloc (.cells #[.slice a7 lp q7, .bool t0, .string k0, .string y0] 51) = W := ⟨_, rfl⟩
  rw [hW] at hp8 hg8
  have HW := Lib.hid hW
  obtain ⟨Q, hQ⟩ : ∃ Q, w7.heap.size = Q := ⟨_, rfl⟩
  rw [hQ] at hp8
  have HQ := Lib.hid hQ
  have hgW := grownBy_trans H6.out.2 (grownBy_trans g7 hg8)
  have hpW := H6.out.1.grown (grownBy_trans g7 hg8)
  have hbx := hgW.heap G3.out.2 (by simp)
  have ca : W.cell? ⟨BX, 0, none⟩ = some (.int .u8 a.toNat) := by rw [cell_of hbx]; rfl
  have cb : W.cell? ⟨BX, 1, none⟩ = some (.int .u8 b.toNat) := by rw [cell_of hbx]; rfl
  have cp := hpW.cells
  have cq := hp8.cells
  have HWW := Lib.hid (And.intro hgW (And.intro hpW (And.intro hp8 (hoq.grown hg8))))
  have HS : Hid (∀ w', W.grownBy w' none → W.grownBy w' none ∧ (w'.cell? ⟨BX, 0, none⟩ = some (.int .u8 a.toNat) ∧ w'.cell? ⟨BX, 1, none⟩ = some (.int .u8 b.toNat)) ∧ (w'.cell? ⟨P, 0, none⟩ = some (.slice a4 lp q4) ∧ w'.cell? ⟨P, 1, none⟩ = some (.bool t0) ∧ w'.cell? ⟨P, 2, none⟩ = some (.string k0) ∧ w'.cell? ⟨P, 3, none⟩ = some (.string y0)) ∧ (w'.cell? ⟨Q, 0, none⟩ = some (.slice a7 lp q7) ∧ w'.cell? ⟨Q, 1, none⟩ = some (.bool t0) ∧ w'.cell? ⟨Q, 2, none⟩ = some (.string k0) ∧ w'.cell? ⟨Q, 3, none⟩ = some (.string y0))) := fun w' g => ⟨g, ⟨g.cell ca (by simp), g.cell cb (by simp)⟩, ⟨g.cell cp.1 (by simp), g.cell cp.2.1 (by simp), g.cell cp.2.2.1 (by simp), g.cell cp.2.2.2 (by simp)⟩, ⟨g.cell cq.1 (by simp), g.cell cq.2.1 (by simp), g.cell cq.2.2.1 (by simp), g.cell cq.2.2.2 (by simp)⟩⟩
  have k1 := eq_self k0
  have k2 := eq_self y0
  have k3 := eq_self RT
  have hll : ((lp : Int) != (lp : Int)) = false := by simp
  have gk := grownBy_drew (World.grownBy.refl W none)
  clear hoq hp8 hg8 hW hQ hgW hpW hbx ca cb cp cq ho7 g7 H6 HDE
  go_wp2_with (rw [HW.out])
  rw [HQ.out]
  have ht0 : (t0 != t0) = false := by simp
  go_region_held3 (fun w' => W.grownBy w' none ∧ (w'.cell? ⟨BX, 0, none⟩ = some (.int .u8 a.toNat) ∧ w'.cell? ⟨BX, 1, none⟩ = some (.int .u8 b.toNat)) ∧ (w'.cell? ⟨P, 0, none⟩ = some (.slice a4 lp q4) ∧ w'.cell? ⟨P, 1, none⟩ = some (.bool t0) ∧ w'.cell? ⟨P, 2, none⟩ = some (.string k0) ∧ w'.cell? ⟨P, 3, none⟩ = some (.string y0)) ∧ (w'.cell? ⟨Q, 0, none⟩ = some (.slice a7 lp q7) ∧ w'.cell? ⟨Q, 1, none⟩ = some (.bool t0) ∧ w'.cell? ⟨Q, 2, none⟩ = some (.string k0) ∧ w'.cell? ⟨Q, 3, none⟩ = some (.string y0))) (exact HS.out _ gk)
    (first
      | (go_at_call 24; (with_reducible refine (HKEY.out _).mono ?_); rintro e w9 ⟨rfl, g9⟩; have gk := grownBy_trans gk g9; clear g9)
      | (go_at_call 30; (with_reducible refine (HND.out _ _ (HWW.out.2.2.2.grown gk)).mono ?_); rintro e w9 ⟨rfl, g9⟩; have gk := grownBy_trans gk g9; clear g9)
      | (go_at_call 21; (with_reducible refine (HRO.out _ (grownBy_trans HWW.out.1 gk)).mono ?_); rintro e w9 ⟨rfl, g9⟩; have gk := grownBy_trans gk g9; clear g9))
  have GK := Lib.hid gk
  clear gk
  go_wp2_with fail
  have hz1 : (0 : Int) ≤ min (J.size : Int) 100 := by omega
  have hz2 : min (J.size : Int) 100 ≤ (J.size : Int) := by omega
  have HCU := Lib.hid (cut100_eq J)
  have hcj := cut100_size J
  rw [HCU.out]
  obtain ⟨j, hj⟩ : ∃ j, cut100 J = j := ⟨_, rfl⟩
  rw [hj] at hcj ⊢
  have hbound : j.size ≤ 1000000000 := by omega
  have hjj := eq_self j
  have hPP := HWW.out.2.1.grown GK.out
  have HPP := Lib.hid hPP
  have HGW := Lib.hid (grownBy_trans G3.out.1 (grownBy_trans HWW.out.1 GK.out))
  have hsh : shortT.size ≠ 16 := by decide
  have HGS := Lib.hid (fun (w' : World) => good_short (.slice a4 lp q4) t0 k0 y0 shortT 0 w' hsh)
  have HAS := Lib.hid (fun (w' : World) => after_short a4 lp q4 t0 k0 y0 shortT ⟨#[]⟩ w' hsh (fun w'' => good_short (.slice a4 lp q4) t0 k0 y0 shortT 0 w'' hsh))
  have HNS := Lib.hid (fun (w' : World) => node_short a4 lp q4 t0 k0 y0 shortT w' hsh (fun w'' => good_short (.slice a4 lp q4) t0 k0 y0 shortT 0 w'' hsh))
  clear hj HCU hz1 hz2 hcj hPP k1 k2 k3 hll ht0 HND HRO HS HWW HKEY hJ hsh GK
  refine (decode_any j hbound w9).mono ?_
  rintro e w10 ⟨hpost, g10⟩
  have hcase : (∃ z : Int, (z = 2 ∨ z = 3 ∨ z = 4) ∧ e = .returned (.tuple #[.agg #[.slice none 0 0, .bool false, .string ⟨#[]⟩, .string ⟨#[]⟩], .int .i64 z])) ∨ (∃ (bv : Value) (L' : List ByteArray) (t' : Bool) (k' y' : ByteArray), e = .returned (.tuple #[.agg #[bv, .bool t', .string k', .string y'], .int .i64 0]) ∧ (L'.length ≤ 128 ∧ (∀ x ∈ L', x.size ≤ 4096) ∧ k'.size ≤ 4096 ∧ y'.size ≤ 4096 ∧ str (encB L' t' k' y') = j) ∧ w10.ownsRow w9.heap.size 9 1 bv L'.length (strsV L')) := by
    have hcodes := dec_codes j
    rcases hpost with ⟨h1, h2⟩ | ⟨_, _, h2⟩ | ⟨h1, h2, h3, bv, h4, h5⟩
    · refine Or.inl ⟨_, ?_, h2⟩
      unfold RSt.done at h1 ⊢
      split
      · exact Or.inl rfl
      · rename_i hn
        rw [if_neg hn] at h1
        rcases hcodes with q | q | q
        · exact absurd q h1
        · exact Or.inr (Or.inl q)
        · exact Or.inr (Or.inr q)
    · exact Or.inl ⟨4, Or.inr (Or.inr rfl), h2⟩
    · have herr : (decS j).s.err = 0 ∧ (decS j).s.rest.size = 0 := by
        unfold RSt.done at h1
        split at h1
        · cases h1
        · rename_i hn
          refine ⟨h1, ?_⟩
          rcases Nat.eq_zero_or_pos (decS j).s.rest.size with q | q
          · exact q
          · exact absurd ⟨h1, by omega⟩ hn
      have he := enc_dec j herr.1 herr.2 h3
      exact Or.inr ⟨bv, _, _, _, _, h4, ⟨h2, he.2.1, he.2.2.1, he.2.2.2.1, he.2.2.2.2⟩, h5⟩
  have G10 := Lib.hid g10
  clear hpost g10
  rcases hcase with ⟨z, hz, rfl⟩ | ⟨bv, L', t', k', y', rfl, hL', ho'⟩
  · have HENC := Lib.hid (fun (w' : World) => encode_any none 0 [] false ⟨#[]⟩ ⟨#[]⟩ w' ⟨none, 0, rfl, fun i hi => absurd hi (Nat.not_lt_zero i)⟩ (Nat.zero_le _) (fun x hx => by cases hx) (Nat.zero_le _) (Nat.zero_le _))
    have hg11 : w10.grownBy (w10.alloc (.cells #[.slice none 0 0, .bool false, .string ⟨#[]⟩, .string ⟨#[]⟩] 51)) none := World.grownBy_alloc _ _ _
    have hp11 := ProofIn.new w10 (.slice none 0 0) false ⟨#[]⟩ ⟨#[]⟩
    have HX11 := Lib.hid (And.intro hg11 hp11)
    clear hg11 hp11
    rcases hz with rfl | rfl | rfl
    all_goals
      go_wp2_with fail
      refine (HENC.out _).mono ?_
      rintro e w11 ⟨rfl, g11⟩
      have HG11 := Lib.hid (grownBy_trans HGW.out (grownBy_trans G10.out (grownBy_trans HX11.out.1 g11)))
      obtain ⟨z0, z1, z2, z3⟩ := (HX11.out.2.grown g11).cells
      clear g11
      go_wp2_with fail
      go_ret
      exact ⟨rfl, below_grownBy HG11.out⟩
  · obtain ⟨a', c', rfl⟩ := slice_own' ho'
    have hst := strs_own ho'
    have hEN' := fun (w' : World) (q : w10.grownBy w' none) => encode_any a' c' L' t' k' y' w' (strs_grown hst q) hL'.1 hL'.2.1 hL'.2.2.1 hL'.2.2.2.1
    rw [hL'.2.2.2.2] at hEN'
    obtain ⟨ln, hln⟩ : ∃ l, L'.length = l := ⟨_, rfl⟩
    rw [hln] at hEN' ⊢
    have HEN' := Lib.hid hEN'
    have hg11 : w10.grownBy (w10.alloc (.cells #[.slice a' ln c', .bool t', .string k', .string y'] 51)) none := World.grownBy_alloc _ _ _
    have HX11 := Lib.hid hg11
    have HPW := Lib.hid (HPP.out.grown (grownBy_trans G10.out hg11))
    clear hg11 hL' ho' hst hEN' hln
    go_wp2_with fail
    refine (HEN'.out _ HX11.out).mono ?_
    rintro e w11 ⟨rfl, g11⟩
    have HG11 := Lib.hid (And.intro (grownBy_trans HGW.out (grownBy_trans G10.out (grownBy_trans HX11.out g11))) (HPW.out.grown g11))
    clear g11
    go_wp2_with fail
    refine (HPO.out _).mono ?_
    rintro e w12 ⟨rfl, g12⟩
    have hg13 : w12.grownBy (w12.alloc (.cells #[.slice none 0 0, .bool false, .string ⟨#[]⟩, .string ⟨#[]⟩] 51)) none := World.grownBy_alloc _ _ _
    have HG13 := Lib.hid (And.intro (grownBy_trans HG11.out.1 (grownBy_trans g12 hg13)) (HG11.out.2.grown (grownBy_trans g12 hg13)))
    obtain ⟨p0, p1, p2, p3⟩ := HG13.out.2.cells
    obtain ⟨p0', p1', p2', p3'⟩ := (HG11.out.2.grown g12).cells
    have hne0 := World.new_ne w12 ⟨P, 0, none⟩ p0'
    have hne1 := World.new_ne w12 ⟨P, 1, none⟩ p1'
    have hne2 := World.new_ne w12 ⟨P, 2, none⟩ p2'
    have hne3 := World.new_ne w12 ⟨P, 3, none⟩ p3'
    clear g12 hg13
    go_wp2_with fail
    refine (HAS.out _).mono ?_
    rintro e w14 ⟨rfl, g14⟩
    have HG14 := Lib.hid (And.intro (grownBy_trans HG13.out.1 g14) (HG13.out.2.grown g14))
    clear g14 p0 p1 p2 p3 p0' p1' p2' p3' hne0 hne1 hne2 hne3
    obtain ⟨p0, p1, p2, p3⟩ := HG14.out.2.cells
    go_wp2_with fail
    refine (HNS.out _).mono ?_
    rintro e w15 ⟨rfl, g15⟩
    have HG15 := Lib.hid (And.intro (grownBy_trans HG14.out.1 g15) (HG14.out.2.grown g15))
    clear g15 p0 p1 p2 p3
    obtain ⟨p0, p1, p2, p3⟩ := HG15.out.2.cells
    have hnil : ((⟨#[]⟩ : ByteArray).toList == []) = true := by rw [ByteArray.toList_eq]; rfl
    go_wp2_with fail
    refine (HGS.out _).mono ?_
    rintro e w16 ⟨rfl, g16⟩
    have HG16 := Lib.hid (grownBy_trans HG15.out.1 g16)
    clear g16 p0 p1 p2 p3
    go_wp2_with fail
    go_ret
    exact ⟨rfl, below_grownBy HG16.out⟩
theorem proofCodes_ints (L : List PutS) (x : Option Addr) (n c : Nat) (la : List UInt8) (hl : la.length = 2) (J : ByteArray) (hJ : J.size ≤ maxLen) (w : World) (hr : ShaReady w) (hv : PutsAt w (.slice x n c) L) (hsz : ∀ p ∈ L, p.2.2.size ≤ maxLen) (hn : n ≤ maxLen) :
    Calls Tryd.prog 6 #[.slice x n c, .agg (bytesV la).toArray, .string J] w fun e w' => e = .returned (.bool true) ∧ Below w.heap.size w w' := by
  match la, hl with
  | [a, b], _ => exact proofCodes_walk L x n c a b J hJ w hr hv hsz hn
end Go.Proofs.YtheabbknflmnfaaDoor
