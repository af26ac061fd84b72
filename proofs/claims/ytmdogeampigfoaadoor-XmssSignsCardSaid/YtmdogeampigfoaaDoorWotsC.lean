/- The walks of wots.Sign, Recover. -/
import Derived.Test.YtmdogeampigfoaaDoorWotsB
namespace Go.Proofs.YtmdogeampigfoaaDoor
open Go.RowKit
attribute [local irreducible] shaL

theorem walkZ_to (o : ByteArray) (leaf c : Nat) (x : Int) (s : ByteArray) (h0 : 0 ≤ x) (h1 : x ≤ 15) : walkZ o leaf c 0 x s = walkS o leaf c 0 x.toNat s := by
  unfold walkZ
  rw [show (max (0 : Int) 0).toNat = 0 from rfl, show (min x 15 - max (0 : Int) 0).toNat = x.toNat from by omega]
theorem walkZ_from (o : ByteArray) (leaf c : Nat) (x : Int) (s : ByteArray) (h0 : 0 ≤ x) (h1 : x ≤ 15) : walkZ o leaf c x 15 s = walkS o leaf c x.toNat (15 - x).toNat s := by
  unfold walkZ
  rw [show max x 0 = x from by omega, show min (15 : Int) 15 = 15 from rfl]
theorem IntsAt.at_' {w : World} {a : Option Addr} {n cap : Nat} {L : List Int} (h : IntsAt w (.slice a n cap) L) (i : Nat) (x : Int) (hx : L[i]? = some x) : ∃ g o, a = some ⟨g, o, none⟩ ∧ w.cell? ⟨g, o + i, none⟩ = some (.int .i64 x) := by
  obtain ⟨a', cap', he, hc⟩ := h
  cases he
  obtain ⟨hi, rfl⟩ := List.getElem?_eq_some_iff.1 hx
  exact hc i hi

set_option maxHeartbeats 800000 in
set_option maxRecDepth 100000 in
theorem wsign_any (seed d : ByteArray) (leaf : Nat) (hs : seed.size ≤ 1000000000000) (hd : d.size = 16) (hl : leaf ≤ 4294967295) (w : World) (hr : ShaReady w) :
    Calls Tryd.prog 30 #[.string seed, .int .i64 leaf, .string d] w fun e w' => ∃ v, e = .returned (.tuple #[v, .int .i64 0]) ∧ StrsAt w' v (sigS seed leaf (digs d.data.toList) 35) ∧ w.grownBy w' none := by
  obtain ⟨i0, hi, hz0, hz1, hz2⟩ := info_parts infoStrW
  have HR := Lib.hid hr
  have hof := Lib.hid (of_ok d hd w)
  have hosz := openS_size seed
  have hdl : (digs d.data.toList).length = 35 := by rw [digs_length]; have : d.data.toList.length = 16 := hd; omega
  have hdb := digs_bd d.data.toList hd
  clear hr hd
  obtain ⟨D, hD⟩ : ∃ D, digs d.data.toList = D := ⟨_, rfl⟩
  rw [hD] at hof hdl hdb ⊢
  clear hD
  have HDL := Lib.hid hdl
  have HDB := Lib.hid hdb
  clear hdl hdb
  obtain ⟨o, hO⟩ : ∃ o, openS seed = o := ⟨_, rfl⟩
  rw [hO] at hosz
  have HO := Lib.hid hO
  clear hO
  go_enter Tryd.func30, Tryd.ntmps30
  go_wp2_with fail
  refine hof.out.mono ?_
  rintro e w0 ⟨v0, rfl, h0, g0⟩
  obtain ⟨a0, c0, rfl⟩ := (show ∃ a cap, v0 = .slice a D.length cap from let ⟨a, cap, h, _⟩ := h0; ⟨a, cap, h⟩)
  rw [HDL.out] at h0 ⊢
  have HI := Lib.hid h0
  have G0 := Lib.hid g0
  clear h0 g0 hof
  have hop := Lib.hid (wopen_any seed hs w0 (HR.out.grown G0.out))
  rw [HO.out] at hop
  go_wp2_with fail
  refine hop.out.mono ?_
  rintro e w1 ⟨rfl, g1⟩
  have G1 := Lib.hid (grownBy_trans G0.out g1)
  have HI1 := Lib.hid (HI.out.kept g1)
  clear g1 HI hop G0
  go_wp2_with (at_make; refine wpList_make_full _ rfl _ _ 22 rfl w.heap.size 9 i0 (.string ⟨#[]⟩) 1 Tryd.underlying22 hi hz0 hz1 _ _ _ _ 35 rfl rfl rfl rfl ?c1 ?c2 ?c3 ?_)
  case c1 => rw [hz2]; omega
  case c2 => unfold maxLen; omega
  case c3 => exact G1.out.size
  intro w2 hown hg
  have hm : (madeCells #[Value.string ⟨#[]⟩] 35).toList = strsV (fillS (sigS seed leaf D 0) 35) := made_strs 35
  rw [hm] at hown
  have HO2 := Lib.hid hown
  have G2 := Lib.hid hg
  clear hown hg hm
  obtain ⟨B, hB⟩ : ∃ B, w1.heap.size = B := ⟨_, rfl⟩
  rw [hB] at HO2 ⊢
  have hB1 : w1.heap.size ≤ B := by omega
  clear hB
  go_wp2_with fail
  go_loopw [12, 13, 29] (fun _ _ iv wr => ∃ k : Nat, k ≤ 35 ∧ iv = .int .i64 k ∧ Hid (wr.ownsRow w.heap.size 9 1 (.slice (some ⟨B, 0, none⟩) 35 35) 35 (strsV (fillS (sigS seed leaf D k) 35))) ∧ Hid (w1.grownBy wr none)) (fun _ _ iv _ => 35 - (intOf iv).toNat)
  case atStart => exact ⟨0, by omega, rfl, HO2.out, G2.out⟩
  case round =>
    clear HO2 G2
    obtain ⟨k, hk, rfl, HK, HG⟩ := hrel
    have HRr := Lib.hid (HR.out.grown (grownBy_trans G1.out HG.out))
    have HI := Lib.hid (HI1.out.kept HG.out)
    by_cases hlt : k < 35
    · obtain ⟨x, hx⟩ : ∃ x, D[k]? = some x := ⟨_, List.getElem?_eq_getElem (by rw [HDL.out]; exact hlt)⟩
      have hxb := HDB.out x (List.mem_of_getElem? hx)
      have hxd : D.getD k 0 = x := by rw [List.getD_eq_getElem?_getD, hx]; rfl
      obtain ⟨gi, oi, rfl, hcx⟩ := HI.out.at_' k x hx
      have HX := Lib.hid hxd
      clear hx hxd
      have hsec := Lib.hid (secret_any seed leaf k hs hl (by omega) wr HRr.out)
      have b1 : (0 : Int) ≤ (k : Int) := by omega
      go_wp2_with fail
      refine hsec.out.mono ?_
      rintro e w3 ⟨rfl, g3⟩
      have G3 := Lib.hid (grownBy_trans HG.out g3)
      have HK3 := Lib.hid (own_kept HK.out g3)
      have HR3 := Lib.hid (HRr.out.grown g3)
      clear g3 HK hsec HG HI hcx HRr
      have hwk := wwalk_any o (secretS seed leaf k) leaf k 0 x (by rw [hosz]; omega) (by rw [secretS_size]; omega) hl (by omega) (by omega) (by omega) w3 HR3.out
      rw [walkZ_to _ _ _ _ _ hxb.1 hxb.2] at hwk
      have HWK := Lib.hid hwk
      clear hwk
      go_wp2_with fail
      refine HWK.out.mono ?_
      rintro e w4 ⟨rfl, g4⟩
      have G4 := Lib.hid (grownBy_trans G3.out g4)
      have HK4 := Lib.hid (own_kept HK3.out g4)
      clear g4 HK3 HWK G3 HR3
      have hel := sigS_length seed leaf D k
      have hc := HK4.out.cellAt k (by omega)
      have hat := fillS_at (sigS seed leaf D k) 35 (by omega)
      have hput := fillS_put (sigS seed leaf D k) 35 (walkS o leaf k 0 x.toNat (secretS seed leaf k)) (by omega)
      rw [hel] at hat hput
      rw [hat] at hc
      have hf := HK4.out.frozenAt k
      have HP := Lib.hid hput
      have HE : Hid (sigS seed leaf D (k + 1) = sigS seed leaf D k ++ [walkS o leaf k 0 x.toNat (secretS seed leaf k)]) := by
        show _ = _
        rw [sigS, HO.out, HX.out]
      clear hat hput hel
      generalize walkS o leaf k 0 x.toNat (secretS seed leaf k) = S at HP HE ⊢
      go_wp2_with fail
      go_roundw
      case rel =>
        refine ⟨k + 1, by omega, by go_num, ?_, grownBy_setNew G4.out hB1 _ _⟩
        show World.ownsRow _ _ _ _ _ _ _
        rw [HE.out, ← HP.out]
        exact (HK4.out.stored _ _).1
      case measure => simp [intOf]; omega
    · have : k = 35 := by omega
      subst this
      have hown := HK.out
      rw [fillS_full _ 35 (sigS_length seed leaf D 35)] at hown
      have hst := Lib.hid (strs_own hown)
      clear hown HK
      go_wp2_with fail
      go_ret2
      exact ⟨_, rfl, hst.out, grownBy_trans G1.out HG.out⟩

set_option maxHeartbeats 400000 in
theorem isSig_any (v : Value) (L : List ByteArray) (hN : L.length = 35) (hs : ∀ s ∈ L, s.size = 16) (w : World) (hv : StrsAt w v L) :
    Calls Tryd.prog 34 #[v] w fun e w' => e = .returned (.bool true) ∧ w = w' := by
  obtain ⟨a, cap, rfl⟩ := hv.form
  have HV := Lib.hid hv
  have HN := Lib.hid hN
  have HS := Lib.hid hs
  rw [hN] at HV ⊢
  clear hv hN hs
  go_enter Tryd.func34, Tryd.ntmps34
  go_wp2_with fail
  go_loop [4, 10] (fun _ iv => ∃ k : Nat, k ≤ 35 ∧ iv = .int .i64 k) (fun _ iv => 35 - (intOf iv).toNat)
  case atStart => exact ⟨0, by omega, rfl⟩
  case round =>
    obtain ⟨k, hk, rfl⟩ := hrel
    by_cases hlt : k < 35
    · obtain ⟨x, hx⟩ : ∃ x, L[k]? = some x := ⟨_, List.getElem?_eq_getElem (by rw [HN.out]; exact hlt)⟩
      have hxs := HS.out x (List.mem_of_getElem? hx)
      obtain ⟨g, o, rfl, hc⟩ := HV.out.at_ k x hx
      have hb : ((x.size : Int) != 16) = false := by simp; omega
      have hle : x.size ≤ 16 := by omega
      have b1 : (0 : Int) ≤ (k : Int) := by omega
      clear hx hxs
      go_wp2_with fail
      go_round
      case rel => exact ⟨k + 1, by omega, by go_num⟩
      case measure => simp [intOf]; omega
    · go_wp2_with fail
      go_ret
      exact ⟨rfl, rfl⟩

set_option maxHeartbeats 800000 in
set_option maxRecDepth 100000 in
theorem wrecover_any (o d : ByteArray) (leaf : Nat) (v : Value) (L : List ByteArray) (ho : o.size ≤ 1000000000000) (hd : d.size = 16) (hl : leaf ≤ 4294967295) (hN : L.length = 35) (hs : ∀ s ∈ L, s.size = 16) (w : World) (hv : StrsAt w v L) (hr : ShaReady w) :
    Calls Tryd.prog 21 #[.string o, .int .i64 leaf, .string d, v] w fun e w' => e = .returned (.tuple #[.string (publicOfS o leaf (recS o leaf (digs d.data.toList) L 35)), .int .i64 0]) ∧ w.grownBy w' none := by
  obtain ⟨i0, hi, hz0, hz1, hz2⟩ := info_parts infoStrW
  have HR := Lib.hid hr
  have HV := Lib.hid hv
  have HN := Lib.hid hN
  have HS := Lib.hid hs
  have hof := Lib.hid (of_ok d hd w)
  have hdl : (digs d.data.toList).length = 35 := by rw [digs_length]; have : d.data.toList.length = 16 := hd; omega
  have hdb := digs_bd d.data.toList hd
  obtain ⟨av, cv, rfl⟩ := hv.form
  rw [hN] at HV ⊢
  clear hr hd hv hN hs
  obtain ⟨D, hD⟩ : ∃ D, digs d.data.toList = D := ⟨_, rfl⟩
  rw [hD] at hof hdl hdb ⊢
  clear hD
  have HDL := Lib.hid hdl
  have HDB := Lib.hid hdb
  clear hdl hdb
  go_enter Tryd.func21, Tryd.ntmps21
  go_wp2_with fail
  refine hof.out.mono ?_
  rintro e w0 ⟨v0, rfl, h0, g0⟩
  obtain ⟨a0, c0, rfl⟩ := (show ∃ a cap, v0 = .slice a D.length cap from let ⟨a, cap, h, _⟩ := h0; ⟨a, cap, h⟩)
  rw [HDL.out] at h0 ⊢
  have HI := Lib.hid h0
  have G0 := Lib.hid g0
  have HV0 := Lib.hid (HV.out.grown g0)
  clear h0 g0 hof HV
  go_wp2_with fail
  refine (isSig_any _ L HN.out HS.out w0 HV0.out).mono ?_
  rintro e w' ⟨rfl, rfl⟩
  go_wp2_with (at_make; refine wpList_make_full _ rfl _ _ 22 rfl w.heap.size 9 i0 (.string ⟨#[]⟩) 1 Tryd.underlying22 hi hz0 hz1 _ _ _ _ 35 rfl rfl rfl rfl ?c1 ?c2 ?c3 ?_)
  case c1 => rw [hz2]; omega
  case c2 => unfold maxLen; omega
  case c3 => exact G0.out.size
  intro w2 hown hg
  have hm : (madeCells #[Value.string ⟨#[]⟩] 35).toList = strsV (fillS (recS o leaf D L 0) 35) := made_strs 35
  rw [hm] at hown
  have HO2 := Lib.hid hown
  have G2 := Lib.hid hg
  clear hown hg hm
  obtain ⟨B, hB⟩ : ∃ B, w0.heap.size = B := ⟨_, rfl⟩
  rw [hB] at HO2 ⊢
  have hB1 : w0.heap.size ≤ B := by omega
  clear hB
  go_wp2_with fail
  go_loopw [13, 14, 31] (fun _ _ iv wr => ∃ k : Nat, k ≤ 35 ∧ iv = .int .i64 k ∧ Hid (wr.ownsRow w.heap.size 9 1 (.slice (some ⟨B, 0, none⟩) 35 35) 35 (strsV (fillS (recS o leaf D L k) 35))) ∧ Hid (w0.grownBy wr none)) (fun _ _ iv _ => 35 - (intOf iv).toNat)
  case atStart => exact ⟨0, by omega, rfl, HO2.out, G2.out⟩
  case round =>
    clear HO2 G2
    obtain ⟨k, hk, rfl, HK, HG⟩ := hrel
    have HRr := Lib.hid (HR.out.grown (grownBy_trans G0.out HG.out))
    have HIr := Lib.hid (HI.out.kept HG.out)
    have HVr := Lib.hid (HV0.out.grown HG.out)
    by_cases hlt : k < 35
    · obtain ⟨x, hx⟩ : ∃ x, D[k]? = some x := ⟨_, List.getElem?_eq_getElem (by rw [HDL.out]; exact hlt)⟩
      have hxb := HDB.out x (List.mem_of_getElem? hx)
      have hxd : D.getD k 0 = x := by rw [List.getD_eq_getElem?_getD, hx]; rfl
      obtain ⟨gi, oi, rfl, hcx⟩ := HIr.out.at_' k x hx
      obtain ⟨y, hy⟩ : ∃ y, L[k]? = some y := ⟨_, List.getElem?_eq_getElem (by rw [HN.out]; exact hlt)⟩
      have hyb := HS.out y (List.mem_of_getElem? hy)
      have hyd : L.getD k ByteArray.empty = y := by rw [List.getD_eq_getElem?_getD, hy]; rfl
      obtain ⟨gv, ov, rfl, hcy⟩ := HVr.out.at_ k y hy
      have HX := Lib.hid (And.intro hxd hyd)
      clear hx hxd hy hyd
      have hwk := wwalk_any o y leaf k x 15 ho (by omega) hl (by omega) (by omega) (by omega) wr HRr.out
      rw [walkZ_from _ _ _ _ _ hxb.1 hxb.2] at hwk
      have HWK := Lib.hid hwk
      clear hwk hyb
      have b1 : (0 : Int) ≤ (k : Int) := by omega
      go_wp2_with fail
      refine HWK.out.mono ?_
      rintro e w4 ⟨rfl, g4⟩
      have G4 := Lib.hid (grownBy_trans HG.out g4)
      have HK4 := Lib.hid (own_kept HK.out g4)
      clear g4 HK HWK HG HRr HIr HVr hcx hcy
      have hel := recS_length o leaf D L k
      have hc := HK4.out.cellAt k (by omega)
      have hat := fillS_at (recS o leaf D L k) 35 (by omega)
      have hput := fillS_put (recS o leaf D L k) 35 (walkS o leaf k x.toNat (15 - x).toNat y) (by omega)
      rw [hel] at hat hput
      rw [hat] at hc
      have hf := HK4.out.frozenAt k
      have HP := Lib.hid hput
      have HE : Hid (recS o leaf D L (k + 1) = recS o leaf D L k ++ [walkS o leaf k x.toNat (15 - x).toNat y]) := by
        show _ = _
        rw [recS, HX.out.1, HX.out.2]
      clear hat hput hel
      generalize walkS o leaf k x.toNat (15 - x).toNat y = S at HP HE ⊢
      go_wp2_with fail
      go_roundw
      case rel =>
        refine ⟨k + 1, by omega, by go_num, ?_, grownBy_setNew G4.out hB1 _ _⟩
        show World.ownsRow _ _ _ _ _ _ _
        rw [HE.out, ← HP.out]
        exact (HK4.out.stored _ _).1
      case measure => simp [intOf]; omega
    · have : k = 35 := by omega
      subst this
      have hown := HK.out
      rw [fillS_full _ 35 (recS_length o leaf D L 35)] at hown
      have hst := strs_own hown
      have hpo := Lib.hid (publicOf_any o leaf _ (recS o leaf D L 35) ho hl (by rw [recS_length]; omega) (by rw [recS_length]; omega) (fun s h => by rw [recS_all o leaf D L HS.out 35 (by rw [HN.out]; omega) s h]; omega) wr hst HRr.out)
      clear hown hst HK
      go_wp2_with fail
      refine hpo.out.mono ?_
      rintro e w3 ⟨rfl, g3⟩
      have G3 := Lib.hid (grownBy_trans G0.out (grownBy_trans HG.out g3))
      clear g3
      go_wp2_with fail
      go_ret2
      exact ⟨rfl, G3.out⟩
end Go.Proofs.YtmdogeampigfoaaDoor
