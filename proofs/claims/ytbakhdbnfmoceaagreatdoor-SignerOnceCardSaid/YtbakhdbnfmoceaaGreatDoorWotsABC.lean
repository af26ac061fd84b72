/- The walks of wots' places, secrets, walks. · The walks of wots.Public, Sign, Recover. · The walks of wots.Sign, Recover. -/
import Derived.Test.YtbakhdbnfmoceaaGreatDoorWotsSpec
import Derived.Test.YtbakhdbnfmoceaaGreatDoorTag
import Derived.Test.YtbakhdbnfmoceaaGreatDoorFour
import Derived.Test.YtbakhdbnfmoceaaGreatDoorDigB
import Derived.Deep.DeepCutAuto
import Derived.Deep.CutBlock
import Derived.Test.YtbakhdbnfmoceaaGreatDoorStrs
import Derived.Deep.LoopGhost
namespace Go.Proofs.YtbakhdbnfmoceaaGreatDoor
open Go.RowKit
attribute [local irreducible] shaL

theorem place_bytes (n c k : Nat) (hc : c < 256) (hk : k < 256) : [Value.int .u8 ((n : Int) / 16777216 % 256), .int .u8 ((n : Int) / 65536 % 256), .int .u8 ((n : Int) / 256 % 256), .int .u8 ((n : Int) % 256), .int .u8 (c : Int), .int .u8 (k : Int)] = u8s (placeL n c k) := by
  have h := four_bytes n
  have e : u8s (placeL n c k) = u8s (be n 4) ++ u8s [UInt8.ofNat c, UInt8.ofNat k] := by simp [placeL, u8s]
  rw [e, ← h]
  have e1 : (UInt8.ofNat c).toNat = c := by simp; omega
  have e2 : (UInt8.ofNat k).toNat = k := by simp; omega
  simp [u8s, e1, e2]

set_option maxHeartbeats 400000 in
set_option maxRecDepth 100000 in
theorem place_any (leaf chain step : Nat) (c k : Int) (hl : leaf ≤ 4294967295) (hc : chain < 256) (hk : step < 256) (ec : (chain : Int) = c) (ek : (step : Int) = k) (w : World) :
    Calls Tryz.prog 77 #[.int .i64 leaf, .int .i64 c, .int .i64 k] w fun e w' => e = .returned (.string (placeS leaf chain step)) ∧ w.grownBy w' none := by
  subst ec
  subst ek
  have b1 : (leaf : Int) / 16777216 < 256 := by omega
  have b2 : (chain : Int) < 256 := by omega
  have b3 : (step : Int) < 256 := by omega
  have hcv := row_string_w w _ (placeL leaf chain step) (place_bytes leaf chain step hc hk)
  rw [show (placeL leaf chain step).length = 6 from placeS_size leaf chain step, show (leaf : Int) / 16777216 % 256 = (leaf : Int) / 16777216 from by omega] at hcv
  have HP := Lib.hid (show str (placeL leaf chain step) = placeS leaf chain step from rfl)
  rw [HP.out] at hcv
  generalize placeS leaf chain step = S at hcv ⊢
  clear HP
  go_enter Tryz.func77, Tryz.ntmps77
  go_wp2_with fail
  go_ret
  exact ⟨rfl, World.grownBy_alloc _ _ _⟩

set_option maxHeartbeats 400000 in
set_option maxRecDepth 100000 in
theorem wopen_any (seed : ByteArray) (hs : seed.size ≤ 1000000000000) (w : World) (hr : ShaReady w) :
    Calls Tryz.prog 41 #[.string seed] w fun e w' => e = .returned (.string (openS seed)) ∧ w.grownBy w' none := by
  have HR := Lib.hid hr
  have ht := Lib.hid (tagged_new w 3 [seed] _ 1 3 rfl rfl rfl hr (by simp) (by simpa using hs))
  clear hr
  go_enter Tryz.func41, Tryz.ntmps41
  go_wp2_with fail
  refine ht.out.mono ?_
  rintro e w1 ⟨rfl, g1⟩
  have G1 := Lib.hid g1
  clear g1
  go_wp2_with fail
  go_ret
  exact ⟨rfl, G1.out⟩

set_option maxHeartbeats 400000 in
set_option maxRecDepth 100000 in
theorem secret_any (seed : ByteArray) (leaf chain : Nat) (hs : seed.size ≤ 1000000000000) (hl : leaf ≤ 4294967295) (hc : chain < 256) (w : World) (hr : ShaReady w) :
    Calls Tryz.prog 64 #[.string seed, .int .i64 leaf, .int .i64 chain] w fun e w' => e = .returned (.string (secretS seed leaf chain)) ∧ w.grownBy w' none := by
  have HR := Lib.hid hr
  have hp := Lib.hid (place_any leaf chain 0 chain 0 hl hc (by decide) rfl rfl w)
  clear hr
  go_enter Tryz.func64, Tryz.ntmps64
  go_wp2_with fail
  refine hp.out.mono ?_
  rintro e w1 ⟨rfl, g1⟩
  have G1 := Lib.hid g1
  clear g1
  have ht := Lib.hid (tagged_new w1 1 [seed, placeS leaf chain 0] _ 2 1 rfl rfl rfl (HR.out.grown G1.out) (by simp) (by
    intro s hs'
    simp at hs'
    rcases hs' with rfl | rfl
    · exact hs
    · rw [placeS_size]; omega))
  go_wp2_with fail
  refine ht.out.mono ?_
  rintro e w2 ⟨rfl, g2⟩
  have G2 := Lib.hid (grownBy_trans G1.out g2)
  clear g2
  go_wp2_with fail
  go_ret
  exact ⟨rfl, G2.out⟩

set_option maxHeartbeats 400000 in
set_option maxRecDepth 100000 in
theorem wwalk_any (o x : ByteArray) (leaf chain : Nat) (a b : Int) (ho : o.size ≤ 1000000000000) (hx : x.size ≤ 1000000000000) (hl : leaf ≤ 4294967295) (hc : chain < 256) (ha : -9223372036854775808 ≤ a ∧ a ≤ 9223372036854775807) (hb : -9223372036854775808 ≤ b ∧ b ≤ 9223372036854775807) (w : World) (hr : ShaReady w) :
    Calls Tryz.prog 53 #[.string o, .int .i64 leaf, .int .i64 chain, .int .i64 a, .int .i64 b, .string x] w fun e w' => e = .returned (.string (walkZ o leaf chain a b x)) ∧ w.grownBy w' none := by
  have HR := Lib.hid hr
  clear hr
  obtain ⟨p, hp⟩ : ∃ p : Nat, (max a 0).toNat = p := ⟨_, rfl⟩
  have HS := Lib.hid (fun n => walkS_size o leaf chain p n x 1000000000000 hx (by decide))
  have hpa : ((p : Nat) : Int) = max a 0 := by omega
  have HW : Hid (walkZ o leaf chain a b x = walkS o leaf chain p (min b 15 - p).toNat x) := by
    show _ = _
    unfold walkZ
    rw [hp, ← hpa]
  clear hp
  have HP := Lib.hid hpa
  clear hpa
  go_enter Tryz.func53, Tryz.ntmps53
  go_upto_region 1 with (fail)
  go_cut [13] (fun iv wx => iv = .int .i64 p ∧ w = wx)
  case first =>
    by_cases ha0 : 0 ≤ a
    · have e : a = p := by have := HP.out; omega
      subst e
      go_wp2
      all_goals
        go_meet
        case rel => exact ⟨by first | rfl | (congr 1; omega), rfl⟩
    · have e : p = 0 := by have := HP.out; omega
      subst e
      go_wp2
      all_goals
        go_meet
        case rel => exact ⟨by first | rfl | (congr 1; omega), rfl⟩
  case rest =>
    obtain ⟨rfl, rfl⟩ := hcut
    by_cases hb15 : b ≤ 15
    · go_wp2_with fail
      go_loopw [5, 13] (fun xv iv wr => ∃ k : Nat, ∃ y : ByteArray, p ≤ k ∧ (k = p ∨ k ≤ 15) ∧ (k = p ∨ (k : Int) ≤ b) ∧ iv = .int .i64 k ∧ xv = .string y ∧ Hid (y = walkS o leaf chain p (k - p) x) ∧ Hid (w.grownBy wr none)) (fun _ iv _ => (b - intOf iv).toNat)
      case atStart => exact ⟨p, x, Nat.le_refl _, .inl rfl, .inl rfl, rfl, rfl, by show _ = _; rw [Nat.sub_self]; rfl, World.grownBy.refl _ _⟩
      case round =>
        obtain ⟨k, y, hk, hk15, hkb, rfl, rfl, HY, HG⟩ := hrel
        by_cases hlt : (k : Int) < b
        · have hk2 : k < 15 := by omega
          have hys : y.size ≤ 1000000000000 := by rw [HY.out]; exact HS.out _
          have hpl := Lib.hid (place_any leaf chain k chain k hl hc (by omega) rfl rfl wr)
          clear hk15 hkb
          go_wp2_with fail
          refine hpl.out.mono ?_
          rintro e w1 ⟨rfl, g1⟩
          have G1 := Lib.hid (grownBy_trans HG.out g1)
          clear g1
          have ht := Lib.hid (tagged_new w1 2 [o, placeS leaf chain k, y] _ 3 2 rfl rfl rfl (HR.out.grown G1.out) (by simp) (by
            intro s hs'
            simp at hs'
            rcases hs' with rfl | rfl | rfl
            · exact ho
            · rw [placeS_size]; omega
            · exact hys))
          go_wp2_with fail
          refine ht.out.mono ?_
          rintro e w2 ⟨rfl, g2⟩
          have G2 := Lib.hid (grownBy_trans G1.out g2)
          clear g2
          go_wp2_with fail
          go_roundw
          case rel =>
            refine ⟨k + 1, _, by omega, by omega, by omega, by go_num, rfl, ?_, G2.out⟩
            show _ = _
            rw [show k + 1 - p = (k - p) + 1 from by omega, walkS_succ, ← HY.out, show p + (k - p) = k from by omega]
            rfl
          case measure => simp [intOf]; omega
        · have HF : Hid (y = walkZ o leaf chain a b x) := by
            show _ = _
            rw [HW.out, HY.out]
            congr 1
            have := HP.out
            omega
          clear hk15 hkb
          go_wp2_with fail
          go_ret
          exact ⟨by rw [HF.out]; rfl, HG.out⟩
    · go_wp2_with fail
      go_loopw [5, 13] (fun xv iv wr => ∃ k : Nat, ∃ y : ByteArray, p ≤ k ∧ (k = p ∨ k ≤ 15) ∧ (k = p ∨ (k : Int) ≤ 15) ∧ iv = .int .i64 k ∧ xv = .string y ∧ Hid (y = walkS o leaf chain p (k - p) x) ∧ Hid (w.grownBy wr none)) (fun _ iv _ => (15 - intOf iv).toNat)
      case atStart => exact ⟨p, x, Nat.le_refl _, .inl rfl, .inl rfl, rfl, rfl, by show _ = _; rw [Nat.sub_self]; rfl, World.grownBy.refl _ _⟩
      case round =>
        obtain ⟨k, y, hk, hk15, hkb, rfl, rfl, HY, HG⟩ := hrel
        by_cases hlt : (k : Int) < 15
        · have hk2 : k < 15 := by omega
          have hys : y.size ≤ 1000000000000 := by rw [HY.out]; exact HS.out _
          have hpl := Lib.hid (place_any leaf chain k chain k hl hc (by omega) rfl rfl wr)
          clear hk15 hkb
          go_wp2_with fail
          refine hpl.out.mono ?_
          rintro e w1 ⟨rfl, g1⟩
          have G1 := Lib.hid (grownBy_trans HG.out g1)
          clear g1
          have ht := Lib.hid (tagged_new w1 2 [o, placeS leaf chain k, y] _ 3 2 rfl rfl rfl (HR.out.grown G1.out) (by simp) (by
            intro s hs'
            simp at hs'
            rcases hs' with rfl | rfl | rfl
            · exact ho
            · rw [placeS_size]; omega
            · exact hys))
          go_wp2_with fail
          refine ht.out.mono ?_
          rintro e w2 ⟨rfl, g2⟩
          have G2 := Lib.hid (grownBy_trans G1.out g2)
          clear g2
          go_wp2_with fail
          go_roundw
          case rel =>
            refine ⟨k + 1, _, by omega, by omega, by omega, by go_num, rfl, ?_, G2.out⟩
            show _ = _
            rw [show k + 1 - p = (k - p) + 1 from by omega, walkS_succ, ← HY.out, show p + (k - p) = k from by omega]
            rfl
          case measure => simp [intOf]; omega
        · have HF : Hid (y = walkZ o leaf chain a b x) := by
            show _ = _
            rw [HW.out, HY.out]
            congr 1
            have := HP.out
            omega
          clear hk15 hkb
          go_wp2_with fail
          go_ret
          exact ⟨by rw [HF.out]; rfl, HG.out⟩
end Go.Proofs.YtbakhdbnfmoceaaGreatDoor

namespace Go.Proofs.YtbakhdbnfmoceaaGreatDoor
open Go.RowKit
attribute [local irreducible] shaL

set_option maxHeartbeats 800000 in
set_option maxRecDepth 100000 in
theorem publicOf_any (o : ByteArray) (leaf : Nat) (v : Value) (L : List ByteArray) (ho : o.size ≤ 1000000000000) (hl : leaf ≤ 4294967295) (hN : L.length ≤ 900) (hN0 : 0 < L.length) (hs : ∀ s ∈ L, s.size ≤ 1000000000000) (w : World) (hv : StrsAt w v L) (hr : ShaReady w) :
    Calls Tryz.prog 54 #[.string o, .int .i64 leaf, v] w fun e w' => e = .returned (.string (publicOfS o leaf L)) ∧ w.grownBy w' none := by
  obtain ⟨i0, hi, hz0, hz1, hz2⟩ := info_parts infoStrW
  have HR := Lib.hid hr
  have HV := Lib.hid hv
  have hp := Lib.hid (place_any leaf 0 0 0 0 hl (by decide) (by decide) rfl rfl w)
  obtain ⟨a, cap, rfl⟩ := hv.form
  obtain ⟨g, oo, rfl, -⟩ := hv.at_ 0 _ (List.getElem?_eq_getElem hN0)
  have HSZ := Lib.hid hs
  clear hr hv hs
  go_enter Tryz.func54, Tryz.ntmps54
  go_wp2_with fail
  refine hp.out.mono ?_
  rintro e w1 ⟨rfl, g1⟩
  have G1 := Lib.hid g1
  clear g1
  have ho2 : Hid ((w1.alloc (.cells #[.string o, .string (placeS leaf 0 0)] 9)).ownsRow w.heap.size 9 1 (.slice (some ⟨w1.heap.size, 0, none⟩) 2 2) 2 [.string o, .string (placeS leaf 0 0)]) :=
    World.ownsRow_lit w1 #[.string o, .string (placeS leaf 0 0)] 2 G1.out.size (by unfold maxLen; omega) rfl
  have HV2 := Lib.hid ((HV.out.grown G1.out).grown (World.grownBy_alloc _ (.cells #[.string o, .string (placeS leaf 0 0)] 9) none))
  go_wp2_with (at_builtin; refine wpList_append_own _ rfl _ _ 23 rfl w.heap.size 9 i0 (.string ⟨#[]⟩) 1 16 Tryz.underlying23 hi hz0 hz1 hz2 rfl (by decide) _ _ _ rfl ho2.out ⟨g, oo, none⟩ L.length cap (strsV L) rfl (by rw [strsV_length, Nat.mul_one]) ?q1 ?q2 ?q3 ?q4 ?q5 ?_)
  case q1 => exact HV2.out.news
  case q2 => exact strsV_one L
  case q3 => unfold maxLen; omega
  case q4 => omega
  case q5 => have := G1.out.size; simp; omega
  intro v' w2 hown2 hg2 _
  obtain ⟨a', cap', rfl⟩ := slice_own' hown2
  have HG2 : Hid (w.grownBy w2 none) := grownBy_below (((below_grownBy G1.out).alloc G1.out.size _).grown hg2 (by have := G1.out.size; simp; omega) (fun r hr => by cases hr; exact G1.out.size))
  have HS2 : Hid (StrsAt w2 (.slice a' (2 + L.length) cap') ([o, placeS leaf 0 0] ++ L)) := strs_own (n := 2 + L.length) (by simpa [strsV] using hown2)
  clear hown2 hg2 ho2 HV2 G1
  have hn2 : ([o, placeS leaf 0 0] ++ L).length = 2 + L.length := by simp; omega
  have hall : ∀ s ∈ [o, placeS leaf 0 0] ++ L, s.size ≤ 1000000000000 := by
    intro s hs'
    simp only [List.cons_append, List.nil_append, List.mem_cons] at hs'
    rcases hs' with rfl | rfl | h
    · exact ho
    · rw [placeS_size]; omega
    · exact HSZ.out s h
  have hlen : (tagB 4 ([o, placeS leaf 0 0] ++ L)).length ≤ 100000000000000000 := by
    have h1 := tagB_length 4 _ _ hall
    have h2 : ([o, placeS leaf 0 0] ++ L).length * (4 + 1000000000000) ≤ 1000 * (4 + 1000000000000) := Nat.mul_le_mul_right _ (by rw [hn2]; omega)
    omega
  have ht := Lib.hid (tagged_any w2 4 _ _ HS2.out (HR.out.grown HG2.out) (by rw [hn2]; unfold maxLen; omega) hlen)
  clear hn2 hall hlen
  go_wp2_with fail
  refine ht.out.mono ?_
  rintro e w3 ⟨rfl, g3⟩
  have G3 := Lib.hid (grownBy_trans HG2.out g3)
  clear g3
  go_wp2_with fail
  go_ret
  exact ⟨rfl, G3.out⟩

set_option maxHeartbeats 800000 in
set_option maxRecDepth 100000 in
theorem wpublic_any (seed : ByteArray) (leaf : Nat) (hs : seed.size ≤ 1000000000000) (hl : leaf ≤ 4294967295) (w : World) (hr : ShaReady w) :
    Calls Tryz.prog 39 #[.string seed, .int .i64 leaf] w fun e w' => e = .returned (.string (publicS seed leaf)) ∧ w.grownBy w' none := by
  obtain ⟨i0, hi, hz0, hz1, hz2⟩ := info_parts infoStrW
  have HR := Lib.hid hr
  have hop := Lib.hid (wopen_any seed hs w hr)
  have hosz := openS_size seed
  clear hr
  have HPD : Hid (publicS seed leaf = publicOfS (openS seed) leaf (endsS seed leaf 35)) := rfl
  obtain ⟨o, hO⟩ : ∃ o, openS seed = o := ⟨_, rfl⟩
  rw [hO] at hosz hop HPD
  have HO := Lib.hid hO
  clear hO
  go_enter Tryz.func39, Tryz.ntmps39
  go_wp2_with fail
  refine hop.out.mono ?_
  rintro e w1 ⟨rfl, g1⟩
  have G1 := Lib.hid g1
  clear g1
  go_wp2_with (at_make; refine wpList_make_full _ rfl _ _ 23 rfl w.heap.size 9 i0 (.string ⟨#[]⟩) 1 Tryz.underlying23 hi hz0 hz1 _ _ _ _ 35 rfl rfl rfl rfl ?c1 ?c2 ?c3 ?_)
  case c1 => rw [hz2]; omega
  case c2 => unfold maxLen; omega
  case c3 => exact G1.out.size
  intro w2 hown hg
  have hm : (madeCells #[Value.string ⟨#[]⟩] 35).toList = strsV (fillS (endsS seed leaf 0) 35) := made_strs 35
  rw [hm] at hown
  have HO2 := Lib.hid hown
  have G2 := Lib.hid (grownBy_trans G1.out hg)
  have hB1 := G1.out.size
  clear hown hg hm G1
  obtain ⟨B, hB⟩ : ∃ B, w1.heap.size = B := ⟨_, rfl⟩
  rw [hB] at HO2 hB1 ⊢
  clear hB hop
  go_wp2_with fail
  go_loopw [7, 13] (fun _ iv wr => ∃ k : Nat, k ≤ 35 ∧ iv = .int .i64 k ∧ Hid (wr.ownsRow w.heap.size 9 1 (.slice (some ⟨B, 0, none⟩) 35 35) 35 (strsV (fillS (endsS seed leaf k) 35))) ∧ Hid (w.grownBy wr none)) (fun _ iv _ => 35 - (intOf iv).toNat)
  case atStart => exact ⟨0, by omega, rfl, HO2.out, G2.out⟩
  case round =>
    clear HO2 G2
    obtain ⟨k, hk, rfl, HK, HG⟩ := hrel
    by_cases hlt : k < 35
    · have hsec := Lib.hid (secret_any seed leaf k hs hl (by omega) wr (HR.out.grown HG.out))
      have b1 : (0 : Int) ≤ (k : Int) := by omega
      go_wp2_with fail
      refine hsec.out.mono ?_
      rintro e w3 ⟨rfl, g3⟩
      have G3 := Lib.hid (grownBy_trans HG.out g3)
      have HK3 := Lib.hid (own_kept HK.out g3)
      clear g3 HK hsec HG
      have hwk := Lib.hid (wwalk_any o (secretS seed leaf k) leaf k 0 15 (by rw [hosz]; omega) (by rw [secretS_size]; omega) hl (by omega) (by omega) (by omega) w3 (HR.out.grown G3.out))
      go_wp2_with fail
      refine hwk.out.mono ?_
      rintro e w4 ⟨rfl, g4⟩
      have G4 := Lib.hid (grownBy_trans G3.out g4)
      have HK4 := Lib.hid (own_kept HK3.out g4)
      clear g4 HK3 hwk G3
      have hel := endsS_length seed leaf k
      have hc := HK4.out.cellAt k (by omega)
      have hat := fillS_at (endsS seed leaf k) 35 (by omega)
      have hput := fillS_put (endsS seed leaf k) 35 (walkZ o leaf k 0 15 (secretS seed leaf k)) (by omega)
      rw [hel] at hat hput
      rw [hat] at hc
      have hf := HK4.out.frozenAt k
      have HP := Lib.hid hput
      have HE : Hid (endsS seed leaf (k + 1) = endsS seed leaf k ++ [walkZ o leaf k 0 15 (secretS seed leaf k)]) := by
        show _ = _
        rw [endsS, HO.out]
        rfl
      clear hat hput hel
      generalize walkZ o leaf k 0 15 (secretS seed leaf k) = S at HP HE ⊢
      go_wp2_with fail
      go_roundw
      case rel =>
        refine ⟨k + 1, by omega, by go_num, ?_, grownBy_setNew G4.out hB1 _ _⟩
        show World.ownsRow _ _ _ _ _ _ _
        rw [HE.out, ← HP.out]
        exact (HK4.out.stored _ _).1
      case measure => simp [intOf]; omega
    · have : k = 35 := by omega
      subst this
      have hown := HK.out
      rw [fillS_full _ 35 (endsS_length seed leaf 35)] at hown
      have hst := strs_own hown
      have hpo := Lib.hid (publicOf_any o leaf _ (endsS seed leaf 35) (by rw [hosz]; omega) hl (by rw [endsS_length]; omega) (by rw [endsS_length]; omega) (fun s h => by rw [endsS_all seed leaf 35 s h]; omega) wr hst (HR.out.grown HG.out))
      clear hown hst HK
      go_wp2_with fail
      refine hpo.out.mono ?_
      rintro e w3 ⟨rfl, g3⟩
      have G3 := Lib.hid (grownBy_trans HG.out g3)
      clear g3
      rw [← HPD.out]
      go_wp2_with fail
      go_ret
      exact ⟨rfl, G3.out⟩
end Go.Proofs.YtbakhdbnfmoceaaGreatDoor

namespace Go.Proofs.YtbakhdbnfmoceaaGreatDoor
open Go.RowKit
attribute [local irreducible] shaL

theorem walkZ_to (o : ByteArray) (leaf c : Nat) (x : Int) (s : ByteArray) (h0 : 0 ≤ x) (h1 : x ≤ 15) : walkZ o leaf c 0 x s = walkS o leaf c 0 x.toNat s := by
  unfold walkZ
  rw [show (max (0 : Int) 0).toNat = 0 from rfl, show (min x 15 - max (0 : Int) 0).toNat = x.toNat from by omega]
theorem walkZ_from (o : ByteArray) (leaf c : Nat) (x : Int) (s : ByteArray) (h0 : 0 ≤ x) (h1 : x ≤ 15) : walkZ o leaf c x 15 s = walkS o leaf c x.toNat (15 - x).toNat s := by
  unfold walkZ
  rw [show max x 0 = x from by omega, show min (15 : Int) 15 = 15 from rfl]
theorem IntsAt.at_' {w : World} {a : Option Addr} {n cap : Nat} {L : List Int} (h : IntsAt w (.slice a n cap) L) (i : Nat) (x : Int) (hx : L[i]? = some x) : ∃ g o, a = some ⟨g, o, none⟩ ∧ w.cell? ⟨g, o + i, none⟩ = some (.int .i64 x) := by
  obtain ⟨a', cap', he, hc⟩ := h
  cases he
  obtain ⟨hi, rfl⟩ := List.getElem?_eq_some_iff.1 hx
  exact hc i hi

theorem strs_row {w : World} {B n : Nat} {v : Value} {L : List ByteArray} (h : w.ownsRow B 9 1 v n (strsV L)) (e : L.length = n) : StrsAt w v L := by
  subst e
  obtain ⟨a, c, rfl⟩ := slice_own' h
  exact strs_own h
set_option maxHeartbeats 800000 in
set_option maxRecDepth 100000 in
theorem wsign_new (seed d : ByteArray) (leaf : Nat) (hs : seed.size ≤ 1000000000000) (hd : d.size = 16) (hl : leaf ≤ 4294967295) (w : World) (hr : ShaReady w) :
    Calls Tryz.prog 50 #[.string seed, .int .i64 leaf, .string d] w fun e w' => ∃ v, e = .returned (.tuple #[v, .int .i64 0]) ∧ w'.ownsRow w.heap.size 9 1 v 35 (strsV (sigS seed leaf (digs d.data.toList) 35)) ∧ w.grownBy w' none := by
  obtain ⟨i0, hi, hz0, hz1, hz2⟩ := info_parts infoStrW
  have HR := Lib.hid hr
  have hof := Lib.hid (of_ok d hd w)
  have hosz := openS_size seed
  have hdl : (digs d.data.toList).length = 35 := by rw [digs_length]; have : d.data.toList.length = 16 := hd; omega
  have hdb := digs_bd d.data.toList hd
  clear hr hd
  obtain ⟨D, hD⟩ : ∃ D, digs d.data.toList = D := ⟨_, rfl⟩
  rw [hD] at hof hdl hdb ⊢
  clear hD
  have HDL := Lib.hid hdl
  have HDB := Lib.hid hdb
  clear hdl hdb
  obtain ⟨o, hO⟩ : ∃ o, openS seed = o := ⟨_, rfl⟩
  rw [hO] at hosz
  have HO := Lib.hid hO
  clear hO
  go_enter Tryz.func50, Tryz.ntmps50
  go_wp2_with fail
  refine hof.out.mono ?_
  rintro e w0 ⟨v0, rfl, h0, g0⟩
  obtain ⟨a0, c0, rfl⟩ := (show ∃ a cap, v0 = .slice a D.length cap from let ⟨a, cap, h, _⟩ := h0; ⟨a, cap, h⟩)
  rw [HDL.out] at h0 ⊢
  have HI := Lib.hid h0
  have G0 := Lib.hid g0
  clear h0 g0 hof
  have hop := Lib.hid (wopen_any seed hs w0 (HR.out.grown G0.out))
  rw [HO.out] at hop
  go_wp2_with fail
  refine hop.out.mono ?_
  rintro e w1 ⟨rfl, g1⟩
  have G1 := Lib.hid (grownBy_trans G0.out g1)
  have HI1 := Lib.hid (HI.out.kept g1)
  clear g1 HI hop G0
  go_wp2_with (at_make; refine wpList_make_full _ rfl _ _ 23 rfl w.heap.size 9 i0 (.string ⟨#[]⟩) 1 Tryz.underlying23 hi hz0 hz1 _ _ _ _ 35 rfl rfl rfl rfl ?c1 ?c2 ?c3 ?_)
  case c1 => rw [hz2]; omega
  case c2 => unfold maxLen; omega
  case c3 => exact G1.out.size
  intro w2 hown hg
  have hm : (madeCells #[Value.string ⟨#[]⟩] 35).toList = strsV (fillS (sigS seed leaf D 0) 35) := made_strs 35
  rw [hm] at hown
  have HO2 := Lib.hid hown
  have G2 := Lib.hid hg
  clear hown hg hm
  obtain ⟨B, hB⟩ : ∃ B, w1.heap.size = B := ⟨_, rfl⟩
  rw [hB] at HO2 ⊢
  have hB1 : w1.heap.size ≤ B := by omega
  clear hB
  go_wp2_with fail
  go_loopw [12, 13, 29] (fun _ _ iv wr => ∃ k : Nat, k ≤ 35 ∧ iv = .int .i64 k ∧ Hid (wr.ownsRow w.heap.size 9 1 (.slice (some ⟨B, 0, none⟩) 35 35) 35 (strsV (fillS (sigS seed leaf D k) 35))) ∧ Hid (w1.grownBy wr none)) (fun _ _ iv _ => 35 - (intOf iv).toNat)
  case atStart => exact ⟨0, by omega, rfl, HO2.out, G2.out⟩
  case round =>
    clear HO2 G2
    obtain ⟨k, hk, rfl, HK, HG⟩ := hrel
    have HRr := Lib.hid (HR.out.grown (grownBy_trans G1.out HG.out))
    have HI := Lib.hid (HI1.out.kept HG.out)
    by_cases hlt : k < 35
    · obtain ⟨x, hx⟩ : ∃ x, D[k]? = some x := ⟨_, List.getElem?_eq_getElem (by rw [HDL.out]; exact hlt)⟩
      have hxb := HDB.out x (List.mem_of_getElem? hx)
      have hxd : D.getD k 0 = x := by rw [List.getD_eq_getElem?_getD, hx]; rfl
      obtain ⟨gi, oi, rfl, hcx⟩ := HI.out.at_' k x hx
      have HX := Lib.hid hxd
      clear hx hxd
      have hsec := Lib.hid (secret_any seed leaf k hs hl (by omega) wr HRr.out)
      have b1 : (0 : Int) ≤ (k : Int) := by omega
      go_wp2_with fail
      refine hsec.out.mono ?_
      rintro e w3 ⟨rfl, g3⟩
      have G3 := Lib.hid (grownBy_trans HG.out g3)
      have HK3 := Lib.hid (own_kept HK.out g3)
      have HR3 := Lib.hid (HRr.out.grown g3)
      clear g3 HK hsec HG HI hcx HRr
      have hwk := wwalk_any o (secretS seed leaf k) leaf k 0 x (by rw [hosz]; omega) (by rw [secretS_size]; omega) hl (by omega) (by omega) (by omega) w3 HR3.out
      rw [walkZ_to _ _ _ _ _ hxb.1 hxb.2] at hwk
      have HWK := Lib.hid hwk
      clear hwk
      go_wp2_with fail
      refine HWK.out.mono ?_
      rintro e w4 ⟨rfl, g4⟩
      have G4 := Lib.hid (grownBy_trans G3.out g4)
      have HK4 := Lib.hid (own_kept HK3.out g4)
      clear g4 HK3 HWK G3 HR3
      have hel := sigS_length seed leaf D k
      have hc := HK4.out.cellAt k (by omega)
      have hat := fillS_at (sigS seed leaf D k) 35 (by omega)
      have hput := fillS_put (sigS seed leaf D k) 35 (walkS o leaf k 0 x.toNat (secretS seed leaf k)) (by omega)
      rw [hel] at hat hput
      rw [hat] at hc
      have hf := HK4.out.frozenAt k
      have HP := Lib.hid hput
      have HE : Hid (sigS seed leaf D (k + 1) = sigS seed leaf D k ++ [walkS o leaf k 0 x.toNat (secretS seed leaf k)]) := by
        show _ = _
        rw [sigS, HO.out, HX.out]
      clear hat hput hel
      generalize walkS o leaf k 0 x.toNat (secretS seed leaf k) = S at HP HE ⊢
      go_wp2_with fail
      go_roundw
      case rel =>
        refine ⟨k + 1, by omega, by go_num, ?_, grownBy_setNew G4.out hB1 _ _⟩
        show World.ownsRow _ _ _ _ _ _ _
        rw [HE.out, ← HP.out]
        exact (HK4.out.stored _ _).1
      case measure => simp [intOf]; omega
    · have : k = 35 := by omega
      subst this
      have hown := HK.out
      rw [fillS_full _ 35 (sigS_length seed leaf D 35)] at hown
      have hst := Lib.hid hown
      clear hown HK
      go_wp2_with fail
      go_ret2
      exact ⟨_, rfl, hst.out, grownBy_trans G1.out HG.out⟩
theorem wsign_any (seed d : ByteArray) (leaf : Nat) (hs : seed.size ≤ 1000000000000) (hd : d.size = 16) (hl : leaf ≤ 4294967295) (w : World) (hr : ShaReady w) :
    Calls Tryz.prog 50 #[.string seed, .int .i64 leaf, .string d] w fun e w' => ∃ v, e = .returned (.tuple #[v, .int .i64 0]) ∧ StrsAt w' v (sigS seed leaf (digs d.data.toList) 35) ∧ w.grownBy w' none :=
  (wsign_new seed d leaf hs hd hl w hr).mono (by
    rintro e w' ⟨v, rfl, h1, h2⟩
    have hL := sigS_length seed leaf (digs d.data.toList) 35
    exact ⟨v, rfl, strs_row h1 hL, h2⟩)

set_option maxHeartbeats 400000 in
theorem isSig_any (v : Value) (L : List ByteArray) (hN : L.length = 35) (hs : ∀ s ∈ L, s.size = 16) (w : World) (hv : StrsAt w v L) :
    Calls Tryz.prog 52 #[v] w fun e w' => e = .returned (.bool true) ∧ w = w' := by
  obtain ⟨a, cap, rfl⟩ := hv.form
  have HV := Lib.hid hv
  have HN := Lib.hid hN
  have HS := Lib.hid hs
  rw [hN] at HV ⊢
  clear hv hN hs
  go_enter Tryz.func52, Tryz.ntmps52
  go_wp2_with fail
  go_loop [4, 10] (fun _ iv => ∃ k : Nat, k ≤ 35 ∧ iv = .int .i64 k) (fun _ iv => 35 - (intOf iv).toNat)
  case atStart => exact ⟨0, by omega, rfl⟩
  case round =>
    obtain ⟨k, hk, rfl⟩ := hrel
    by_cases hlt : k < 35
    · obtain ⟨x, hx⟩ : ∃ x, L[k]? = some x := ⟨_, List.getElem?_eq_getElem (by rw [HN.out]; exact hlt)⟩
      have hxs := HS.out x (List.mem_of_getElem? hx)
      obtain ⟨g, o, rfl, hc⟩ := HV.out.at_ k x hx
      have hb : ((x.size : Int) != 16) = false := by simp; omega
      have hle : x.size ≤ 16 := by omega
      have b1 : (0 : Int) ≤ (k : Int) := by omega
      clear hx hxs
      go_wp2_with fail
      go_round
      case rel => exact ⟨k + 1, by omega, by go_num⟩
      case measure => simp [intOf]; omega
    · go_wp2_with fail
      go_ret
      exact ⟨rfl, rfl⟩

set_option maxHeartbeats 800000 in
set_option maxRecDepth 100000 in
theorem wrecover_any (o d : ByteArray) (leaf : Nat) (v : Value) (L : List ByteArray) (ho : o.size ≤ 1000000000000) (hd : d.size = 16) (hl : leaf ≤ 4294967295) (hN : L.length = 35) (hs : ∀ s ∈ L, s.size = 16) (w : World) (hv : StrsAt w v L) (hr : ShaReady w) :
    Calls Tryz.prog 28 #[.string o, .int .i64 leaf, .string d, v] w fun e w' => e = .returned (.tuple #[.string (publicOfS o leaf (recS o leaf (digs d.data.toList) L 35)), .int .i64 0]) ∧ w.grownBy w' none := by
  obtain ⟨i0, hi, hz0, hz1, hz2⟩ := info_parts infoStrW
  have HR := Lib.hid hr
  have HV := Lib.hid hv
  have HN := Lib.hid hN
  have HS := Lib.hid hs
  have hof := Lib.hid (of_ok d hd w)
  have hdl : (digs d.data.toList).length = 35 := by rw [digs_length]; have : d.data.toList.length = 16 := hd; omega
  have hdb := digs_bd d.data.toList hd
  obtain ⟨av, cv, rfl⟩ := hv.form
  rw [hN] at HV ⊢
  clear hr hd hv hN hs
  obtain ⟨D, hD⟩ : ∃ D, digs d.data.toList = D := ⟨_, rfl⟩
  rw [hD] at hof hdl hdb ⊢
  clear hD
  have HDL := Lib.hid hdl
  have HDB := Lib.hid hdb
  clear hdl hdb
  go_enter Tryz.func28, Tryz.ntmps28
  go_wp2_with fail
  refine hof.out.mono ?_
  rintro e w0 ⟨v0, rfl, h0, g0⟩
  obtain ⟨a0, c0, rfl⟩ := (show ∃ a cap, v0 = .slice a D.length cap from let ⟨a, cap, h, _⟩ := h0; ⟨a, cap, h⟩)
  rw [HDL.out] at h0 ⊢
  have HI := Lib.hid h0
  have G0 := Lib.hid g0
  have HV0 := Lib.hid (HV.out.grown g0)
  clear h0 g0 hof HV
  go_wp2_with fail
  refine (isSig_any _ L HN.out HS.out w0 HV0.out).mono ?_
  rintro e w' ⟨rfl, rfl⟩
  go_wp2_with (at_make; refine wpList_make_full _ rfl _ _ 23 rfl w.heap.size 9 i0 (.string ⟨#[]⟩) 1 Tryz.underlying23 hi hz0 hz1 _ _ _ _ 35 rfl rfl rfl rfl ?c1 ?c2 ?c3 ?_)
  case c1 => rw [hz2]; omega
  case c2 => unfold maxLen; omega
  case c3 => exact G0.out.size
  intro w2 hown hg
  have hm : (madeCells #[Value.string ⟨#[]⟩] 35).toList = strsV (fillS (recS o leaf D L 0) 35) := made_strs 35
  rw [hm] at hown
  have HO2 := Lib.hid hown
  have G2 := Lib.hid hg
  clear hown hg hm
  obtain ⟨B, hB⟩ : ∃ B, w0.heap.size = B := ⟨_, rfl⟩
  rw [hB] at HO2 ⊢
  have hB1 : w0.heap.size ≤ B := by omega
  clear hB
  go_wp2_with fail
  go_loopw [13, 14, 31] (fun _ _ iv wr => ∃ k : Nat, k ≤ 35 ∧ iv = .int .i64 k ∧ Hid (wr.ownsRow w.heap.size 9 1 (.slice (some ⟨B, 0, none⟩) 35 35) 35 (strsV (fillS (recS o leaf D L k) 35))) ∧ Hid (w0.grownBy wr none)) (fun _ _ iv _ => 35 - (intOf iv).toNat)
  case atStart => exact ⟨0, by omega, rfl, HO2.out, G2.out⟩
  case round =>
    clear HO2 G2
    obtain ⟨k, hk, rfl, HK, HG⟩ := hrel
    have HRr := Lib.hid (HR.out.grown (grownBy_trans G0.out HG.out))
    have HIr := Lib.hid (HI.out.kept HG.out)
    have HVr := Lib.hid (HV0.out.grown HG.out)
    by_cases hlt : k < 35
    · obtain ⟨x, hx⟩ : ∃ x, D[k]? = some x := ⟨_, List.getElem?_eq_getElem (by rw [HDL.out]; exact hlt)⟩
      have hxb := HDB.out x (List.mem_of_getElem? hx)
      have hxd : D.getD k 0 = x := by rw [List.getD_eq_getElem?_getD, hx]; rfl
      obtain ⟨gi, oi, rfl, hcx⟩ := HIr.out.at_' k x hx
      obtain ⟨y, hy⟩ : ∃ y, L[k]? = some y := ⟨_, List.getElem?_eq_getElem (by rw [HN.out]; exact hlt)⟩
      have hyb := HS.out y (List.mem_of_getElem? hy)
      have hyd : L.getD k ByteArray.empty = y := by rw [List.getD_eq_getElem?_getD, hy]; rfl
      obtain ⟨gv, ov, rfl, hcy⟩ := HVr.out.at_ k y hy
      have HX := Lib.hid (And.intro hxd hyd)
      clear hx hxd hy hyd
      have hwk := wwalk_any o y leaf k x 15 ho (by omega) hl (by omega) (by omega) (by omega) wr HRr.out
      rw [walkZ_from _ _ _ _ _ hxb.1 hxb.2] at hwk
      have HWK := Lib.hid hwk
      clear hwk hyb
      have b1 : (0 : Int) ≤ (k : Int) := by omega
      go_wp2_with fail
      refine HWK.out.mono ?_
      rintro e w4 ⟨rfl, g4⟩
      have G4 := Lib.hid (grownBy_trans HG.out g4)
      have HK4 := Lib.hid (own_kept HK.out g4)
      clear g4 HK HWK HG HRr HIr HVr hcx hcy
      have hel := recS_length o leaf D L k
      have hc := HK4.out.cellAt k (by omega)
      have hat := fillS_at (recS o leaf D L k) 35 (by omega)
      have hput := fillS_put (recS o leaf D L k) 35 (walkS o leaf k x.toNat (15 - x).toNat y) (by omega)
      rw [hel] at hat hput
      rw [hat] at hc
      have hf := HK4.out.frozenAt k
      have HP := Lib.hid hput
      have HE : Hid (recS o leaf D L (k + 1) = recS o leaf D L k ++ [walkS o leaf k x.toNat (15 - x).toNat y]) := by
        show _ = _
        rw [recS, HX.out.1, HX.out.2]
      clear hat hput hel
      generalize walkS o leaf k x.toNat (15 - x).toNat y = S at HP HE ⊢
      go_wp2_with fail
      go_roundw
      case rel =>
        refine ⟨k + 1, by omega, by go_num, ?_, grownBy_setNew G4.out hB1 _ _⟩
        show World.ownsRow _ _ _ _ _ _ _
        rw [HE.out, ← HP.out]
        exact (HK4.out.stored _ _).1
      case measure => simp [intOf]; omega
    · have : k = 35 := by omega
      subst this
      have hown := HK.out
      rw [fillS_full _ 35 (recS_length o leaf D L 35)] at hown
      have hst := strs_own hown
      have hpo := Lib.hid (publicOf_any o leaf _ (recS o leaf D L 35) ho hl (by rw [recS_length]; omega) (by rw [recS_length]; omega) (fun s h => by rw [recS_all o leaf D L HS.out 35 (by rw [HN.out]; omega) s h]; omega) wr hst HRr.out)
      clear hown hst HK
      go_wp2_with fail
      refine hpo.out.mono ?_
      rintro e w3 ⟨rfl, g3⟩
      have G3 := Lib.hid (grownBy_trans G0.out (grownBy_trans HG.out g3))
      clear g3
      go_wp2_with fail
      go_ret2
      exact ⟨rfl, G3.out⟩
end Go.Proofs.YtbakhdbnfmoceaaGreatDoor
