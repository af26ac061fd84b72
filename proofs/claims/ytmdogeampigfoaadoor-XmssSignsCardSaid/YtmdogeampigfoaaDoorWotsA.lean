/- The walks of wots' places, secrets, walks. -/
import Derived.Test.YtmdogeampigfoaaDoorWotsSpec
import Derived.Test.YtmdogeampigfoaaDoorShaFour
import Derived.Test.YtmdogeampigfoaaDoorDigB
import Derived.Deep.DeepCutAuto
import Derived.Deep.CutBlock
namespace Go.Proofs.YtmdogeampigfoaaDoor
open Go.RowKit
attribute [local irreducible] shaL

theorem place_bytes (n c k : Nat) (hc : c < 256) (hk : k < 256) : [Value.int .u8 ((n : Int) / 16777216 % 256), .int .u8 ((n : Int) / 65536 % 256), .int .u8 ((n : Int) / 256 % 256), .int .u8 ((n : Int) % 256), .int .u8 (c : Int), .int .u8 (k : Int)] = u8s (placeL n c k) := by
  have h := four_bytes n
  have e : u8s (placeL n c k) = u8s (be n 4) ++ u8s [UInt8.ofNat c, UInt8.ofNat k] := by simp [placeL, u8s]
  rw [e, ← h]
  have e1 : (UInt8.ofNat c).toNat = c := by simp; omega
  have e2 : (UInt8.ofNat k).toNat = k := by simp; omega
  simp [u8s, e1, e2]

set_option maxHeartbeats 400000 in
set_option maxRecDepth 100000 in
theorem place_any (leaf chain step : Nat) (c k : Int) (hl : leaf ≤ 4294967295) (hc : chain < 256) (hk : step < 256) (ec : (chain : Int) = c) (ek : (step : Int) = k) (w : World) :
    Calls Tryd.prog 51 #[.int .i64 leaf, .int .i64 c, .int .i64 k] w fun e w' => e = .returned (.string (placeS leaf chain step)) ∧ w.grownBy w' none := by
  subst ec
  subst ek
  have b1 : (leaf : Int) / 16777216 < 256 := by omega
  have b2 : (chain : Int) < 256 := by omega
  have b3 : (step : Int) < 256 := by omega
  have hcv := row_string_w w _ (placeL leaf chain step) (place_bytes leaf chain step hc hk)
  rw [show (placeL leaf chain step).length = 6 from placeS_size leaf chain step, show (leaf : Int) / 16777216 % 256 = (leaf : Int) / 16777216 from by omega] at hcv
  have HP := Lib.hid (show str (placeL leaf chain step) = placeS leaf chain step from rfl)
  rw [HP.out] at hcv
  generalize placeS leaf chain step = S at hcv ⊢
  clear HP
  go_enter Tryd.func51, Tryd.ntmps51
  go_wp2_with fail
  go_ret
  exact ⟨rfl, World.grownBy_alloc _ _ _⟩

theorem ShaReady.grown {w w' : World} (h : ShaReady w) (hg : w.grownBy w' none) : ShaReady w' := h.kept hg (by simp) (by simp)

/-- sha.Tagged of texts in a new block -/
theorem tagged_new (w : World) (tag : UInt8) (L : List ByteArray) (vs : List Value) (n : Nat) (tg : Int) (hv : vs = L.map Value.string) (hn : n = L.length) (ht : (tag.toNat : Int) = tg) (hr : ShaReady w) (hN : L.length ≤ 1000) (hs : ∀ s ∈ L, s.size ≤ 1000000000000) :
    Calls Tryd.prog 28 #[.int .u8 tg, .slice (some ⟨w.heap.size, 0, none⟩) n n] (w.alloc (.cells vs.toArray 9)) fun e w' => e = .returned (.string (tagS tag L)) ∧ w.grownBy w' none := by
  subst hv
  subst ht
  refine (tagged_any _ tag _ L (strs_new w L 9 n hn) (hr.grown (World.grownBy_alloc _ _ _)) (by unfold maxLen; omega) ?_).mono fun e w' h => ⟨h.1, grownBy_trans (World.grownBy_alloc _ _ _) h.2⟩
  have := tagB_length tag L _ hs
  have h2 : L.length * (4 + 1000000000000) ≤ 1000 * (4 + 1000000000000) := Nat.mul_le_mul_right _ hN
  omega

set_option maxHeartbeats 400000 in
set_option maxRecDepth 100000 in
theorem wopen_any (seed : ByteArray) (hs : seed.size ≤ 1000000000000) (w : World) (hr : ShaReady w) :
    Calls Tryd.prog 19 #[.string seed] w fun e w' => e = .returned (.string (openS seed)) ∧ w.grownBy w' none := by
  have HR := Lib.hid hr
  have ht := Lib.hid (tagged_new w 3 [seed] _ 1 3 rfl rfl rfl hr (by simp) (by simpa using hs))
  clear hr
  go_enter Tryd.func19, Tryd.ntmps19
  go_wp2_with fail
  refine ht.out.mono ?_
  rintro e w1 ⟨rfl, g1⟩
  have G1 := Lib.hid g1
  clear g1
  go_wp2_with fail
  go_ret
  exact ⟨rfl, G1.out⟩

set_option maxHeartbeats 400000 in
set_option maxRecDepth 100000 in
theorem secret_any (seed : ByteArray) (leaf chain : Nat) (hs : seed.size ≤ 1000000000000) (hl : leaf ≤ 4294967295) (hc : chain < 256) (w : World) (hr : ShaReady w) :
    Calls Tryd.prog 38 #[.string seed, .int .i64 leaf, .int .i64 chain] w fun e w' => e = .returned (.string (secretS seed leaf chain)) ∧ w.grownBy w' none := by
  have HR := Lib.hid hr
  have hp := Lib.hid (place_any leaf chain 0 chain 0 hl hc (by decide) rfl rfl w)
  clear hr
  go_enter Tryd.func38, Tryd.ntmps38
  go_wp2_with fail
  refine hp.out.mono ?_
  rintro e w1 ⟨rfl, g1⟩
  have G1 := Lib.hid g1
  clear g1
  have ht := Lib.hid (tagged_new w1 1 [seed, placeS leaf chain 0] _ 2 1 rfl rfl rfl (HR.out.grown G1.out) (by simp) (by
    intro s hs'
    simp at hs'
    rcases hs' with rfl | rfl
    · exact hs
    · rw [placeS_size]; omega))
  go_wp2_with fail
  refine ht.out.mono ?_
  rintro e w2 ⟨rfl, g2⟩
  have G2 := Lib.hid (grownBy_trans G1.out g2)
  clear g2
  go_wp2_with fail
  go_ret
  exact ⟨rfl, G2.out⟩

set_option maxHeartbeats 400000 in
set_option maxRecDepth 100000 in
theorem wwalk_any (o x : ByteArray) (leaf chain : Nat) (a b : Int) (ho : o.size ≤ 1000000000000) (hx : x.size ≤ 1000000000000) (hl : leaf ≤ 4294967295) (hc : chain < 256) (ha : -9223372036854775808 ≤ a ∧ a ≤ 9223372036854775807) (hb : -9223372036854775808 ≤ b ∧ b ≤ 9223372036854775807) (w : World) (hr : ShaReady w) :
    Calls Tryd.prog 35 #[.string o, .int .i64 leaf, .int .i64 chain, .int .i64 a, .int .i64 b, .string x] w fun e w' => e = .returned (.string (walkZ o leaf chain a b x)) ∧ w.grownBy w' none := by
  have HR := Lib.hid hr
  clear hr
  obtain ⟨p, hp⟩ : ∃ p : Nat, (max a 0).toNat = p := ⟨_, rfl⟩
  have HS := Lib.hid (fun n => walkS_size o leaf chain p n x 1000000000000 hx (by decide))
  have hpa : ((p : Nat) : Int) = max a 0 := by omega
  have HW : Hid (walkZ o leaf chain a b x = walkS o leaf chain p (min b 15 - p).toNat x) := by
    show _ = _
    unfold walkZ
    rw [hp, ← hpa]
  clear hp
  have HP := Lib.hid hpa
  clear hpa
  go_enter Tryd.func35, Tryd.ntmps35
  go_upto_region 1 with (fail)
  go_cut [13] (fun iv wx => iv = .int .i64 p ∧ w = wx)
  case first =>
    by_cases ha0 : 0 ≤ a
    · have e : a = p := by have := HP.out; omega
      subst e
      go_wp2
      all_goals
        go_meet
        case rel => exact ⟨by first | rfl | (congr 1; omega), rfl⟩
    · have e : p = 0 := by have := HP.out; omega
      subst e
      go_wp2
      all_goals
        go_meet
        case rel => exact ⟨by first | rfl | (congr 1; omega), rfl⟩
  case rest =>
    obtain ⟨rfl, rfl⟩ := hcut
    by_cases hb15 : b ≤ 15
    · go_wp2_with fail
      go_loopw [5, 13] (fun xv iv wr => ∃ k : Nat, ∃ y : ByteArray, p ≤ k ∧ (k = p ∨ k ≤ 15) ∧ (k = p ∨ (k : Int) ≤ b) ∧ iv = .int .i64 k ∧ xv = .string y ∧ Hid (y = walkS o leaf chain p (k - p) x) ∧ Hid (w.grownBy wr none)) (fun _ iv _ => (b - intOf iv).toNat)
      case atStart => exact ⟨p, x, Nat.le_refl _, .inl rfl, .inl rfl, rfl, rfl, by show _ = _; rw [Nat.sub_self]; rfl, World.grownBy.refl _ _⟩
      case round =>
        obtain ⟨k, y, hk, hk15, hkb, rfl, rfl, HY, HG⟩ := hrel
        by_cases hlt : (k : Int) < b
        · have hk2 : k < 15 := by omega
          have hys : y.size ≤ 1000000000000 := by rw [HY.out]; exact HS.out _
          have hpl := Lib.hid (place_any leaf chain k chain k hl hc (by omega) rfl rfl wr)
          clear hk15 hkb
          go_wp2_with fail
          refine hpl.out.mono ?_
          rintro e w1 ⟨rfl, g1⟩
          have G1 := Lib.hid (grownBy_trans HG.out g1)
          clear g1
          have ht := Lib.hid (tagged_new w1 2 [o, placeS leaf chain k, y] _ 3 2 rfl rfl rfl (HR.out.grown G1.out) (by simp) (by
            intro s hs'
            simp at hs'
            rcases hs' with rfl | rfl | rfl
            · exact ho
            · rw [placeS_size]; omega
            · exact hys))
          go_wp2_with fail
          refine ht.out.mono ?_
          rintro e w2 ⟨rfl, g2⟩
          have G2 := Lib.hid (grownBy_trans G1.out g2)
          clear g2
          go_wp2_with fail
          go_roundw
          case rel =>
            refine ⟨k + 1, _, by omega, by omega, by omega, by go_num, rfl, ?_, G2.out⟩
            show _ = _
            rw [show k + 1 - p = (k - p) + 1 from by omega, walkS_succ, ← HY.out, show p + (k - p) = k from by omega]
            rfl
          case measure => simp [intOf]; omega
        · have HF : Hid (y = walkZ o leaf chain a b x) := by
            show _ = _
            rw [HW.out, HY.out]
            congr 1
            have := HP.out
            omega
          clear hk15 hkb
          go_wp2_with fail
          go_ret
          exact ⟨by rw [HF.out]; rfl, HG.out⟩
    · go_wp2_with fail
      go_loopw [5, 13] (fun xv iv wr => ∃ k : Nat, ∃ y : ByteArray, p ≤ k ∧ (k = p ∨ k ≤ 15) ∧ (k = p ∨ (k : Int) ≤ 15) ∧ iv = .int .i64 k ∧ xv = .string y ∧ Hid (y = walkS o leaf chain p (k - p) x) ∧ Hid (w.grownBy wr none)) (fun _ iv _ => (15 - intOf iv).toNat)
      case atStart => exact ⟨p, x, Nat.le_refl _, .inl rfl, .inl rfl, rfl, rfl, by show _ = _; rw [Nat.sub_self]; rfl, World.grownBy.refl _ _⟩
      case round =>
        obtain ⟨k, y, hk, hk15, hkb, rfl, rfl, HY, HG⟩ := hrel
        by_cases hlt : (k : Int) < 15
        · have hk2 : k < 15 := by omega
          have hys : y.size ≤ 1000000000000 := by rw [HY.out]; exact HS.out _
          have hpl := Lib.hid (place_any leaf chain k chain k hl hc (by omega) rfl rfl wr)
          clear hk15 hkb
          go_wp2_with fail
          refine hpl.out.mono ?_
          rintro e w1 ⟨rfl, g1⟩
          have G1 := Lib.hid (grownBy_trans HG.out g1)
          clear g1
          have ht := Lib.hid (tagged_new w1 2 [o, placeS leaf chain k, y] _ 3 2 rfl rfl rfl (HR.out.grown G1.out) (by simp) (by
            intro s hs'
            simp at hs'
            rcases hs' with rfl | rfl | rfl
            · exact ho
            · rw [placeS_size]; omega
            · exact hys))
          go_wp2_with fail
          refine ht.out.mono ?_
          rintro e w2 ⟨rfl, g2⟩
          have G2 := Lib.hid (grownBy_trans G1.out g2)
          clear g2
          go_wp2_with fail
          go_roundw
          case rel =>
            refine ⟨k + 1, _, by omega, by omega, by omega, by go_num, rfl, ?_, G2.out⟩
            show _ = _
            rw [show k + 1 - p = (k - p) + 1 from by omega, walkS_succ, ← HY.out, show p + (k - p) = k from by omega]
            rfl
          case measure => simp [intOf]; omega
        · have HF : Hid (y = walkZ o leaf chain a b x) := by
            show _ = _
            rw [HW.out, HY.out]
            congr 1
            have := HP.out
            omega
          clear hk15 hkb
          go_wp2_with fail
          go_ret
          exact ⟨by rw [HF.out]; rfl, HG.out⟩
end Go.Proofs.YtmdogeampigfoaaDoor
