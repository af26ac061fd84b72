/- The walk of the law BitsOrder. -/
import Derived.Test.YtfpbnfjlabhhoaaBitsSpk
import Derived.Test.YtfpbnfjlabhhoaaBitsP
namespace Go.Proofs.Ytfpbnfjlabhhoaa
open Go.RowKit

set_option maxRecDepth 100000 in
set_option maxHeartbeats 3200000 in
theorem bitsOrder_walk (la lb : List UInt8) (ha : la.length = 16) (hb : lb.length = 16) (n : Nat) (hn : n < 256) (w : World) :
    Calls Try.prog 5 #[.agg (bytesV la).toArray, .agg (bytesV lb).toArray, .int .u8 n] w fun e w' => e = .returned (.bool true) ∧ Below w.heap.size w w' := by
  have HA := Lib.hid ha
  have HB := Lib.hid hb
  clear ha hb
  have e1 : (n : Int) % 17 = ((n % 17 : Nat) : Int) := by omega
  have hd16 : n % 17 ≤ 16 := by omega
  have e2 : (n : Int) < 256 := by omega
  go_enter Try.func5, Try.ntmps5
  go_wp2_with fail
  have hA : ((w.alloc (.cells (bytesV la).toArray 45)).alloc (.cells (bytesV lb).toArray 45)).heap[w.heap.size]? = some (.cells (bytesV la).toArray 45 (0, 0)) := by
    rw [Below.heap_alloc _ _ _ (by simp)]
    exact heap_alloc_at _ _ _ rfl
  have hB : ((w.alloc (.cells (bytesV la).toArray 45)).alloc (.cells (bytesV lb).toArray 45)).heap[w.heap.size + 1]? = some (.cells (bytesV lb).toArray 45 (0, 0)) := heap_alloc_at _ _ _ (by simp)
  have hG : w.grownBy ((w.alloc (.cells (bytesV la).toArray 45)).alloc (.cells (bytesV lb).toArray 45)) none := grownBy_alloc' (grownBy_alloc' (World.grownBy.refl _ _) _) _
  generalize (w.alloc (.cells (bytesV la).toArray 45)).alloc (.cells (bytesV lb).toArray 45) = w0 at hA hB hG ⊢
  have KA := Lib.hid hA
  have KB := Lib.hid hB
  have G0 := Lib.hid hG
  clear hA hB hG
  refine (bits_speaks _).mono ?_
  rintro e w1 ⟨rfl, g1⟩
  have G1 := Lib.hid (grownBy_trans G0.out g1)
  have hsA := blk_str (w := w1.drew) (g1.heap KA.out (by simp)) 16
  have hsB := blk_str (w := w1.drew) (g1.heap KB.out (by simp)) 16
  rw [HA.out] at hsA
  rw [HB.out] at hsB
  have hslA := slice_sixteen w.heap.size w1.drew
  have hslB := slice_sixteen (w.heap.size + 1) w1.drew
  clear g1 G0 KA KB
  have hcase : (∃ b1 b2 : Bool, Op.bytesLess (str la).toList (str lb).toList = b1 ∧ ((str la).toList == (str lb).toList) = b2 ∧ (b1 = true ∨ b2 = true) ∧ Op.bytesLess lb la = false) ∨ (Op.bytesLess (str la).toList (str lb).toList = false ∧ ((str la).toList == (str lb).toList) = false ∧ Op.bytesLess la lb = false) := by
    rw [str_list, str_list]
    cases h1 : Op.bytesLess la lb with
    | true => exact .inl ⟨true, _, rfl, rfl, .inl rfl, less_asym _ _ h1⟩
    | false =>
      cases h2 : (la == lb) with
      | true =>
        have := eq_of_beq h2
        subst this
        exact .inl ⟨false, true, rfl, rfl, .inr rfl, h1⟩
      | false => exact .inr ⟨rfl, rfl, rfl⟩
  have tail : ∀ (p q : List UInt8), p.length = 16 → q.length = 16 → Op.bytesLess q p = false → ∀ k : Nat, k ≤ 8 * 16 → belowB (str p) (str q) k = true → (k < 8 * 16 → bitS (str p) k ≠ bitS (str q) k) →
      (k = 128 ∧ p = q) ∨ (k < 128 ∧ p ≠ q ∧ bitS (str p) k = 0 ∧ bitS (str q) k = 1) := by
    intro p q hp hq hl k hk hb hne
    rw [belowB_iff] at hb
    rcases Nat.lt_or_ge k 128 with h | h
    · have hn := hne h
      refine .inr ⟨h, ?_, order_bit p q k hp hq h hb hn hl⟩
      rintro rfl
      exact hn rfl
    · obtain rfl : k = 128 := by omega
      exact .inl ⟨rfl, bits_all p q 16 hp hq hb⟩
  have HTL := Lib.hid tail
  clear tail
  go_wp2_with fail
  go_region
  rcases hcase with ⟨b1, b2, hb1, hb2, hbb, hless⟩ | ⟨hb1, hb2, hless⟩
  · have hg : (!(Op.bytesLess (str la).toList (str lb).toList || (str la).toList == (str lb).toList)) = false := by
      rw [hb1, hb2]; rcases hbb with rfl | rfl <;> simp
    have HP := Lib.hid HA.out
    have HQ := Lib.hid HB.out
    have HL := Lib.hid hless
    clear hb1 hb2 hbb hless
    go_wp2_with fail
    refine (common_any (str la) (str lb) (by rw [show (str la).size = 16 from HP.out]; decide) 16 HP.out HQ.out _).mono ?_
    rintro e w2 ⟨k, rfl, ⟨h1, h2, h3⟩, g2⟩
    have hk := HTL.out la lb HP.out HQ.out HL.out k h1 h2 h3
    have hbl := (belowB_iff _ _ _).1 h2
    have G2 := Lib.hid (grownBy_trans (grownBy_drew G1.out) g2)
    have hk8 : k ≤ 128 := by omega
    have hsP : (str la).size ≤ maxLen := by rw [show (str la).size = 16 from HP.out]; decide
    have hsQ : (str lb).size ≤ maxLen := by rw [show (str lb).size = 16 from HQ.out]; decide
    have HBX := Lib.hid (fun w => band_any (str la) hsP (n % 17) hd16 w)
    have HBY := Lib.hid (fun w => band_any (str lb) hsQ (n % 17) hd16 w)
    have HBE := Lib.hid (fun w => below_any (str la) (str lb) hsP hsQ k hk8 w)
    rw [h2] at HBE
    have hN1 := bandN_lt (str la) (n % 17)
    have hN2 := bandN_lt (str lb) (n % 17)
    have hcap := band_cap (n % 17) hd16
    obtain ⟨d, hd⟩ : ∃ d, n % 17 = d := ⟨_, rfl⟩
    rw [hd] at e1 hd16 HBX HBY hN1 hN2 hcap
    clear h1 h2 h3 g2 hd
    rcases hk with ⟨rfl, hpq⟩ | ⟨hlt, hne, hb0, hb1⟩
    · have hxy : ((str la).toList == (str lb).toList) = true := by rw [hpq]; simp
      have hbn : bandN (str la) d = bandN (str lb) d := by rw [hpq]
      rw [← hbn] at HBY
      generalize bandN (str la) d = x at HBX HBY hN1
      have d2 : (d : Int) ≤ 128 := by omega
      clear hbn hbl hN2 hpq
      go_wp2_with fail
      refine (HBX.out _).mono ?_
      rintro e v0 ⟨rfl, j0⟩
      go_wp2_with fail
      refine (HBY.out _).mono ?_
      rintro e v1 ⟨rfl, j1⟩
      go_wp2_with fail
      refine (HBX.out _).mono ?_
      rintro e v2 ⟨rfl, j2⟩
      go_wp2_with fail
      refine (HBY.out _).mono ?_
      rintro e v3 ⟨rfl, j3⟩
      go_wp2_with fail
      refine (HBE.out _).mono ?_
      rintro e v4 ⟨rfl, j4⟩
      go_wp2_with fail
      go_ret
      exact ⟨rfl, below_grownBy (grownBy_trans (grownBy_trans (grownBy_trans (grownBy_trans (grownBy_trans (G2.out) j0) j1) j2) j3) j4)⟩
    · have hxy : ((str la).toList == (str lb).toList) = false := by
        rw [str_list, str_list]
        exact beq_eq_false_iff_ne.2 hne
      have k1 : (k : Int) < 128 := by omega
      have k2 : ((k : Int) == 128) = false := by simp; omega
      have HX := Lib.hid (fun w => bit_any (str la) hsP k (by omega) w)
      have HY := Lib.hid (fun w => bit_any (str lb) hsQ k (by omega) w)
      rw [hb0] at HX
      rw [hb1] at HY
      have hf : belowB (str la) (str lb) (k + 1) = false := by
        rw [belowB_succ, hb0, hb1]; simp
      have HB1 := Lib.hid (fun w => below_any (str la) (str lb) hsP hsQ (k + 1) (by omega) w)
      rw [hf] at HB1
      have k3 : (k : Int) + 1 = ((k + 1 : Nat) : Int) := by omega
      have hxx : ∃ x y : Nat, bandN (str la) d = x ∧ bandN (str lb) d = y ∧ ((k < d ∧ x < y) ∨ (d ≤ k ∧ x = y)) := by
        refine ⟨_, _, rfl, rfl, ?_⟩
        by_cases hkd : k < d
        · exact .inl ⟨hkd, bandN_less _ _ k hbl hb0 hb1 d hkd⟩
        · exact .inr ⟨by omega, bandN_same _ _ d (fun i hi => hbl i (by omega))⟩
      obtain ⟨x, y, hx, hy, hxx⟩ := hxx
      rw [hx] at HBX hN1
      rw [hy] at HBY hN2
      obtain ⟨k4, hk4⟩ : ∃ k4, k + 1 = k4 := ⟨_, rfl⟩
      rw [hk4] at HB1 k3
      clear hx hy hf hb0 hb1 hne hbl hk4
      rcases hxx with ⟨q1, q2⟩ | ⟨q1, q2⟩
      · have r1 : (x : Int) ≤ (y : Int) := by omega
        have r2 : ((x : Int) == (y : Int)) = false := by simp; omega
        have r3 : ¬ (d : Int) ≤ (k : Int) := by omega
        go_wp2_with fail
        refine (HX.out _).mono ?_
        rintro e v0 ⟨rfl, j0⟩
        go_wp2_with fail
        refine (HY.out _).mono ?_
        rintro e v1 ⟨rfl, j1⟩
        go_wp2_with fail
        refine (HBX.out _).mono ?_
        rintro e v2 ⟨rfl, j2⟩
        go_wp2_with fail
        refine (HBY.out _).mono ?_
        rintro e v3 ⟨rfl, j3⟩
        go_wp2_with fail
        refine (HBX.out _).mono ?_
        rintro e v4 ⟨rfl, j4⟩
        go_wp2_with fail
        refine (HBY.out _).mono ?_
        rintro e v5 ⟨rfl, j5⟩
        go_wp2_with fail
        refine (HBE.out _).mono ?_
        rintro e v6 ⟨rfl, j6⟩
        go_wp2_with fail
        refine (HB1.out _).mono ?_
        rintro e v7 ⟨rfl, j7⟩
        go_wp2_with fail
        go_ret
        exact ⟨by show Ending.returned (.bool !decide (d ≤ k)) = _; rw [decide_eq_false (by omega)]; rfl, below_grownBy (grownBy_trans (grownBy_trans (grownBy_trans (grownBy_trans (grownBy_trans (grownBy_trans (grownBy_trans (grownBy_trans (G2.out) j0) j1) j2) j3) j4) j5) j6) j7)⟩
      · have r1 : (x : Int) ≤ (y : Int) := by omega
        have r2 : ((x : Int) == (y : Int)) = true := by simp; omega
        have r3 : (d : Int) ≤ (k : Int) := by omega
        go_wp2_with fail
        refine (HX.out _).mono ?_
        rintro e v0 ⟨rfl, j0⟩
        go_wp2_with fail
        refine (HY.out _).mono ?_
        rintro e v1 ⟨rfl, j1⟩
        go_wp2_with fail
        refine (HBX.out _).mono ?_
        rintro e v2 ⟨rfl, j2⟩
        go_wp2_with fail
        refine (HBY.out _).mono ?_
        rintro e v3 ⟨rfl, j3⟩
        go_wp2_with fail
        refine (HBX.out _).mono ?_
        rintro e v4 ⟨rfl, j4⟩
        go_wp2_with fail
        refine (HBY.out _).mono ?_
        rintro e v5 ⟨rfl, j5⟩
        go_wp2_with fail
        refine (HBE.out _).mono ?_
        rintro e v6 ⟨rfl, j6⟩
        go_wp2_with fail
        refine (HB1.out _).mono ?_
        rintro e v7 ⟨rfl, j7⟩
        go_wp2_with fail
        go_ret
        exact ⟨rfl, below_grownBy (grownBy_trans (grownBy_trans (grownBy_trans (grownBy_trans (grownBy_trans (grownBy_trans (grownBy_trans (grownBy_trans (G2.out) j0) j1) j2) j3) j4) j5) j6) j7)⟩
  · have hg : (!(Op.bytesLess (str la).toList (str lb).toList || (str la).toList == (str lb).toList)) = true := by
      rw [hb1, hb2]; rfl
    have HP := Lib.hid HB.out
    have HQ := Lib.hid HA.out
    have HL := Lib.hid hless
    clear hb1 hb2 hless
    go_wp2_with fail
    refine (common_any (str lb) (str la) (by rw [show (str lb).size = 16 from HP.out]; decide) 16 HP.out HQ.out _).mono ?_
    rintro e w2 ⟨k, rfl, ⟨h1, h2, h3⟩, g2⟩
    have hk := HTL.out lb la HP.out HQ.out HL.out k h1 h2 h3
    have hbl := (belowB_iff _ _ _).1 h2
    have G2 := Lib.hid (grownBy_trans (grownBy_drew G1.out) g2)
    have hk8 : k ≤ 128 := by omega
    have hsP : (str lb).size ≤ maxLen := by rw [show (str lb).size = 16 from HP.out]; decide
    have hsQ : (str la).size ≤ maxLen := by rw [show (str la).size = 16 from HQ.out]; decide
    have HBX := Lib.hid (fun w => band_any (str lb) hsP (n % 17) hd16 w)
    have HBY := Lib.hid (fun w => band_any (str la) hsQ (n % 17) hd16 w)
    have HBE := Lib.hid (fun w => below_any (str lb) (str la) hsP hsQ k hk8 w)
    rw [h2] at HBE
    have hN1 := bandN_lt (str lb) (n % 17)
    have hN2 := bandN_lt (str la) (n % 17)
    have hcap := band_cap (n % 17) hd16
    obtain ⟨d, hd⟩ : ∃ d, n % 17 = d := ⟨_, rfl⟩
    rw [hd] at e1 hd16 HBX HBY hN1 hN2 hcap
    clear h1 h2 h3 g2 hd
    rcases hk with ⟨rfl, hpq⟩ | ⟨hlt, hne, hb0, hb1⟩
    · have hxy : ((str lb).toList == (str la).toList) = true := by rw [hpq]; simp
      have hbn : bandN (str lb) d = bandN (str la) d := by rw [hpq]
      rw [← hbn] at HBY
      generalize bandN (str lb) d = x at HBX HBY hN1
      have d2 : (d : Int) ≤ 128 := by omega
      clear hbn hbl hN2 hpq
      go_wp2_with fail
      refine (HBX.out _).mono ?_
      rintro e v0 ⟨rfl, j0⟩
      go_wp2_with fail
      refine (HBY.out _).mono ?_
      rintro e v1 ⟨rfl, j1⟩
      go_wp2_with fail
      refine (HBX.out _).mono ?_
      rintro e v2 ⟨rfl, j2⟩
      go_wp2_with fail
      refine (HBY.out _).mono ?_
      rintro e v3 ⟨rfl, j3⟩
      go_wp2_with fail
      refine (HBE.out _).mono ?_
      rintro e v4 ⟨rfl, j4⟩
      go_wp2_with fail
      go_ret
      exact ⟨rfl, below_grownBy (grownBy_trans (grownBy_trans (grownBy_trans (grownBy_trans (grownBy_trans (G2.out) j0) j1) j2) j3) j4)⟩
    · have hxy : ((str lb).toList == (str la).toList) = false := by
        rw [str_list, str_list]
        exact beq_eq_false_iff_ne.2 hne
      have k1 : (k : Int) < 128 := by omega
      have k2 : ((k : Int) == 128) = false := by simp; omega
      have HX := Lib.hid (fun w => bit_any (str lb) hsP k (by omega) w)
      have HY := Lib.hid (fun w => bit_any (str la) hsQ k (by omega) w)
      rw [hb0] at HX
      rw [hb1] at HY
      have hf : belowB (str lb) (str la) (k + 1) = false := by
        rw [belowB_succ, hb0, hb1]; simp
      have HB1 := Lib.hid (fun w => below_any (str lb) (str la) hsP hsQ (k + 1) (by omega) w)
      rw [hf] at HB1
      have k3 : (k : Int) + 1 = ((k + 1 : Nat) : Int) := by omega
      have hxx : ∃ x y : Nat, bandN (str lb) d = x ∧ bandN (str la) d = y ∧ ((k < d ∧ x < y) ∨ (d ≤ k ∧ x = y)) := by
        refine ⟨_, _, rfl, rfl, ?_⟩
        by_cases hkd : k < d
        · exact .inl ⟨hkd, bandN_less _ _ k hbl hb0 hb1 d hkd⟩
        · exact .inr ⟨by omega, bandN_same _ _ d (fun i hi => hbl i (by omega))⟩
      obtain ⟨x, y, hx, hy, hxx⟩ := hxx
      rw [hx] at HBX hN1
      rw [hy] at HBY hN2
      obtain ⟨k4, hk4⟩ : ∃ k4, k + 1 = k4 := ⟨_, rfl⟩
      rw [hk4] at HB1 k3
      clear hx hy hf hb0 hb1 hne hbl hk4
      rcases hxx with ⟨q1, q2⟩ | ⟨q1, q2⟩
      · have r1 : (x : Int) ≤ (y : Int) := by omega
        have r2 : ((x : Int) == (y : Int)) = false := by simp; omega
        have r3 : ¬ (d : Int) ≤ (k : Int) := by omega
        go_wp2_with fail
        refine (HX.out _).mono ?_
        rintro e v0 ⟨rfl, j0⟩
        go_wp2_with fail
        refine (HY.out _).mono ?_
        rintro e v1 ⟨rfl, j1⟩
        go_wp2_with fail
        refine (HBX.out _).mono ?_
        rintro e v2 ⟨rfl, j2⟩
        go_wp2_with fail
        refine (HBY.out _).mono ?_
        rintro e v3 ⟨rfl, j3⟩
        go_wp2_with fail
        refine (HBX.out _).mono ?_
        rintro e v4 ⟨rfl, j4⟩
        go_wp2_with fail
        refine (HBY.out _).mono ?_
        rintro e v5 ⟨rfl, j5⟩
        go_wp2_with fail
        refine (HBE.out _).mono ?_
        rintro e v6 ⟨rfl, j6⟩
        go_wp2_with fail
        refine (HB1.out _).mono ?_
        rintro e v7 ⟨rfl, j7⟩
        go_wp2_with fail
        go_ret
        exact ⟨by show Ending.returned (.bool !decide (d ≤ k)) = _; rw [decide_eq_false (by omega)]; rfl, below_grownBy (grownBy_trans (grownBy_trans (grownBy_trans (grownBy_trans (grownBy_trans (grownBy_trans (grownBy_trans (grownBy_trans (G2.out) j0) j1) j2) j3) j4) j5) j6) j7)⟩
      · have r1 : (x : Int) ≤ (y : Int) := by omega
        have r2 : ((x : Int) == (y : Int)) = true := by simp; omega
        have r3 : (d : Int) ≤ (k : Int) := by omega
        go_wp2_with fail
        refine (HX.out _).mono ?_
        rintro e v0 ⟨rfl, j0⟩
        go_wp2_with fail
        refine (HY.out _).mono ?_
        rintro e v1 ⟨rfl, j1⟩
        go_wp2_with fail
        refine (HBX.out _).mono ?_
        rintro e v2 ⟨rfl, j2⟩
        go_wp2_with fail
        refine (HBY.out _).mono ?_
        rintro e v3 ⟨rfl, j3⟩
        go_wp2_with fail
        refine (HBX.out _).mono ?_
        rintro e v4 ⟨rfl, j4⟩
        go_wp2_with fail
        refine (HBY.out _).mono ?_
        rintro e v5 ⟨rfl, j5⟩
        go_wp2_with fail
        refine (HBE.out _).mono ?_
        rintro e v6 ⟨rfl, j6⟩
        go_wp2_with fail
        refine (HB1.out _).mono ?_
        rintro e v7 ⟨rfl, j7⟩
        go_wp2_with fail
        go_ret
        exact ⟨rfl, below_grownBy (grownBy_trans (grownBy_trans (grownBy_trans (grownBy_trans (grownBy_trans (grownBy_trans (grownBy_trans (grownBy_trans (G2.out) j0) j1) j2) j3) j4) j5) j6) j7)⟩
theorem bitsOrder_walkZ (la lb : List UInt8) (ha : la.length = 16) (hb : lb.length = 16) (z : Int) (hz : 0 ≤ z ∧ z ≤ 255) (w : World) :
    Calls Try.prog 5 #[.agg (bytesV la).toArray, .agg (bytesV lb).toArray, .int .u8 z] w fun e w' => e = .returned (.bool true) ∧ Below w.heap.size w w' := by
  obtain ⟨n, rfl⟩ := Int.eq_ofNat_of_zero_le hz.1
  exact bitsOrder_walk la lb ha hb n (by omega) w
end Go.Proofs.Ytfpbnfjlabhhoaa
