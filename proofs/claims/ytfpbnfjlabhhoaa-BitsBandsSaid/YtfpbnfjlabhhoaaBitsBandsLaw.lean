/- The walk of the law BitsBands. -/
import Derived.Test.YtfpbnfjlabhhoaaBitsSpk
import Derived.Test.YtfpbnfjlabhhoaaBitsP
namespace Go.Proofs.Ytfpbnfjlabhhoaa
open Go.RowKit

set_option maxHeartbeats 400000 in
theorem band_no (s : ByteArray) (z : Int) (hz : z < 0 ∨ 16 < z) (hz2 : z ≤ 9223372036854775807) (w : World) :
    Calls Try.prog 22 #[.string s, .int .i64 z] w fun e w' => e = .returned (.int .i64 0) ∧ w.grownBy w' none := by
  have hM : ∀ w : World, Calls Try.prog 34 #[.int .i64 z] w fun e w' => e = .returned (.bool false) ∧ w = w' := by
    by_cases h0 : z < 0
    · exact fun w => bands_neg z h0 w
    · obtain ⟨n, rfl⟩ : ∃ n : Nat, z = (n : Int) := ⟨z.toNat, by omega⟩
      have := bands_any n (by omega)
      rw [show decide (n ≤ 16) = false from by simp; omega] at this
      exact this
  have HM := Lib.hid hM
  clear hM hz
  go_enter Try.func22, Try.ntmps22
  go_wp2_with fail
  refine (HM.out _).mono ?_
  rintro e w1 ⟨rfl, rfl⟩
  go_wp2_with fail
  go_ret
  exact ⟨rfl, World.grownBy.refl _ _⟩

/-- the head of the law, up to the test of the depth -/
theorem noughts_eq : (noughts16.toList == (str [0, 0, 0, 0, 0, 0, 0, 0, 0, 0, 0, 0, 0, 0, 0, 0]).toList) = true := by
  show (noughts16.toList == noughts16.toList) = true
  exact beq_self_eq_true _

set_option maxRecDepth 100000 in
set_option maxHeartbeats 3200000 in
theorem bands_bad (la : List UInt8) (ha : la.length = 16) (z b : Int) (hz : z < 0 ∨ 16 < z) (hz1 : -9223372036854775808 ≤ z) (hz2 : z ≤ 9223372036854775807) (hb2 : b ≤ 9223372036854775807) (w : World) :
    Calls Try.prog 4 #[.agg (bytesV la).toArray, .int .i64 z, .int .i64 b] w fun e w' => e = .returned (.bool true) ∧ Below w.heap.size w w' := by
  obtain ⟨i0, hi, hz0, hz3, hz4⟩ := info_parts infoB
  have HBN := Lib.hid (fun w => band_no (str la) z hz hz2 w)
  have HFN := Lib.hid (fun w => first_no b z (.inl hz) hb2 hz2 w)
  have HA := Lib.hid ha
  clear ha
  go_enter Try.func4, Try.ntmps4
  go_wp2_with fail
  have hA : (w.alloc (.cells (bytesV la).toArray 45)).heap[w.heap.size]? = some (.cells (bytesV la).toArray 45 (0, 0)) := heap_alloc_at _ _ _ rfl
  have hG : w.grownBy (w.alloc (.cells (bytesV la).toArray 45)) none := World.grownBy_alloc _ _ _
  generalize w.alloc (.cells (bytesV la).toArray 45) = w0 at hA hG ⊢
  refine (bits_speaks _).mono ?_
  rintro e w1 ⟨rfl, g1⟩
  have G1 := Lib.hid (grownBy_trans hG g1)
  have hsA := blk_str (g1.heap hA (by simp)) 16
  rw [HA.out] at hsA
  have hslA := slice_sixteen w.heap.size w1
  have hn16 : noughts16.size = 16 := rfl
  clear g1 hG hA
  have hcase : (z < 0) ∨ (0 ≤ z ∧ 16 < z) := by omega
  rcases hcase with h0 | ⟨h0, h1⟩
  · have h0' : ¬ (0 : Int) ≤ z := by omega
    go_wp2_with fail
    refine (HFN.out _).mono ?_
    rintro e w2 ⟨rfl, g2⟩
    go_wp2_with fail
    refine (HBN.out _).mono ?_
    rintro e w3 ⟨rfl, g3⟩
    go_wp2_with (at_make; refine wpList_make_full _ rfl _ _ 32 rfl w3.heap.size 5 i0 (.int .u8 0) 1 Try.underlying32 hi hz0 hz3 _ _ _ _ 16 rfl rfl rfl rfl ?c1 ?c2 ?c3 ?_)
    case c1 => rw [hz4]; omega
    case c2 => unfold maxLen; omega
    case c3 => omega
    intro w4 hown hg
    have hm : (madeCells #[Value.int .u8 0] 16).toList = bytesV (List.replicate 16 0) := made_bytes 16
    rw [hm] at hown
    have hs := own_str hown
    have hq := noughts_eq
    have G4 := Lib.hid (grownBy_trans G1.out (grownBy_trans g2 (grownBy_trans g3 hg)))
    clear hown hm g2 g3 hg
    go_wp2_with fail
    go_ret
    exact ⟨rfl, below_grownBy G4.out⟩
  · have h1' : ¬ z ≤ 16 := by omega
    go_wp2_with fail
    refine (HFN.out _).mono ?_
    rintro e w2 ⟨rfl, g2⟩
    go_wp2_with fail
    refine (HBN.out _).mono ?_
    rintro e w3 ⟨rfl, g3⟩
    go_wp2_with (at_make; refine wpList_make_full _ rfl _ _ 32 rfl w3.heap.size 5 i0 (.int .u8 0) 1 Try.underlying32 hi hz0 hz3 _ _ _ _ 16 rfl rfl rfl rfl ?d1 ?d2 ?d3 ?_)
    case d1 => rw [hz4]; omega
    case d2 => unfold maxLen; omega
    case d3 => omega
    intro w4 hown hg
    have hm : (madeCells #[Value.int .u8 0] 16).toList = bytesV (List.replicate 16 0) := made_bytes 16
    rw [hm] at hown
    have hs := own_str hown
    have hq := noughts_eq
    have G4 := Lib.hid (grownBy_trans G1.out (grownBy_trans g2 (grownBy_trans g3 hg)))
    clear hown hm g2 g3 hg
    go_wp2_with fail
    go_ret
    exact ⟨rfl, below_grownBy G4.out⟩

set_option maxRecDepth 100000 in
set_option maxHeartbeats 6400000 in
theorem bands_good (la : List UInt8) (ha : la.length = 16) (d : Nat) (hd : d ≤ 16) (b : Int) (hb1 : -9223372036854775808 ≤ b) (hb2 : b ≤ 9223372036854775807) (w : World) :
    Calls Try.prog 4 #[.agg (bytesV la).toArray, .int .i64 d, .int .i64 b] w fun e w' => e = .returned (.bool true) ∧ Below w.heap.size w w' := by
  obtain ⟨i0, hi, hz0, hz3, hz4⟩ := info_parts infoB
  have hsz : (str la).size = 16 := ha
  have HRB := Lib.hid (fun (i : Nat) (h : i < 128) (w : World) => refBit_any (str la) (by rw [hsz]; decide) i (by rw [hsz]; exact h) w)
  have HBD := Lib.hid (fun w => band_any (str la) (by rw [hsz]; decide) d hd w)
  have HBE := Lib.hid (fun (s2 : ByteArray) (h : s2.size ≤ maxLen) (w : World) => below_any (str la) s2 (by rw [hsz]; decide) h d (by omega) w)
  have HA := Lib.hid ha
  clear ha hsz
  have h0 : (0 : Int) ≤ (d : Int) := by omega
  have h1 : (d : Int) ≤ 16 := by omega
  have HD := Lib.hid hd
  have HB12 := Lib.hid (And.intro hb1 hb2)
  go_enter Try.func4, Try.ntmps4
  go_wp2_with fail
  have hA : (w.alloc (.cells (bytesV la).toArray 45)).heap[w.heap.size]? = some (.cells (bytesV la).toArray 45 (0, 0)) := heap_alloc_at _ _ _ rfl
  have hG : w.grownBy (w.alloc (.cells (bytesV la).toArray 45)) none := World.grownBy_alloc _ _ _
  generalize w.alloc (.cells (bytesV la).toArray 45) = w0 at hA hG ⊢
  refine (bits_speaks _).mono ?_
  rintro e w1 ⟨rfl, g1⟩
  have G1 := Lib.hid (grownBy_trans hG g1)
  have hsA := blk_str (g1.heap hA (by simp)) 16
  rw [HA.out] at hsA
  have hslA := slice_sixteen w.heap.size w1
  clear g1 hG hA hb1 hb2
  go_wp2_with fail
  go_loopw [8, 9, 22, 23, 24, 25, 26, 27, 28, 29, 30, 31, 32] (fun nv iv _ _ _ _ _ _ _ _ _ _ _ wr => ∃ k : Nat, k ≤ d ∧ iv = .int .i64 k ∧ nv = .int .i64 (bandN (str la) k : Nat) ∧ w1 = wr) (fun _ iv _ _ _ _ _ _ _ _ _ _ _ _ => d - (intOf iv).toNat)
  case atStart => exact ⟨0, Nat.zero_le _, rfl, rfl, rfl⟩
  case round =>
    obtain ⟨k, hk, rfl, rfl, rfl⟩ := hrel
    by_cases hlt : k < d
    · have d1 : (k : Int) < (d : Int) := by omega
      have hN := bandN_lt (str la) k
      have hcap := band_cap k (by omega)
      have hu : bandN (str la) (k + 1) = 2 * bandN (str la) k + bitS (str la) k := rfl
      have hbl := bitS_le (str la) k
      have HK := Lib.hid (HRB.out k (by omega))
      generalize bandN (str la) k = n at hN hu
      generalize bitS (str la) k = x at hu hbl HK
      have e1 : (n : Int) < 65536 := by omega
      have e2 : 2 * (n : Int) + (x : Int) = ((bandN (str la) (k + 1) : Nat) : Int) := by omega
      have e3 : (x : Int) ≤ 1 := by omega
      clear hu hsA hslA
      go_wp2_with fail
      refine (HK.out _).mono ?_
      rintro e w2 ⟨rfl, rfl⟩
      go_wp2_with fail
      go_roundw
      case rel => exact ⟨k + 1, by omega, by go_num, by first | rfl | simp [*], by first | trivial | rfl⟩
      case measure => simp [intOf]; omega
    · have hkd : k = d := by omega
      subst hkd
      have d1 : ¬ (k : Int) < (k : Int) := by omega
      clear hsA hslA
      have hN := bandN_lt (str la) k
      have HFS := Lib.hid (fun w => first_any (bandN (str la) k) k hd hN w)
      have hcap := band_cap k hd
      have HBIT := Lib.hid (bandN_bit (str la) k)
      obtain ⟨n, hn⟩ : ∃ n, bandN (str la) k = n := ⟨_, rfl⟩
      rw [hn] at hN HFS HBD HBIT ⊢
      clear hn
      by_cases hbad : b < 0 ∨ ((2 ^ k : Nat) : Int) ≤ b
      · have HFN := Lib.hid (fun w => first_no b k (.inr (hbad.elim .inl fun h => .inr ⟨2 ^ k, by rw [Int.toNat_natCast]; simp, h⟩)) HB12.out.2 (by omega) w)
        obtain ⟨Z, hZ⟩ : ∃ Z, 2 ^ k = Z := ⟨_, rfl⟩
        have z1 : (2 : Int) ^ k = (Z : Int) := by rw [← hZ]; simp
        rw [hZ] at hbad hcap hN
        have z2 := wrap_i64_nat Z (by omega)
        clear hZ
        have hn16 : noughts16.size = 16 := rfl
        have kk0 : ¬ (k : Int) < 0 := by omega
        have kk1 : ¬ (16 : Int) < (k : Int) := by omega
        go_wp2_with fail
        refine (HFN.out _).mono ?_
        rintro e w2 ⟨rfl, g2⟩
        go_wp2_with fail
        refine (HBD.out _).mono ?_
        rintro e w3 ⟨rfl, g3⟩
        by_cases hb0 : b < 0
        · go_wp2_with (at_make; refine wpList_make_full _ rfl _ _ 32 rfl w3.heap.size 5 i0 (.int .u8 0) 1 Try.underlying32 hi hz0 hz3 _ _ _ _ 16 rfl rfl rfl rfl ?c1 ?c2 ?c3 ?_)
          case c1 => rw [hz4]; omega
          case c2 => unfold maxLen; omega
          case c3 => omega
          intro w4 hown hg
          have hm : (madeCells #[Value.int .u8 0] 16).toList = bytesV (List.replicate 16 0) := made_bytes 16
          rw [hm] at hown
          have hs := own_str hown
          have hq := noughts_eq
          have G4 := Lib.hid (grownBy_trans G1.out (grownBy_trans g2 (grownBy_trans g3 hg)))
          clear hown hm g2 g3 hg
          go_wp2_with fail
          go_ret
          exact ⟨rfl, below_grownBy G4.out⟩
        · have hbZ : (Z : Int) ≤ b := by omega
          clear hbad
          go_wp2_with (at_make; refine wpList_make_full _ rfl _ _ 32 rfl w3.heap.size 5 i0 (.int .u8 0) 1 Try.underlying32 hi hz0 hz3 _ _ _ _ 16 rfl rfl rfl rfl ?d1 ?d2 ?d3 ?_)
          case d1 => rw [hz4]; omega
          case d2 => unfold maxLen; omega
          case d3 => omega
          intro w4 hown hg
          have hm : (madeCells #[Value.int .u8 0] 16).toList = bytesV (List.replicate 16 0) := made_bytes 16
          rw [hm] at hown
          have hs := own_str hown
          have hq := noughts_eq
          have G4 := Lib.hid (grownBy_trans G1.out (grownBy_trans g2 (grownBy_trans g3 hg)))
          clear hown hm g2 g3 hg
          go_wp2_with fail
          go_ret
          exact ⟨rfl, below_grownBy G4.out⟩
      · obtain ⟨c, rfl⟩ : ∃ c : Nat, b = (c : Int) := ⟨b.toNat, by omega⟩
        have hc : c < 2 ^ k := by omega
        have HFC := Lib.hid (fun w => first_any c k hd hc w)
        obtain ⟨Z, hZ⟩ : ∃ Z, 2 ^ k = Z := ⟨_, rfl⟩
        have HZ := Lib.hid hZ
        have z1 : (2 : Int) ^ k = (Z : Int) := by rw [← hZ]; simp
        rw [hZ] at hbad hcap hN hc
        have z2 := wrap_i64_nat Z (by omega)
        have z3 : ¬ (Z : Int) ≤ (c : Int) := by omega
        have z4 : ¬ (c : Int) < 0 := by omega
        have kk0 : ¬ (k : Int) < 0 := by omega
        have kk1 : ¬ (16 : Int) < (k : Int) := by omega
        have hdc : decide (Z ≤ c) = false := by simp; omega
        clear hZ hbad
        go_wp2_with fail
        refine (HFC.out _).mono ?_
        rintro e w2 ⟨l, rfl, ⟨hl, hbits⟩, g2⟩
        have hls : (str l).size = 16 := hl
        have HBI := Lib.hid hbits
        have HRL := Lib.hid (fun (i : Nat) (h : i < 128) (w : World) => refBit_any (str l) (by rw [hls]; decide) i (by rw [hls]; exact h) w)
        have HBL := Lib.hid (fun w => band_any (str l) (by rw [hls]; decide) k hd w)
        have hbc : bandN (str l) k = c := by
          have := band_of_bits (str l) c k (fun i hi => by rw [bitS_str, HBI.out i, if_pos hi]) k (Nat.le_refl _)
          rw [Nat.sub_self, Nat.pow_zero, Nat.div_one, Nat.mod_eq_of_lt (by rw [HZ.out]; exact hc)] at this
          exact this
        rw [hbc] at HBL
        have G2 := Lib.hid (grownBy_trans G1.out g2)
        clear hbits hbc g2 hl
        go_wp2_with fail
        refine (HBD.out _).mono ?_
        rintro e w3 ⟨rfl, g3⟩
        have G3 := Lib.hid (grownBy_trans G2.out g3)
        clear g3
        generalize Value.bool (decide ((c : Int) < 0) || decide (Z ≤ c)) = q2
        generalize Value.bool (decide (Z ≤ c)) = q1
        generalize Value.bool (decide ((c : Int) < 0)) = q3
        go_wp2_with fail
        go_loopw [11, 67, 68, 69, 70, 71, 72, 73, 74] (fun iv _ _ _ _ _ _ _ _ wr => ∃ j : Nat, k ≤ j ∧ j ≤ 128 ∧ iv = .int .i64 j ∧ w3 = wr) (fun iv _ _ _ _ _ _ _ _ _ => 128 - (intOf iv).toNat)
        case atStart => exact ⟨k, Nat.le_refl _, by omega, rfl, rfl⟩
        case round =>
          obtain ⟨j, hkj, hj, rfl, rfl⟩ := hrel
          by_cases hj128 : j < 128
          · have j1 : (j : Int) < 128 := by omega
            have HJ := Lib.hid (HRL.out j hj128)
            have hz : bitS (str l) j = 0 := by rw [bitS_str, HBI.out j, if_neg (by omega)]
            rw [hz] at HJ
            clear hz
            go_wp2_with fail
            refine (HJ.out _).mono ?_
            rintro e w4 ⟨rfl, rfl⟩
            go_wp2_with fail
            go_roundw
            case rel => exact ⟨j + 1, by omega, by omega, by go_num, by first | trivial | rfl⟩
            case measure => simp [intOf]; omega
          · have j1 : ¬ (j : Int) < 128 := by omega
            go_wp2_with fail
            refine (HBL.out _).mono ?_
            rintro e w4 ⟨rfl, g4⟩
            go_wp2_with fail
            refine (HFS.out _).mono ?_
            rintro e w5 ⟨m, rfl, ⟨hm, hmb⟩, g5⟩
            have hbe : belowB (str la) (str m) k = true := by
              rw [belowB_iff]
              intro i hi
              rw [← HBIT.out i hi, bitS_str m, hmb i, if_pos hi]
            have HB2 := Lib.hid (HBE.out (str m) (by rw [show (str m).size = 16 from hm]; decide))
            rw [hbe] at HB2
            clear hmb hbe
            go_wp2_with fail
            refine (HB2.out _).mono ?_
            rintro e w6 ⟨rfl, g6⟩
            go_wp2_with fail
            go_ret
            exact ⟨rfl, below_grownBy (grownBy_trans G3.out (grownBy_trans g4 (grownBy_trans g5 g6)))⟩
theorem bitsBands_walk (la : List UInt8) (ha : la.length = 16) (z b : Int) (hz : -9223372036854775808 ≤ z ∧ z ≤ 9223372036854775807) (hb : -9223372036854775808 ≤ b ∧ b ≤ 9223372036854775807) (w : World) :
    Calls Try.prog 4 #[.agg (bytesV la).toArray, .int .i64 z, .int .i64 b] w fun e w' => e = .returned (.bool true) ∧ Below w.heap.size w w' := by
  by_cases h : z < 0 ∨ 16 < z
  · exact bands_bad la ha z b h hz.1 hz.2 hb.2 w
  · obtain ⟨d, rfl⟩ : ∃ d : Nat, z = (d : Int) := ⟨z.toNat, by omega⟩
    exact bands_good la ha d (by omega) b hb.1 hb.2 w
end Go.Proofs.Ytfpbnfjlabhhoaa
