/- Bits of numbers of kind i64 that are not below 0. No walk. · The walks of bits' functions. · The walks of bits' loops. -/
import Derived.Laws.Bits64b
import Derived.WalkKit
import Derived.Test.YtheabbknflmnfaaDoorMem
import Derived.Test.YtheabbknflmnfaaDoorOctetSpec
import Derived.WalkSpells
import Derived.WalkLawsBesides
import Derived.Laws.IdiomStrings
import Derived.Deep.LoopGhost
import Derived.Deep.DeepCutAuto
import Derived.Deep.RegionWith
namespace Go.Proofs.YtheabbknflmnfaaDoor
open Go.RowKit

theorem wrap_i64_nat (n : Nat) (h : n < 9223372036854775808) : IntKind.i64.wrap (n : Int) = (n : Int) := by
  simp only [IntKind.wrap, IntKind.bits, IntKind.signed, IntKind.min, IntKind.max]; simp; omega
theorem bits_and_i64_nat (a b : Nat) (ha : a < 9223372036854775808) (hb : b < 9223372036854775808) :
    bits .and .i64 (a : Int) (b : Int) = ((a &&& b : Nat) : Int) := by
  have hx : a &&& b < 2 ^ 63 := Nat.and_lt_two_pow _ (by omega)
  have h1 : (BitVec.ofInt 64 (a : Int)).toNat = a := by
    rw [BitVec.ofInt_natCast, BitVec.toNat_ofNat]; exact Nat.mod_eq_of_lt (by omega)
  have h2 : (BitVec.ofInt 64 (b : Int)).toNat = b := by
    rw [BitVec.ofInt_natCast, BitVec.toNat_ofNat]; exact Nat.mod_eq_of_lt (by omega)
  show IntKind.i64.wrap ((BitVec.ofInt 64 (a : Int) &&& BitVec.ofInt 64 (b : Int)).toNat : Int) = _
  rw [BitVec.toNat_and, h1, h2, wrap_i64_nat _ (by omega)]
theorem bits_or_i64_nat (a b : Nat) (ha : a < 9223372036854775808) (hb : b < 9223372036854775808) :
    bits .or .i64 (a : Int) (b : Int) = ((a ||| b : Nat) : Int) := by
  have hx : a ||| b < 2 ^ 63 := Nat.or_lt_two_pow (by omega) (by omega)
  have h1 : (BitVec.ofInt 64 (a : Int)).toNat = a := by
    rw [BitVec.ofInt_natCast, BitVec.toNat_ofNat]; exact Nat.mod_eq_of_lt (by omega)
  have h2 : (BitVec.ofInt 64 (b : Int)).toNat = b := by
    rw [BitVec.ofInt_natCast, BitVec.toNat_ofNat]; exact Nat.mod_eq_of_lt (by omega)
  show IntKind.i64.wrap ((BitVec.ofInt 64 (a : Int) ||| BitVec.ofInt 64 (b : Int)).toNat : Int) = _
  rw [BitVec.toNat_or, h1, h2, wrap_i64_nat _ (by omega)]
theorem bits_xor_i64_nat (a b : Nat) (ha : a < 9223372036854775808) (hb : b < 9223372036854775808) :
    bits .xor .i64 (a : Int) (b : Int) = ((a ^^^ b : Nat) : Int) := by
  have hx : a ^^^ b < 2 ^ 63 := Nat.xor_lt_two_pow (by omega) (by omega)
  have h1 : (BitVec.ofInt 64 (a : Int)).toNat = a := by
    rw [BitVec.ofInt_natCast, BitVec.toNat_ofNat]; exact Nat.mod_eq_of_lt (by omega)
  have h2 : (BitVec.ofInt 64 (b : Int)).toNat = b := by
    rw [BitVec.ofInt_natCast, BitVec.toNat_ofNat]; exact Nat.mod_eq_of_lt (by omega)
  show IntKind.i64.wrap ((BitVec.ofInt 64 (a : Int) ^^^ BitVec.ofInt 64 (b : Int)).toNat : Int) = _
  rw [BitVec.toNat_xor, h1, h2, wrap_i64_nat _ (by omega)]
theorem and_one_i64 (m : Nat) (h : m < 9223372036854775808) : bits .and .i64 (m : Int) 1 = ((m % 2 : Nat) : Int) := by
  have := bits_and_i64_nat m 1 h (by decide)
  rw [Nat.and_one_is_mod] at this
  exact this
end Go.Proofs.YtheabbknflmnfaaDoor

namespace Go.Proofs.YtheabbknflmnfaaDoor
open Go.RowKit

/-- the bit of a text -/
def bitS (s : ByteArray) (i : Nat) : Nat := ((s.data.toList[i / 8]?).getD 0).toNat / 2 ^ (7 - i % 8) % 2
theorem bitS_le (s : ByteArray) (i : Nat) : bitS s i ≤ 1 := by unfold bitS; omega
theorem bitS_out (s : ByteArray) (i : Nat) (h : s.size ≤ i / 8) : bitS s i = 0 := by
  unfold bitS
  rw [List.getElem?_eq_none (by simpa using h)]
  simp
theorem bitS_in (s : ByteArray) (i q r : Nat) (hq : i / 8 = q) (hr : i % 8 = r) (h : q < s.size) : bitS s i = s[q].toNat / 2 ^ (7 - r) % 2 := by
  unfold bitS
  subst hq hr
  rw [List.getElem?_eq_getElem (by simpa using h)]
  rfl

set_option maxHeartbeats 400000 in
theorem place_any (r q : Nat) (hr : r < 8) (d : Nat) (hd : d = 8 * q + r) (hb : d < 9223372036854775808) (w : World) :
    Calls Tryd.prog 64 #[.int .i64 d] w fun e w' => e = .returned (.int .i64 ((7 - r : Nat) : Int)) ∧ w = w' := by
  have h1 : (d : Int) % 8 = (r : Int) := by omega
  have h2 : (7 : Int) - (r : Int) = ((7 - r : Nat) : Int) := by omega
  have h3 : ((7 - r : Nat) : Int) < 8 := by omega
  go_enter Tryd.func64, Tryd.ntmps64
  go_wp2_with fail
  go_ret
  exact ⟨congrArg (fun z => Ending.returned (.int .i64 z)) (by omega), rfl⟩

set_option maxHeartbeats 400000 in
theorem bands_any (d : Nat) (hb : d < 9223372036854775808) (w : World) :
    Calls Tryd.prog 63 #[.int .i64 d] w fun e w' => e = .returned (.bool (decide (d ≤ 16))) ∧ w = w' := by
  have h0 : (0 : Int) ≤ (d : Int) := by omega
  by_cases h : d ≤ 16
  · have h1 : (d : Int) ≤ 16 := by omega
    go_enter Tryd.func63, Tryd.ntmps63
    go_wp2_with fail
    go_ret
    exact ⟨by simp [h], rfl⟩
  · have h1 : ¬ (d : Int) ≤ 16 := by omega
    go_enter Tryd.func63, Tryd.ntmps63
    go_wp2_with fail
    go_ret
    exact ⟨by simp [h], rfl⟩
theorem bands_neg (z : Int) (hz : z < 0) (w : World) :
    Calls Tryd.prog 63 #[.int .i64 z] w fun e w' => e = .returned (.bool false) ∧ w = w' := by
  have h0 : ¬ (0 : Int) ≤ z := by omega
  go_enter Tryd.func63, Tryd.ntmps63
  go_wp2_with fail
  go_ret
  exact ⟨rfl, rfl⟩

theorem shr_bit (c k : Nat) (hc : c < 256) : (c : Int) / 2 ^ k = ((c / 2 ^ k : Nat) : Int) := by
  rw [Int.natCast_ediv]; simp
set_option maxRecDepth 100000 in
set_option maxHeartbeats 1600000 in
theorem bit_any (s : ByteArray) (hs : s.size ≤ maxLen) (d : Nat) (hb : d < 9223372036854775808) (w : World) :
    Calls Tryd.prog 69 #[.string s, .int .i64 d] w fun e w' => e = .returned (.int .i64 (bitS s d : Nat)) ∧ w.grownBy w' none := by
  unfold maxLen at hs
  obtain ⟨q, hq⟩ : ∃ q, d / 8 = q := ⟨_, rfl⟩
  obtain ⟨r, hr⟩ : ∃ r, d % 8 = r := ⟨_, rfl⟩
  have h0 : (0 : Int) ≤ (d : Int) := by omega
  have h00 : ¬ (d : Int) < 0 := by omega
  have hdq : (d : Int) / 8 = (q : Int) := by omega
  by_cases hin : q < s.size
  · have e := bitS_in s d q r hq hr hin
    have h1 : ¬ (s.size : Int) ≤ (q : Int) := by omega
    have h2 : (q : Int) < (s.size : Int) := by omega
    have h3 : (0 : Int) ≤ (q : Int) := by omega
    have h4 := wrap_i64_nat q (by omega)
    have HC := Lib.hid (fun w => place_any r q (by omega) d (by omega) hb w)
    have hr7 : 7 - r < 8 := by omega
    generalize 7 - r = k at HC e hr7
    have hc := s[q].toNat_lt
    have hx : (s[q].toNat : Int) / 2 ^ k = ((s[q].toNat / 2 ^ k : Nat) : Int) := shr_bit _ k hc
    have hy : s[q].toNat / 2 ^ k < 256 := Nat.lt_of_le_of_lt (Nat.div_le_self _ _) hc
    have hz := and_one_i64 (s[q].toNat / 2 ^ k) (by omega)
    rw [← e] at hz
    generalize s[q].toNat / 2 ^ k = m at hx hy hz
    have hm : (m : Int) < 256 := by omega
    have hmw := wrap_i64_nat m (by omega)
    clear e hc
    have hk0 : (0 : Int) ≤ (k : Int) := by omega
    have hk8 : (k : Int) < 8 := by omega
    go_enter Tryd.func69, Tryd.ntmps69
    go_wp2_with fail
    go_region_with ((go_at_call 64; refine (HC.out _).mono ?_; rintro e w1 ⟨rfl, rfl⟩))
    all_goals
      go_wp2_with fail
      go_ret
      exact ⟨by first | rfl | (show Ending.returned (.int .i64 _) = _; rfl), grownBy_drew (World.grownBy.refl _ _)⟩
  · have e := bitS_out s d (by omega)
    have h1 : (s.size : Int) ≤ (q : Int) := by omega
    rw [e]
    go_enter Tryd.func69, Tryd.ntmps69
    go_wp2_with fail
    go_ret
    exact ⟨rfl, World.grownBy.refl _ _⟩
end Go.Proofs.YtheabbknflmnfaaDoor

namespace Go.Proofs.YtheabbknflmnfaaDoor
open Go.RowKit

/-- the number of the first bits -/
def bandN (s : ByteArray) : Nat → Nat
  | 0 => 0
  | k + 1 => 2 * bandN s k + bitS s k
theorem bandN_lt (s : ByteArray) : ∀ k, bandN s k < 2 ^ k
  | 0 => by simp [bandN]
  | k + 1 => by
    have := bandN_lt s k
    have := bitS_le s k
    rw [bandN, Nat.pow_succ]
    omega
theorem or_bit (n b : Nat) (hb : b ≤ 1) : 2 * n ||| b = 2 * n + b := by
  have := Nat.two_pow_add_eq_or_of_lt (i := 1) (b := b) (by omega) n
  simp at this
  rw [← this]
theorem band_cap (k : Nat) (h : k ≤ 16) : 2 ^ k ≤ 65536 := Nat.le_trans (Nat.pow_le_pow_right (by decide) h) (by decide)
/-- are the first bits alike? -/
def belowB (a b : ByteArray) (n : Nat) : Bool := (List.range n).all fun i => bitS a i == bitS b i
theorem belowB_succ (a b : ByteArray) (n : Nat) : belowB a b (n + 1) = (belowB a b n && (bitS a n == bitS b n)) := by
  simp [belowB, List.range_succ, List.all_append]
theorem belowB_iff (a b : ByteArray) (n : Nat) : belowB a b n = true ↔ ∀ i, i < n → bitS a i = bitS b i := by
  simp [belowB]

set_option maxRecDepth 100000 in
set_option maxHeartbeats 1600000 in
theorem band_any (s : ByteArray) (hs : s.size ≤ maxLen) (d : Nat) (hd : d ≤ 16) (w : World) :
    Calls Tryd.prog 42 #[.string s, .int .i64 d] w fun e w' => e = .returned (.int .i64 (bandN s d : Nat)) ∧ w.grownBy w' none := by
  have HB := Lib.hid (fun (i : Nat) (hi : i ≤ 16) (w : World) => bit_any s hs i (by omega) w)
  have HM := Lib.hid (bands_any d (by omega))
  have HD := Lib.hid hd
  have h16 : decide (d ≤ 16) = true := by simp [hd]
  rw [h16] at HM
  clear hs h16
  go_enter Tryd.func42, Tryd.ntmps42
  go_wp2_with fail
  refine (HM.out _).mono ?_
  rintro e w1 ⟨rfl, rfl⟩
  clear HM
  go_wp2_with fail
  go_loopw [5, 6, 11, 12, 13, 14, 15, 16, 17, 18, 19, 20] (fun nv _ iv _ _ _ _ _ _ _ _ _ wr => ∃ (k : Nat), k ≤ d ∧ iv = .int .i64 k ∧ nv = .int .i64 (bandN s k : Nat) ∧ Hid (w.grownBy wr none)) (fun _ _ iv _ _ _ _ _ _ _ _ _ _ => d - (intOf iv).toNat)
  case atStart => exact ⟨0, Nat.zero_le _, rfl, rfl, World.grownBy.refl _ _⟩
  case round =>
    obtain ⟨k, hk, rfl, rfl, HW⟩ := hrel
    have hb := bandN_lt s k
    have hc := band_cap k (by omega)
    have hu : bandN s (k + 1) = 2 * bandN s k + bitS s k := rfl
    have hbl := bitS_le s k
    by_cases hlt : k < d
    · have d1 : (k : Int) < (d : Int) := by omega
      have HK := Lib.hid (HB.out k (by omega))
      generalize bandN s k = n at hb hu
      generalize bitS s k = b at hu hbl HK
      have e1 : (n : Int) * 2 = ((2 * n : Nat) : Int) := by omega
      have e2 := bits_or_i64_nat (2 * n) b (by omega) (by omega)
      rw [or_bit n b hbl, ← hu] at e2
      have HU := Lib.hid hu
      have e3 : (n : Int) < 65536 := by omega
      have e2 : bits .or .i64 (2 * (n : Int)) (b : Int) = ((bandN s (k + 1) : Nat) : Int) := by rw [show (2 * (n : Int)) = ((2 * n : Nat) : Int) from by omega]; exact e2
      clear hu
      go_wp2_with fail
      refine (HK.out _).mono ?_
      rintro e w2 ⟨rfl, g2⟩
      go_wp2_with fail
      go_roundw
      case rel => exact ⟨k + 1, by omega, by go_num, by first | rfl | simp [*], grownBy_trans HW.out g2⟩
      case measure => simp [intOf]; omega
    · have hkd : k = d := by omega
      subst hkd
      have d1 : ¬ (k : Int) < (k : Int) := by omega
      go_wp2_with fail
      go_ret
      exact ⟨rfl, HW.out⟩

set_option maxRecDepth 100000 in
set_option maxHeartbeats 1600000 in
theorem below_any (a b : ByteArray) (ha : a.size ≤ maxLen) (hb : b.size ≤ maxLen) (m : Nat) (hm8 : m ≤ 128) (w : World) :
    Calls Tryd.prog 48 #[.string a, .string b, .int .i64 m] w fun e w' => e = .returned (.bool (belowB a b m)) ∧ w.grownBy w' none := by
  have HA := Lib.hid (fun (i : Nat) (hi : i ≤ 128) (w : World) => bit_any a ha i (by omega) w)
  have HB := Lib.hid (fun (i : Nat) (hi : i ≤ 128) (w : World) => bit_any b hb i (by omega) w)
  have h1 : ¬ (128 : Int) < (m : Int) := by omega
  have h2 : (m : Int) ≤ 128 := by omega
  clear ha hb
  go_enter Tryd.func48, Tryd.ntmps48
  go_wp2_with fail
  go_loopw [7, 10, 11, 12, 13, 14, 15, 16, 17, 18, 19, 20] (fun _ iv _ _ _ _ _ _ _ _ _ _ wr => ∃ (k : Nat), k ≤ m ∧ iv = .int .i64 k ∧ Hid (belowB a b k = true) ∧ Hid (w.grownBy wr none)) (fun _ iv _ _ _ _ _ _ _ _ _ _ _ => m - (intOf iv).toNat)
  case atStart => exact ⟨0, Nat.zero_le _, rfl, rfl, World.grownBy.refl _ _⟩
  case round =>
    obtain ⟨k, hk, rfl, HK, HW⟩ := hrel
    by_cases hlt : k < m
    · have d1 : (k : Int) < (m : Int) := by omega
      have hs := belowB_succ a b k
      rw [HK.out, Bool.true_and] at hs
      have H1 := Lib.hid (HA.out k (by omega))
      have H2 := Lib.hid (HB.out k (by omega))
      by_cases hxy : bitS a k = bitS b k
      · have e1 : ((bitS a k : Nat) : Int) = ((bitS b k : Nat) : Int) := by rw [hxy]
        rw [hxy, beq_self_eq_true] at hs
        have HS := Lib.hid hs
        clear hs
        have e2 : (((bitS a k : Nat) : Int) != ((bitS b k : Nat) : Int)) = false := by rw [e1]; simp
        generalize bitS a k = x at *
        generalize bitS b k = y at *
        go_wp2_with fail
        refine (H1.out _).mono ?_
        rintro e w2 ⟨rfl, g2⟩
        go_wp2_with fail
        refine (H2.out _).mono ?_
        rintro e w3 ⟨rfl, g3⟩
        go_wp2_with fail
        go_roundw
        case rel => exact ⟨k + 1, by omega, by go_num, HS.out, grownBy_trans HW.out (grownBy_trans g2 g3)⟩
        case measure => simp [intOf]; omega
      · have hf : belowB a b m = false := by
          cases h : belowB a b m with
          | false => rfl
          | true => exact absurd ((belowB_iff a b m).1 h k hlt) hxy
        have e2 : (((bitS a k : Nat) : Int) != ((bitS b k : Nat) : Int)) = true := by simp; omega
        have HF := Lib.hid hf
        clear hs hf
        generalize bitS a k = x at *
        generalize bitS b k = y at *
        go_wp2_with fail
        refine (H1.out _).mono ?_
        rintro e w2 ⟨rfl, g2⟩
        go_wp2_with fail
        refine (H2.out _).mono ?_
        rintro e w3 ⟨rfl, g3⟩
        go_wp2_with fail
        go_ret
        exact ⟨by rw [HF.out]; rfl, grownBy_trans HW.out (grownBy_trans g2 g3)⟩
    · have hkd : k = m := by omega
      subst hkd
      have d1 : ¬ (k : Int) < (k : Int) := by omega
      go_wp2_with fail
      go_ret
      exact ⟨by rw [HK.out]; rfl, HW.out⟩

set_option maxRecDepth 100000 in
set_option maxHeartbeats 1600000 in
theorem common_any (a b : ByteArray) (ha : a.size ≤ 1000000000) (m : Nat) (hm : a.size = m) (hmb : b.size = m) (w : World) :
    Calls Tryd.prog 79 #[.string a, .string b] w fun e w' => ∃ k : Nat, e = .returned (.int .i64 k) ∧ (k ≤ 8 * m ∧ belowB a b k = true ∧ (k < 8 * m → bitS a k ≠ bitS b k)) ∧ w.grownBy w' none := by
  have HA := Lib.hid (fun (i : Nat) (hi : i ≤ 8 * m) (w : World) => bit_any a (by unfold maxLen; omega) i (by omega) w)
  have HB := Lib.hid (fun (i : Nat) (hi : i ≤ 8 * m) (w : World) => bit_any b (by unfold maxLen; omega) i (by omega) w)
  have h1 : ¬ (b.size : Int) < (a.size : Int) := by omega
  have h3 : (a.size : Int) = (m : Int) := by omega
  have h4 : (b.size : Int) = (m : Int) := by omega
  have hm8 : m ≤ 1000000000 := by omega
  obtain ⟨N, hN⟩ : ∃ N, 8 * m = N := ⟨_, rfl⟩
  rw [hN] at HA HB ⊢
  have h2 : 8 * (m : Int) = (N : Int) := by omega
  have hN8 : N ≤ 8000000000 := by omega
  clear hN
  go_enter Tryd.func79, Tryd.ntmps79
  go_wp2_with fail
  go_loopw [6, 14, 15, 16, 17, 18, 19, 20, 21, 22, 23, 25] (fun _ iv _ _ _ _ _ _ _ _ _ _ wr => ∃ (k : Nat), k ≤ N ∧ iv = .int .i64 k ∧ Hid (belowB a b k = true) ∧ Hid (w.grownBy wr none)) (fun _ iv _ _ _ _ _ _ _ _ _ _ _ => N - (intOf iv).toNat)
  case atStart => exact ⟨0, Nat.zero_le _, rfl, rfl, World.grownBy.refl _ _⟩
  case round =>
    obtain ⟨k, hk, rfl, HK, HW⟩ := hrel
    by_cases hlt : k < N
    · have d1 : (k : Int) < (N : Int) := by omega
      have hs := belowB_succ a b k
      rw [HK.out, Bool.true_and] at hs
      have H1 := Lib.hid (HA.out k (by omega))
      have H2 := Lib.hid (HB.out k (by omega))
      by_cases hxy : bitS a k = bitS b k
      · have e1 : ((bitS a k : Nat) : Int) = ((bitS b k : Nat) : Int) := by rw [hxy]
        rw [hxy, beq_self_eq_true] at hs
        have HS := Lib.hid hs
        clear hs
        have e2 : (((bitS a k : Nat) : Int) != ((bitS b k : Nat) : Int)) = false := by rw [e1]; simp
        generalize bitS a k = x at H1 H2 e1 e2
        generalize bitS b k = y at H1 H2 e1 e2
        go_wp2_with fail
        refine (H1.out _).mono ?_
        rintro e w2 ⟨rfl, g2⟩
        go_wp2_with fail
        refine (H2.out _).mono ?_
        rintro e w3 ⟨rfl, g3⟩
        go_wp2_with fail
        go_roundw
        case rel => exact ⟨k + 1, by omega, by go_num, HS.out, grownBy_trans HW.out (grownBy_trans g2 g3)⟩
        case measure => simp [intOf]; omega
      · have e2 : (((bitS a k : Nat) : Int) != ((bitS b k : Nat) : Int)) = true := by simp; omega
        have HXY := Lib.hid hxy
        clear hs hxy
        obtain ⟨x, hx⟩ : ∃ x, bitS a k = x := ⟨_, rfl⟩
        obtain ⟨y, hy⟩ : ∃ y, bitS b k = y := ⟨_, rfl⟩
        rw [hx] at H1 e2
        rw [hy] at H2 e2
        clear hx hy
        go_wp2_with fail
        refine (H1.out _).mono ?_
        rintro e w2 ⟨rfl, g2⟩
        go_wp2_with fail
        refine (H2.out _).mono ?_
        rintro e w3 ⟨rfl, g3⟩
        go_wp2_with fail
        go_ret
        exact ⟨k, rfl, ⟨hk, HK.out, fun _ => HXY.out⟩, grownBy_trans HW.out (grownBy_trans g2 g3)⟩
    · have hkd : k = N := by omega
      subst hkd
      have d1 : ¬ (k : Int) < (k : Int) := by omega
      go_wp2_with fail
      go_ret
      exact ⟨k, rfl, ⟨hk, HK.out, fun h => absurd h (by omega)⟩, HW.out⟩
end Go.Proofs.YtheabbknflmnfaaDoor
