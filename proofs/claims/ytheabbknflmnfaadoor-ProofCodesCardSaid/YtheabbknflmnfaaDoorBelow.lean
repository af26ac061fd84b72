/- Below, to whatever depth. -/
import Derived.Test.YtheabbknflmnfaaDoorBitsAB
namespace Go.Proofs.YtheabbknflmnfaaDoor
open Go.RowKit

set_option maxRecDepth 100000 in
set_option maxHeartbeats 1600000 in
theorem below_over (a b : ByteArray) (ha : a.size ≤ maxLen) (hb : b.size ≤ maxLen) (z : Int) (hz : 128 < z) (w : World) :
    Calls Tryd.prog 48 #[.string a, .string b, .int .i64 z] w fun e w' => e = .returned (.bool (belowB a b 128)) ∧ w.grownBy w' none := by
  have HA := Lib.hid (fun (i : Nat) (hi : i ≤ 128) (w : World) => bit_any a ha i (by omega) w)
  have HB := Lib.hid (fun (i : Nat) (hi : i ≤ 128) (w : World) => bit_any b hb i (by omega) w)
  have h2 : ¬ z ≤ 128 := by omega
  clear ha hb
  go_enter Tryd.func48, Tryd.ntmps48
  go_wp2_with fail
  go_loopw [7, 10, 11, 12, 13, 14, 15, 16, 17, 18, 19, 20] (fun _ iv _ _ _ _ _ _ _ _ _ _ wr => ∃ (k : Nat), k ≤ 128 ∧ iv = .int .i64 k ∧ Hid (belowB a b k = true) ∧ Hid (w.grownBy wr none)) (fun _ iv _ _ _ _ _ _ _ _ _ _ _ => 128 - (intOf iv).toNat)
  case atStart => exact ⟨0, Nat.zero_le _, rfl, rfl, World.grownBy.refl _ _⟩
  case round =>
    obtain ⟨k, hk, rfl, HK, HW⟩ := hrel
    by_cases hlt : k < 128
    · have d1 : (k : Int) < 128 := by omega
      have hs := belowB_succ a b k
      rw [HK.out, Bool.true_and] at hs
      have H1 := Lib.hid (HA.out k (by omega))
      have H2 := Lib.hid (HB.out k (by omega))
      by_cases hxy : bitS a k = bitS b k
      · have e1 : ((bitS a k : Nat) : Int) = ((bitS b k : Nat) : Int) := by rw [hxy]
        rw [hxy, beq_self_eq_true] at hs
        have HS := Lib.hid hs
        clear hs
        have e2 : (((bitS a k : Nat) : Int) != ((bitS b k : Nat) : Int)) = false := by rw [e1]; simp
        generalize bitS a k = x at *
        generalize bitS b k = y at *
        go_wp2_with fail
        refine (H1.out _).mono ?_
        rintro e w2 ⟨rfl, g2⟩
        go_wp2_with fail
        refine (H2.out _).mono ?_
        rintro e w3 ⟨rfl, g3⟩
        go_wp2_with fail
        go_roundw
        case rel => exact ⟨k + 1, by omega, by go_num, HS.out, grownBy_trans HW.out (grownBy_trans g2 g3)⟩
        case measure => simp [intOf]; omega
      · have hf : belowB a b 128 = false := by
          cases h : belowB a b 128 with
          | false => rfl
          | true => exact absurd ((belowB_iff a b 128).1 h k hlt) hxy
        have e2 : (((bitS a k : Nat) : Int) != ((bitS b k : Nat) : Int)) = true := by simp; omega
        have HF := Lib.hid hf
        clear hs hf
        generalize bitS a k = x at *
        generalize bitS b k = y at *
        go_wp2_with fail
        refine (H1.out _).mono ?_
        rintro e w2 ⟨rfl, g2⟩
        go_wp2_with fail
        refine (H2.out _).mono ?_
        rintro e w3 ⟨rfl, g3⟩
        go_wp2_with fail
        go_ret
        exact ⟨by rw [HF.out]; rfl, grownBy_trans HW.out (grownBy_trans g2 g3)⟩
    · have hkd : k = 128 := by omega
      subst hkd
      have d1 : ¬ ((128 : Nat) : Int) < 128 := by omega
      go_wp2_with fail
      go_ret
      exact ⟨by rw [HK.out]; rfl, HW.out⟩
set_option maxRecDepth 100000 in
theorem below_neg (a b : ByteArray) (z : Int) (hz : z < 0) (w : World) :
    Calls Tryd.prog 48 #[.string a, .string b, .int .i64 z] w fun e w' => e = .returned (.bool true) ∧ w.grownBy w' none := by
  have h1 : ¬ (128 : Int) < z := by omega
  have h2 : z ≤ 128 := by omega
  have h3 : ¬ (0 : Int) < z := by omega
  go_enter Tryd.func48, Tryd.ntmps48
  go_wp2_with fail
  refine wp_loop_rounds 1 ?_
  rw [rounds_succ]
  go_wp2_with fail
  go_ret
  exact ⟨rfl, World.grownBy.refl _ _⟩
/-- a depth, from 0 to 128 -/
def capD (z : Int) : Nat := (min (max z 0) 128).toNat
theorem capD_le (z : Int) : capD z ≤ 128 := by unfold capD; omega
theorem below_int (a b : ByteArray) (ha : a.size ≤ maxLen) (hb : b.size ≤ maxLen) (z : Int) (w : World) :
    Calls Tryd.prog 48 #[.string a, .string b, .int .i64 z] w fun e w' => e = .returned (.bool (belowB a b (capD z))) ∧ w.grownBy w' none := by
  by_cases h1 : z < 0
  · have : capD z = 0 := by unfold capD; omega
    rw [this]
    exact below_neg a b z h1 w
  · by_cases h2 : 128 < z
    · have : capD z = 128 := by unfold capD; omega
      rw [this]
      exact below_over a b ha hb z h2 w
    · obtain ⟨m, rfl⟩ : ∃ m : Nat, z = (m : Int) := ⟨z.toNat, by omega⟩
      have : capD (m : Int) = m := by unfold capD; omega
      rw [this]
      exact below_any a b ha hb m (by omega) w
end Go.Proofs.YtheabbknflmnfaaDoor
