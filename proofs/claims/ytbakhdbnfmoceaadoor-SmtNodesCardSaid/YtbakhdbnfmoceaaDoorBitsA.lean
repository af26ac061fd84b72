/- The walks of bits' functions. -/
import Derived.Test.YtbakhdbnfmoceaaDoorMem
import Derived.Test.YtbakhdbnfmoceaaDoorOctetSpec
import Derived.Test.YtbakhdbnfmoceaaDoorBits
import Derived.WalkSpells
import Derived.WalkLawsBesides
import Derived.Laws.IdiomStrings
import Derived.Deep.LoopGhost
import Derived.Deep.DeepCutAuto
import Derived.Deep.RegionWith
namespace Go.Proofs.YtbakhdbnfmoceaaDoor
open Go.RowKit

/-- the bit of a text -/
def bitS (s : ByteArray) (i : Nat) : Nat := ((s.data.toList[i / 8]?).getD 0).toNat / 2 ^ (7 - i % 8) % 2
theorem bitS_le (s : ByteArray) (i : Nat) : bitS s i ≤ 1 := by unfold bitS; omega
theorem bitS_out (s : ByteArray) (i : Nat) (h : s.size ≤ i / 8) : bitS s i = 0 := by
  unfold bitS
  rw [List.getElem?_eq_none (by simpa using h)]
  simp
theorem bitS_in (s : ByteArray) (i q r : Nat) (hq : i / 8 = q) (hr : i % 8 = r) (h : q < s.size) : bitS s i = s[q].toNat / 2 ^ (7 - r) % 2 := by
  unfold bitS
  subst hq hr
  rw [List.getElem?_eq_getElem (by simpa using h)]
  rfl

set_option maxHeartbeats 400000 in
theorem place_any (r q : Nat) (hr : r < 8) (d : Nat) (hd : d = 8 * q + r) (hb : d < 9223372036854775808) (w : World) :
    Calls Tryd.prog 50 #[.int .i64 d] w fun e w' => e = .returned (.int .i64 ((7 - r : Nat) : Int)) ∧ w = w' := by
  have h1 : (d : Int) % 8 = (r : Int) := by omega
  have h2 : (7 : Int) - (r : Int) = ((7 - r : Nat) : Int) := by omega
  have h3 : ((7 - r : Nat) : Int) < 8 := by omega
  go_enter Tryd.func50, Tryd.ntmps50
  go_wp2_with fail
  go_ret
  exact ⟨congrArg (fun z => Ending.returned (.int .i64 z)) (by omega), rfl⟩

set_option maxHeartbeats 400000 in
theorem bands_any (d : Nat) (hb : d < 9223372036854775808) (w : World) :
    Calls Tryd.prog 47 #[.int .i64 d] w fun e w' => e = .returned (.bool (decide (d ≤ 16))) ∧ w = w' := by
  have h0 : (0 : Int) ≤ (d : Int) := by omega
  by_cases h : d ≤ 16
  · have h1 : (d : Int) ≤ 16 := by omega
    go_enter Tryd.func47, Tryd.ntmps47
    go_wp2_with fail
    go_ret
    exact ⟨by simp [h], rfl⟩
  · have h1 : ¬ (d : Int) ≤ 16 := by omega
    go_enter Tryd.func47, Tryd.ntmps47
    go_wp2_with fail
    go_ret
    exact ⟨by simp [h], rfl⟩
theorem bands_neg (z : Int) (hz : z < 0) (w : World) :
    Calls Tryd.prog 47 #[.int .i64 z] w fun e w' => e = .returned (.bool false) ∧ w = w' := by
  have h0 : ¬ (0 : Int) ≤ z := by omega
  go_enter Tryd.func47, Tryd.ntmps47
  go_wp2_with fail
  go_ret
  exact ⟨rfl, rfl⟩

theorem shr_bit (c k : Nat) (hc : c < 256) : (c : Int) / 2 ^ k = ((c / 2 ^ k : Nat) : Int) := by
  rw [Int.natCast_ediv]; simp
set_option maxRecDepth 100000 in
set_option maxHeartbeats 1600000 in
theorem bit_any (s : ByteArray) (hs : s.size ≤ maxLen) (d : Nat) (hb : d < 9223372036854775808) (w : World) :
    Calls Tryd.prog 44 #[.string s, .int .i64 d] w fun e w' => e = .returned (.int .i64 (bitS s d : Nat)) ∧ w.grownBy w' none := by
  unfold maxLen at hs
  obtain ⟨q, hq⟩ : ∃ q, d / 8 = q := ⟨_, rfl⟩
  obtain ⟨r, hr⟩ : ∃ r, d % 8 = r := ⟨_, rfl⟩
  have h0 : (0 : Int) ≤ (d : Int) := by omega
  have h00 : ¬ (d : Int) < 0 := by omega
  have hdq : (d : Int) / 8 = (q : Int) := by omega
  by_cases hin : q < s.size
  · have e := bitS_in s d q r hq hr hin
    have h1 : ¬ (s.size : Int) ≤ (q : Int) := by omega
    have h2 : (q : Int) < (s.size : Int) := by omega
    have h3 : (0 : Int) ≤ (q : Int) := by omega
    have h4 := wrap_i64_nat q (by omega)
    have HC := Lib.hid (fun w => place_any r q (by omega) d (by omega) hb w)
    have hr7 : 7 - r < 8 := by omega
    generalize 7 - r = k at HC e hr7
    have hc := s[q].toNat_lt
    have hx : (s[q].toNat : Int) / 2 ^ k = ((s[q].toNat / 2 ^ k : Nat) : Int) := shr_bit _ k hc
    have hy : s[q].toNat / 2 ^ k < 256 := Nat.lt_of_le_of_lt (Nat.div_le_self _ _) hc
    have hz := and_one_i64 (s[q].toNat / 2 ^ k) (by omega)
    rw [← e] at hz
    generalize s[q].toNat / 2 ^ k = m at hx hy hz
    have hm : (m : Int) < 256 := by omega
    have hmw := wrap_i64_nat m (by omega)
    clear e hc
    have hk0 : (0 : Int) ≤ (k : Int) := by omega
    have hk8 : (k : Int) < 8 := by omega
    go_enter Tryd.func44, Tryd.ntmps44
    go_wp2_with fail
    go_region_with ((go_at_call 50; refine (HC.out _).mono ?_; rintro e w1 ⟨rfl, rfl⟩))
    all_goals
      go_wp2_with fail
      go_ret
      exact ⟨by first | rfl | (show Ending.returned (.int .i64 _) = _; rfl), grownBy_drew (World.grownBy.refl _ _)⟩
  · have e := bitS_out s d (by omega)
    have h1 : (s.size : Int) ≤ (q : Int) := by omega
    rw [e]
    go_enter Tryd.func44, Tryd.ntmps44
    go_wp2_with fail
    go_ret
    exact ⟨rfl, World.grownBy.refl _ _⟩
end Go.Proofs.YtbakhdbnfmoceaaDoor
