/- The walk of the laws' speaks. -/
import Derived.Test.YtfpbnfjlabhhoaaBitsC
namespace Go.Proofs.Ytfpbnfjlabhhoaa
open Go.RowKit

theorem byte_a0 (c : Nat) (hc : c < 256) (h0 : c / 128 % 2 = 1) (h1 : c / 64 % 2 = 0) (h2 : c / 32 % 2 = 1) (h3 : c / 16 % 2 = 0) (h4 : c / 8 % 2 = 0) (h5 : c / 4 % 2 = 0) (h6 : c / 2 % 2 = 0) (h7 : c % 2 = 0) : c = 160 := by omega
set_option maxRecDepth 100000 in
set_option maxHeartbeats 1600000 in
theorem bits_speaks (w : World) : Calls Try.prog 19 #[] w fun e w' => e = .returned (.bool true) ∧ w.grownBy w' none := by
  have b5 : bandN (str [160, 0]) 3 = 5 := by decide
  have HB := Lib.hid (fun w => band_any (str [160, 0]) (by decide) 3 (by decide) w)
  rw [b5] at HB
  have HT := Lib.hid (fun w => bit_any (str [64]) (by decide) 1 (by decide) w)
  have b6 : bitS (str [64]) 1 = 1 := by decide
  rw [b6] at HT
  have HC := Lib.hid (fun w => common_any (str [160]) (str [161]) (by decide) 1 rfl rfl w)
  have HF := Lib.hid (fun w => first_any 5 3 (by decide) (by decide) w)
  clear b5 b6
  go_enter Try.func19, Try.ntmps19
  go_wp2_with fail
  refine (HB.out _).mono ?_
  rintro e w1 ⟨rfl, g1⟩
  go_wp2_with fail
  refine (HT.out _).mono ?_
  rintro e w2 ⟨rfl, g2⟩
  go_wp2_with fail
  refine (HC.out _).mono ?_
  rintro e w3 ⟨k, rfl, ⟨hk8, hkb, hkd⟩, g3⟩
  have hk7 : k = 7 := by
    rw [belowB_iff] at hkb
    rcases Nat.lt_trichotomy k 7 with h | h | h
    · exfalso
      refine hkd (by omega) ?_
      rcases (by omega : k = 0 ∨ k = 1 ∨ k = 2 ∨ k = 3 ∨ k = 4 ∨ k = 5 ∨ k = 6) with rfl | rfl | rfl | rfl | rfl | rfl | rfl <;> decide
    · exact h
    · exact absurd (hkb 7 (by omega)) (by decide)
  subst hk7
  clear hk8 hkb hkd
  go_wp2_with fail
  refine (HF.out _).mono ?_
  rintro e w4 ⟨l, rfl, ⟨hl, hb⟩, g4⟩
  have hq : 0 < l.length := by omega
  have hz : (str l).size = 16 := hl
  have h0 : (0 : Nat) < (str l).size := by omega
  have hbyte : ((str l)[0]'h0).toNat = 160 := by
    have e : ∀ i, i < 8 → bitL l i = l[0].toNat / 2 ^ (7 - i) % 2 := by
      intro i hi
      unfold bitL
      rw [show i / 8 = 0 from by omega, show i % 8 = i from by omega, List.getElem?_eq_getElem hq]
      rfl
    have t0 := (e 0 (by decide)).symm.trans (hb 0)
    have t1 := (e 1 (by decide)).symm.trans (hb 1)
    have t2 := (e 2 (by decide)).symm.trans (hb 2)
    have t3 := (e 3 (by decide)).symm.trans (hb 3)
    have t4 := (e 4 (by decide)).symm.trans (hb 4)
    have t5 := (e 5 (by decide)).symm.trans (hb 5)
    have t6 := (e 6 (by decide)).symm.trans (hb 6)
    have t7 := (e 7 (by decide)).symm.trans (hb 7)
    show l[0].toNat = 160
    have hc := l[0].toNat_lt
    generalize l[0].toNat = c at *
    simp at t0 t1 t2 t3 t4 t5 t6 t7
    exact byte_a0 c hc t0 t1 t2 t3 t4 t5 t6 t7
  have h16 : (0 : Int) < ((str l).size : Int) := by omega
  have G := Lib.hid (grownBy_trans g1 (grownBy_trans g2 (grownBy_trans g3 g4)))
  have hbi : (((str l)[0]'h0).toNat : Int) = 160 := by omega
  clear hb hq hl hz
  go_wp2_with fail
  go_ret
  exact ⟨rfl, G.out⟩
end Go.Proofs.Ytfpbnfjlabhhoaa
