/- The walk of the law DigitsOf. -/
import Derived.Test.YteabmmockdjhaaaDigSpeaks
namespace Go.Proofs.Yteabmmockdjhaaa
open Go.RowKit

set_option maxRecDepth 100000 in
set_option maxHeartbeats 1600000 in
theorem digitsOf_walk (s : ByteArray) (hs : s.size ≤ maxLen) (w : World) :
    Calls Try.prog 3 #[.string s] w fun e w' => e = .returned (.bool true) ∧ Below w.heap.size w w' := by
  have hs' := hs
  unfold maxLen at hs'
  by_cases h16 : s.size = 16
  · have hb : ((s.size : Int) != 16) = false := by simp; omega
    have hlen : (digs s.data.toList).length = 35 := by rw [digs_length]; have : s.data.toList.length = 16 := h16; omega
    have hbd := digs_bd s.data.toList h16
    have H16 := Lib.hid h16
    have HL := Lib.hid hlen
    have HBD := Lib.hid hbd
    have hs3 : s.size ≤ 1000000 := by omega
    clear h16 hlen hbd
    go_enter Try.func3, Try.ntmps3
    go_wp2_with fail
    refine (dig_speaks _).mono ?_
    rintro e w1 ⟨rfl, h1⟩
    have G1 := Lib.hid (grownBy_below h1)
    clear h1
    go_wp2_with fail
    refine (of_ok s H16.out _).mono ?_
    rintro e w2 ⟨v2, rfl, h2, g2⟩
    have I2 := Lib.hid h2
    have G2 := Lib.hid (grownBy_trans G1.out g2)
    clear h2 g2 G1
    go_wp2_with fail
    refine (refDig_any s hs3 _).mono ?_
    rintro e w3 ⟨v3, rfl, h3, g3⟩
    have I3 := Lib.hid h3
    have I32 := Lib.hid (I2.out.kept g3)
    have G3 := Lib.hid (grownBy_trans G2.out g3)
    clear h3 g3 I2 G2
    go_wp2_with fail
    refine (left_any _ _ _ I32.out (by rw [HL.out]; omega)).mono ?_
    rintro e w4 ⟨v4, rfl, h4, g4⟩
    have J2 := Lib.hid (I32.out.kept g4)
    have J3 := Lib.hid (I3.out.kept g4)
    have J4 := Lib.hid h4
    have G4 := Lib.hid (grownBy_trans G3.out g4)
    clear h4 g4 I3 I32 G3
    obtain ⟨a2, c2, rfl⟩ := J2.out.form
    obtain ⟨a3, c3, rfl⟩ := J3.out.form
    obtain ⟨a4, c4, rfl⟩ := J4.out.form
    have hll : (lefts (digs s.data.toList)).length = 35 := by rw [lefts_length]; exact HL.out
    rw [HL.out] at J2 J3 ⊢
    rw [hll] at J4 ⊢
    clear hll
    go_wp2_with fail
    go_loopw [7] (fun iv wr => ∃ k : Nat, k ≤ 35 ∧ iv = .int .i64 k ∧ Hid (w4.grownBy wr none)) (fun iv _ => 35 - (intOf iv).toNat)
    case atStart => exact ⟨0, by omega, rfl, World.grownBy.refl _ _⟩
    case round =>
      obtain ⟨k, hk, rfl, HG⟩ := hrel
      by_cases hlt : k < 35
      · have hkl : k < (digs s.data.toList).length := by rw [HL.out]; exact hlt
        obtain ⟨x, hx⟩ : ∃ x, (digs s.data.toList)[k]? = some x := ⟨_, List.getElem?_eq_getElem hkl⟩
        have hb2 := HBD.out x (List.mem_of_getElem? hx)
        clear hkl
        have hy : (lefts (digs s.data.toList))[k]? = some (15 - x) := by
          unfold lefts
          rw [List.getElem?_map, hx]
          exact congrArg some (leftI_yes x hb2.1 hb2.2)
        obtain ⟨g2, o2, rfl, q2⟩ := J2.out.at_ k _ hx
        obtain ⟨g3, o3, rfl, q3⟩ := J3.out.at_ k _ hx
        obtain ⟨g4, o4, rfl, q4⟩ := J4.out.at_ k _ hy
        have r2 : wr.cell? ⟨g2, o2 + k, none⟩ = _ := HG.out.cell q2 (by simp)
        have r3 : wr.cell? ⟨g3, o3 + k, none⟩ = _ := HG.out.cell q3 (by simp)
        have r4 : wr.cell? ⟨g4, o4 + k, none⟩ = _ := HG.out.cell q4 (by simp)
        clear hx hy q2 q3 q4
        have t1 : (x != x) = false := by simp
        have t2 : ((15 - x) != (15 - x)) = false := by simp
        have b1 : (0 : Int) ≤ (k : Int) := by omega
        go_wp2_with fail
        go_quiet (fail)
        go_wp2_with fail
        go_roundw
        case rel => exact ⟨k + 1, by omega, by go_num, grownBy_drewN HG.out _⟩
        case measure => simp [intOf]; omega
      · go_wp2_with fail
        go_ret
        exact ⟨rfl, below_grownBy (grownBy_trans G4.out HG.out)⟩
  · have hb : ((s.size : Int) != 16) = true := by simp; omega
    have H16 := Lib.hid h16
    clear h16
    go_enter Try.func3, Try.ntmps3
    go_wp2_with fail
    refine (dig_speaks _).mono ?_
    rintro e w1 ⟨rfl, h1⟩
    have G1 := Lib.hid h1
    clear h1
    go_wp2_with fail
    refine (of_bad s hs H16.out _).mono ?_
    rintro e w2 ⟨rfl, rfl⟩
    go_wp2_with fail
    go_ret
    exact ⟨rfl, G1.out⟩
end Go.Proofs.Yteabmmockdjhaaa
