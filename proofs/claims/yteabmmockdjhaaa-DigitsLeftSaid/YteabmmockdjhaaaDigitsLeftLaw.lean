/- The walk of the law DigitsLeft. -/
import Derived.Test.YteabmmockdjhaaaDigSpeaks
import Derived.Deep.DeepCutAuto
import Derived.Deep.CutBlock
namespace Go.Proofs.Yteabmmockdjhaaa
open Go.RowKit

theorem IntsAt.cut {w : World} {a : Option Addr} {n cap : Nat} {L : List Int} (h : IntsAt w (.slice a n cap) L) (k c : Nat) (hk : k ≤ n) : IntsAt w (.slice a k c) (L.take k) := by
  obtain ⟨a', cap', he, hc⟩ := h
  cases he
  have hl : (L.take k).length = k := by simp; omega
  refine ⟨a, c, by rw [hl], fun i hi => ?_⟩
  obtain ⟨g, o, ha, hcell⟩ := hc i (by omega)
  exact ⟨g, o, ha, by rw [List.getElem_take]; exact hcell⟩

set_option maxRecDepth 100000 in
set_option maxHeartbeats 1600000 in
theorem digitsLeft_walk (a : Option Addr) (n cap : Nat) (L : List Int) (hn : n ≤ maxLen) (hnc : n ≤ cap) (hcm : cap ≤ maxLen) (w : World) (hv : IntsAt w (.slice a n cap) L) :
    Calls Try.prog 5 #[.slice a n cap] w fun e w' => e = .returned (.bool true) ∧ Below w.heap.size w w' := by
  unfold maxLen at hn hcm
  have HV := Lib.hid hv
  clear hv
  go_enter Try.func5, Try.ntmps5
  go_wp2_with fail
  refine (dig_speaks _).mono ?_
  rintro e w1 ⟨rfl, h1⟩
  have G1 := Lib.hid (grownBy_below h1)
  clear h1
  go_upto_region 3 with (fail)
  go_cut [0] (fun v wx => ∃ m, m ≤ 50 ∧ m ≤ n ∧ v = .slice a m cap ∧ wx = w1)
  case first =>
    go_wp2
    · go_meet
      case rel => exact ⟨50, by omega, by omega, rfl, rfl⟩
    · go_meet
      case rel => exact ⟨n, by omega, by omega, rfl, rfl⟩
  case rest =>
    obtain ⟨m, hm, hmn, rfl, rfl⟩ := hcut
    have hI := HV.out.cut m cap hmn
    have hl : (L.take m).length = m := by
      obtain ⟨a', cap', he, _⟩ := HV.out
      cases he
      simp
      omega
    generalize L.take m = M at hI hl
    subst hl
    have HI := Lib.hid (hI.kept G1.out)
    clear hI HV
    go_wp2_with fail
    refine (left_any _ _ _ HI.out (by omega)).mono ?_
    rintro e w2 ⟨v2, rfl, h2, g2⟩
    have HJ := Lib.hid h2
    have HI2 := Lib.hid (HI.out.kept g2)
    have G2 := Lib.hid (grownBy_trans G1.out g2)
    clear h2 g2 G1 HI
    obtain ⟨a2, c2, rfl⟩ := HJ.out.form
    rw [lefts_length] at HJ ⊢
    go_wp2_with fail
    go_loop [4, 5] (fun iv _ => ∃ k : Nat, k ≤ M.length ∧ iv = .int .i64 k) (fun iv _ => M.length - (intOf iv).toNat)
    case atStart => exact ⟨0, by omega, rfl⟩
    case round =>
      obtain ⟨k, hk, rfl⟩ := hrel
      by_cases hlt : k < M.length
      · obtain ⟨x, hx⟩ : ∃ x, M[k]? = some x := ⟨_, List.getElem?_eq_getElem hlt⟩
        have hy : (lefts M)[k]? = some (leftI x) := by
          unfold lefts
          rw [List.getElem?_map, hx]
          rfl
        obtain ⟨g, o, rfl, q2⟩ := HI2.out.at_ k _ hx
        obtain ⟨g3, o3, rfl, q3⟩ := HJ.out.at_ k _ hy
        have b1 : (0 : Int) ≤ (k : Int) := by omega
        have b2 : (k : Int) < (M.length : Int) := by omega
        clear hx hy
        by_cases hx0 : 0 ≤ x
        · by_cases hx1 : x ≤ 15
          · rw [leftI_yes x hx0 hx1] at q3
            have t1 : ((15 - x) != (15 - x)) = false := by simp
            go_wp2_with fail
            go_round
            case rel => exact ⟨k + 1, by omega, by go_num⟩
            case measure => simp [intOf]; omega
          · rw [leftI_no x (fun h => hx1 h.2)] at q3
            have hx2 : decide (x < 16) = false := by simp; omega
            go_wp2_with fail
            go_round
            case rel => exact ⟨k + 1, by omega, by go_num⟩
            case measure => simp [intOf]; omega
        · rw [leftI_no x (fun h => hx0 h.1)] at q3
          go_wp2_with fail
          go_round
          case rel => exact ⟨k + 1, by omega, by go_num⟩
          case measure => simp [intOf]; omega
      · go_wp2_with fail
        go_ret
        exact ⟨rfl, below_grownBy G2.out⟩
end Go.Proofs.Yteabmmockdjhaaa
