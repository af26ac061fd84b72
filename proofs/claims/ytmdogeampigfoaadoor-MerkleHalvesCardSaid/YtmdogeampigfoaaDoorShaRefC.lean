/- The walk of the document's above, at a cube. -/
import Derived.Test.YtmdogeampigfoaaDoorShaRefB
namespace Go.Proofs.YtmdogeampigfoaaDoor
open Go.RowKit

set_option maxRecDepth 100000 in
set_option maxHeartbeats 1600000 in
theorem above_cube (w : World) (y p : Nat) (hy : y < 274877906944) (hp : p ≤ 4294967296) :
    Calls Tryd.prog 63 #[.int .u64 y, .int .u64 p, .bool true] w fun e w' => e = .returned (.bool (aboveP y p true)) ∧ w.grownBy w' none := by
  have hd := pieces_dig y (by omega)
  have hVp := V_pieces y
  have HRow : Hid (RowAt (w.alloc (.cells #[.int .u64 ((y : Int) % 65536), .int .u64 ((y : Int) / 65536 % 65536), .int .u64 ((y : Int) / 4294967296)] 77)) w.heap.size (pieces y)) := by
    show _ = _
    rw [heap_alloc_at _ _ _ rfl]
    simp [pieces, u64s]
  have h3 : (pieces y).length = 3 := rfl
  obtain ⟨P, hP⟩ : ∃ P, pieces y = P := ⟨_, rfl⟩
  rw [hP] at hd hVp HRow h3
  clear hP
  have HY := Lib.hid hy
  have hV := V_times hd hd
  have hdm1 := timesL_dig hd hd
  have hlm1 : (timesL P P).length = 6 := by rw [timesL_length hd hd, h3]
  have hV2 := V_times hdm1 hd
  have hdm := timesL_dig hdm1 hd
  have hlm : (timesL (timesL P P) P).length = 9 := by rw [timesL_length hdm1 hd, hlm1, h3]
  rw [hVp] at hV
  rw [hV, hVp] at hV2
  have hsplit := above_split _ hdm 6 p (by omega)
  rw [hV2] at hsplit
  have hbd : ∀ i, 6 ≤ i → V ((timesL (timesL P P) P).drop i) < 1048576 := fun i hi => drop_small hi (by
    rw [hV2]
    have hyy : y * y < 274877906944 * 274877906944 := Nat.mul_lt_mul'' HY.out HY.out
    have hyyy : y * y * y < 274877906944 * 274877906944 * 274877906944 := Nat.mul_lt_mul'' hyy HY.out
    omega)
  clear hV hV2 hVp
  go_enter Tryd.func63, Tryd.ntmps63
  go_wp2_with fail
  have hnums := HRow.out.nums 3
  rw [h3] at hnums
  refine (times_any _ _ _ P P hnums hnums hd hd (by omega) (by omega)).mono ?_
  rintro e w1 ⟨rfl, hr1, hg1⟩
  rw [size_alloc] at hr1
  rw [h3]
  have HN1 := Lib.hid (hr1.nums 6)
  have HNA := Lib.hid (hnums.kept hg1)
  have HG1 := Lib.hid (grownBy_trans (World.grownBy_alloc _ _ _) hg1)
  clear hr1 hg1 hnums
  go_wp2_with fail
  have hn1 := HN1.out
  have hna := HNA.out
  rw [hlm1] at hn1
  refine (times_any _ _ _ (timesL P P) P hn1 hna hdm1 hd (by omega) (by omega)).mono ?_
  rintro e w2 ⟨rfl, hr, hg⟩
  rw [hlm1, h3]
  replace hg := grownBy_trans HG1.out hg
  clear hn1 hna HN1 HNA HG1 hdm1
  generalize timesL (timesL P P) P = M at *
  have hlen : M.length = 9 := hlm
  have hdig : ∀ i, M.getD i 0 < 65536 := hdm
  have HV := Lib.hid (And.intro hbd (And.intro hsplit hdig))
  have HRW := Lib.hid hr
  have HG := Lib.hid hg
  clear hbd hsplit hdig hr hg hdm hlm
  go_wp2_with fail
  go_loop [10, 11, 12] (fun av rv iv => ∃ k : Nat, k ≤ 9 ∧ iv = .int .i64 ((k : Int) - 1) ∧ av = .int .u64 (wholeAt M 6 k : Nat) ∧ rv = .bool (restAt M 6 k)) (fun _ _ iv => (intOf iv + 1).toNat)
  case atStart =>
    refine ⟨9, by omega, rfl, ?_, ?_⟩
    · rw [wholeAt, List.drop_of_length_le (by omega)]; rfl
    · rw [restAt, List.drop_of_length_le (by simp; omega)]; rfl
  case round =>
    obtain ⟨k, hk, rfl, rfl, rfl⟩ := hrel
    by_cases hk0 : k = 0
    · subst hk0
      have hfin := HV.out.2.1
      have hwb : wholeAt M 6 0 < 1048576 := by
        rw [wholeAt]
        exact HV.out.1 _ (by omega)
      have hA : (decide (p < wholeAt M 6 0) || (decide (wholeAt M 6 0 = p) && restAt M 6 0)) = aboveP y p true := by rw [whole0, rest0, hfin, above_cube_is]
      have HA := Lib.hid hA
      clear hA hfin
      generalize wholeAt M 6 0 = a at hwb HA
      generalize restAt M 6 0 = r at HA
      rw [show (((0 : Nat) : Int) - 1) = -1 from rfl]
      by_cases h1 : p < a
      · have e : aboveP y p true = true := by rw [← HA.out]; simp [h1]
        have E := Lib.hid e
        clear e
        go_wp2_with fail
        go_ret
        exact ⟨by rw [E.out]; rfl, HG.out⟩
      · by_cases h2 : a = p
        · subst h2
          have e : aboveP y a true = r := by rw [← HA.out]; simp
          have E := Lib.hid e
          clear e h1
          have h3 : ((a : Int) == (a : Int)) = true := by simp
          go_wp2_with fail
          go_ret
          exact ⟨by rw [E.out]; rfl, HG.out⟩
        · have e : aboveP y p true = false := by rw [← HA.out]; simp [h1, h2]
          have E := Lib.hid e
          clear e
          have h3 : ((a : Int) == (p : Int)) = false := by rw [beq_eq_false_iff_ne]; omega
          go_wp2_with fail
          go_ret
          exact ⟨by rw [E.out]; rfl, HG.out⟩
    · obtain ⟨j, rfl⟩ : ∃ j, k = j + 1 := ⟨k - 1, by omega⟩
      have c := HRW.out.cell j (by omega)
      have hdj := HV.out.2.2 j
      have hjj : ((j + 1 : Nat) : Int) - 1 = (j : Int) := by omega
      rw [hjj]
      by_cases hjn : 6 ≤ j
      · have hs := step_hi (m := M) hjn (by omega)
        have hwb : wholeAt M 6 (j + 1) < 1048576 := by
          rw [wholeAt]
          exact HV.out.1 _ (by omega)
        obtain ⟨d, hd⟩ : ∃ d, M.getD j 0 = d := ⟨_, rfl⟩
        rw [hd] at c hs hdj
        obtain ⟨a, ha⟩ : ∃ a, wholeAt M 6 (j + 1) = a := ⟨_, rfl⟩
        rw [ha] at hs hwb
        have HS := Lib.hid hs
        clear hs hd
        rw [ha]
        clear ha
        have b1 : (j : Int) < 9 := by omega
        go_wp2_with fail
        go_round
        case rel =>
          refine ⟨j, by omega, rfl, ?_, ?_⟩
          · rw [HS.out.1]; simp
          · rw [HS.out.2]
        case measure => simp [intOf] <;> omega
      · have hs := step_lo (m := M) (show j < 6 by omega) (by omega)
        obtain ⟨d, hd⟩ : ∃ d, M.getD j 0 = d := ⟨_, rfl⟩
        rw [hd] at c hs hdj
        have HS := Lib.hid hs
        clear hs hd
        have b1 : (j : Int) < 9 := by omega
        by_cases hd0 : 0 < d
        · have hd2 : decide ((0 : Int) < (d : Int)) = true := by simp; omega
          go_wp2_with fail
          go_round
          case rel =>
            refine ⟨j, by omega, rfl, ?_, ?_⟩
            · rw [HS.out.1]
            · rw [HS.out.2]; simp [hd0]
          case measure => simp [intOf] <;> omega
        · have hd2 : decide ((0 : Int) < (d : Int)) = false := by simp; omega
          go_wp2_with fail
          go_round
          case rel =>
            refine ⟨j, by omega, rfl, ?_, ?_⟩
            · rw [HS.out.1]
            · rw [HS.out.2]; simp [hd0]
          case measure => simp [intOf] <;> omega

theorem above_any (w : World) (y p : Nat) (cube : Bool) (hy : y < 274877906944) (hp : p ≤ 4294967296) :
    Calls Tryd.prog 63 #[.int .u64 y, .int .u64 p, .bool cube] w fun e w' => e = .returned (.bool (aboveP y p cube)) ∧ w.grownBy w' none := by
  cases cube
  · exact above_sq w y p hy hp
  · exact above_cube w y p hy hp
end Go.Proofs.YtmdogeampigfoaaDoor
