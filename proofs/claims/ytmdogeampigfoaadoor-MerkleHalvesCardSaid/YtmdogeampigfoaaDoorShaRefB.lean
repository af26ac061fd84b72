/- The walks of the document's above, root, roots. -/
import Derived.Test.YtmdogeampigfoaaDoorShaRefA
namespace Go.Proofs.YtmdogeampigfoaaDoor
open Go.RowKit

theorem size_alloc (w : World) (o : Obj) : (w.alloc o).heap.size = w.heap.size + 1 := by simp
theorem V_drop_le (m : List Nat) (i : Nat) : V (m.drop i) * 65536 ^ i ≤ V m := by
  have := V_take_drop m i
  rw [Nat.mul_comm] at this
  omega
theorem drop_small {m : List Nat} {i n v : Nat} (hi : n ≤ i) (hv : V m < v * 65536 ^ n) : V (m.drop i) < v := by
  have h1 := V_drop_le m i
  have h2 : 65536 ^ n ≤ 65536 ^ i := Nat.pow_le_pow_right (by decide) hi
  have h3 : V (m.drop i) * 65536 ^ n ≤ V (m.drop i) * 65536 ^ i := Nat.mul_le_mul_left _ h2
  have h4 : V (m.drop i) * 65536 ^ n < v * 65536 ^ n := by omega
  exact Nat.lt_of_mul_lt_mul_right h4
/-- the whole part and the rest, from a place on -/
def wholeAt (m : List Nat) (n k : Nat) : Nat := V (m.drop (max k n))
def restAt (m : List Nat) (n k : Nat) : Bool := decide (V ((m.take n).drop k) ≠ 0)
theorem whole0 (m : List Nat) (n : Nat) : wholeAt m n 0 = V (m.drop n) := by rw [wholeAt, Nat.max_eq_right (Nat.zero_le n)]
theorem rest0 (m : List Nat) (n : Nat) : restAt m n 0 = decide (V (m.take n) ≠ 0) := by rw [restAt, List.drop_zero]
theorem above_sq_is (y p : Nat) : aboveP y p false = decide (p * 65536 ^ 4 < y * y) := by simp only [aboveP, Bool.false_eq_true, ↓reduceIte]
theorem above_cube_is (y p : Nat) : aboveP y p true = decide (p * 65536 ^ 6 < y * y * y) := by simp only [aboveP, ↓reduceIte]
theorem step_hi {m : List Nat} {n k : Nat} (h : n ≤ k) (hk : k < m.length) : wholeAt m n k = wholeAt m n (k + 1) * 65536 + m.getD k 0 ∧ restAt m n k = restAt m n (k + 1) := by
  refine ⟨?_, ?_⟩
  · rw [wholeAt, wholeAt, Nat.max_eq_left h, Nat.max_eq_left (by omega), V_drop m k hk]
    omega
  · rw [restAt, restAt, List.drop_of_length_le (by simp; omega), List.drop_of_length_le (by simp; omega)]
theorem step_lo {m : List Nat} {n k : Nat} (h : k < n) (hn : n ≤ m.length) : wholeAt m n k = wholeAt m n (k + 1) ∧ restAt m n k = (decide (0 < m.getD k 0) || restAt m n (k + 1)) := by
  refine ⟨?_, ?_⟩
  · rw [wholeAt, wholeAt, Nat.max_eq_right (by omega), Nat.max_eq_right (by omega)]
  · have hl : k < (m.take n).length := by simp; omega
    rw [restAt, restAt, V_drop _ k hl, Bool.eq_iff_iff]
    have e : (m.take n).getD k 0 = m.getD k 0 := by
      rw [List.getD_eq_getElem?_getD, List.getElem?_take, if_pos h, ← List.getD_eq_getElem?_getD]
    rw [e]
    simp
    omega

set_option maxRecDepth 100000 in
set_option maxHeartbeats 1600000 in
theorem above_sq (w : World) (y p : Nat) (hy : y < 274877906944) (hp : p ≤ 4294967296) :
    Calls Tryd.prog 63 #[.int .u64 y, .int .u64 p, .bool false] w fun e w' => e = .returned (.bool (aboveP y p false)) ∧ w.grownBy w' none := by
  have hd := pieces_dig y (by omega)
  have hVp := V_pieces y
  have HRow : Hid (RowAt (w.alloc (.cells #[.int .u64 ((y : Int) % 65536), .int .u64 ((y : Int) / 65536 % 65536), .int .u64 ((y : Int) / 4294967296)] 77)) w.heap.size (pieces y)) := by
    show _ = _
    rw [heap_alloc_at _ _ _ rfl]
    simp [pieces, u64s]
  have h3 : (pieces y).length = 3 := rfl
  obtain ⟨P, hP⟩ : ∃ P, pieces y = P := ⟨_, rfl⟩
  rw [hP] at hd hVp HRow h3
  clear hP
  have HY := Lib.hid hy
  have hV := V_times hd hd
  have hdm := timesL_dig hd hd
  have hlm : (timesL P P).length = 6 := by rw [timesL_length hd hd, h3]
  rw [hVp] at hV
  have hsplit := above_split _ hdm 4 p (by omega)
  rw [hV] at hsplit
  have hbd : ∀ i, 4 ≤ i → V ((timesL P P).drop i) < 1048576 := fun i hi => drop_small hi (by
    rw [hV]
    have hyy : y * y < 274877906944 * 274877906944 := Nat.mul_lt_mul'' HY.out HY.out
    omega)
  clear hV hVp
  go_enter Tryd.func63, Tryd.ntmps63
  go_wp2_with fail
  have hnums := HRow.out.nums 3
  rw [h3] at hnums
  refine (times_any _ _ _ P P hnums hnums hd hd (by omega) (by omega)).mono ?_
  rintro e w2 ⟨rfl, hr, hg⟩
  rw [size_alloc] at hr
  rw [h3]
  replace hg := grownBy_trans (World.grownBy_alloc _ _ _) hg
  generalize timesL P P = M at *
  have hlen : M.length = 6 := hlm
  have hdig : ∀ i, M.getD i 0 < 65536 := hdm
  have HV := Lib.hid (And.intro hbd (And.intro hsplit hdig))
  have HRW := Lib.hid hr
  have HG := Lib.hid hg
  clear hbd hsplit hdig hr hg hdm hlm
  go_wp2_with fail
  go_loop [10, 11, 12] (fun av rv iv => ∃ k : Nat, k ≤ 6 ∧ iv = .int .i64 ((k : Int) - 1) ∧ av = .int .u64 (wholeAt M 4 k : Nat) ∧ rv = .bool (restAt M 4 k)) (fun _ _ iv => (intOf iv + 1).toNat)
  case atStart =>
    refine ⟨6, by omega, rfl, ?_, ?_⟩
    · rw [wholeAt, List.drop_of_length_le (by omega)]; rfl
    · rw [restAt, List.drop_of_length_le (by simp; omega)]; rfl
  case round =>
    obtain ⟨k, hk, rfl, rfl, rfl⟩ := hrel
    by_cases hk0 : k = 0
    · subst hk0
      have hfin := HV.out.2.1
      have hwb : wholeAt M 4 0 < 1048576 := by
        rw [wholeAt]
        exact HV.out.1 _ (by omega)
      have hA : (decide (p < wholeAt M 4 0) || (decide (wholeAt M 4 0 = p) && restAt M 4 0)) = aboveP y p false := by rw [whole0, rest0, hfin, above_sq_is]
      have HA := Lib.hid hA
      clear hA hfin
      generalize wholeAt M 4 0 = a at hwb HA
      generalize restAt M 4 0 = r at HA
      rw [show (((0 : Nat) : Int) - 1) = -1 from rfl]
      by_cases h1 : p < a
      · have e : aboveP y p false = true := by rw [← HA.out]; simp [h1]
        have E := Lib.hid e
        clear e
        go_wp2_with fail
        go_ret
        exact ⟨by rw [E.out]; rfl, HG.out⟩
      · by_cases h2 : a = p
        · subst h2
          have e : aboveP y a false = r := by rw [← HA.out]; simp
          have E := Lib.hid e
          clear e h1
          have h3 : ((a : Int) == (a : Int)) = true := by simp
          go_wp2_with fail
          go_ret
          exact ⟨by rw [E.out]; rfl, HG.out⟩
        · have e : aboveP y p false = false := by rw [← HA.out]; simp [h1, h2]
          have E := Lib.hid e
          clear e
          have h3 : ((a : Int) == (p : Int)) = false := by rw [beq_eq_false_iff_ne]; omega
          go_wp2_with fail
          go_ret
          exact ⟨by rw [E.out]; rfl, HG.out⟩
    · obtain ⟨j, rfl⟩ : ∃ j, k = j + 1 := ⟨k - 1, by omega⟩
      have c := HRW.out.cell j (by omega)
      have hdj := HV.out.2.2 j
      have hjj : ((j + 1 : Nat) : Int) - 1 = (j : Int) := by omega
      rw [hjj]
      by_cases hjn : 4 ≤ j
      · have hs := step_hi (m := M) hjn (by omega)
        have hwb : wholeAt M 4 (j + 1) < 1048576 := by
          rw [wholeAt]
          exact HV.out.1 _ (by omega)
        obtain ⟨d, hd⟩ : ∃ d, M.getD j 0 = d := ⟨_, rfl⟩
        rw [hd] at c hs hdj
        obtain ⟨a, ha⟩ : ∃ a, wholeAt M 4 (j + 1) = a := ⟨_, rfl⟩
        rw [ha] at hs hwb
        have HS := Lib.hid hs
        clear hs hd
        rw [ha]
        clear ha
        have b1 : (j : Int) < 6 := by omega
        go_wp2_with fail
        go_round
        case rel =>
          refine ⟨j, by omega, rfl, ?_, ?_⟩
          · rw [HS.out.1]; simp
          · rw [HS.out.2]
        case measure => simp [intOf] <;> omega
      · have hs := step_lo (m := M) (show j < 4 by omega) (by omega)
        obtain ⟨d, hd⟩ : ∃ d, M.getD j 0 = d := ⟨_, rfl⟩
        rw [hd] at c hs hdj
        have HS := Lib.hid hs
        clear hs hd
        have b1 : (j : Int) < 6 := by omega
        by_cases hd0 : 0 < d
        · have hd2 : decide ((0 : Int) < (d : Int)) = true := by simp; omega
          go_wp2_with fail
          go_round
          case rel =>
            refine ⟨j, by omega, rfl, ?_, ?_⟩
            · rw [HS.out.1]
            · rw [HS.out.2]; simp [hd0]
          case measure => simp [intOf] <;> omega
        · have hd2 : decide ((0 : Int) < (d : Int)) = false := by simp; omega
          go_wp2_with fail
          go_round
          case rel =>
            refine ⟨j, by omega, rfl, ?_, ?_⟩
            · rw [HS.out.1]
            · rw [HS.out.2]; simp [hd0]
          case measure => simp [intOf] <;> omega

end Go.Proofs.YtmdogeampigfoaaDoor
