/- The walks of bits.First and of the document's Bit. -/
import Derived.Test.YtgaenpbdfelhhaaDoorBandNodesB1
import Derived.Laws.BitsAllLaws
namespace Go.Proofs.YtgaenpbdfelhhaaDoor
open Go.RowKit

/-- the bit of a row of bytes -/
def bitL (l : List UInt8) (i : Nat) : Nat := ((l[i / 8]?).getD 0).toNat / 2 ^ (7 - i % 8) % 2
theorem bitS_str (l : List UInt8) (i : Nat) : bitS (str l) i = bitL l i := rfl
theorem bit_test (x j : Nat) : x / 2 ^ j % 2 = (x.testBit j).toNat := (Nat.toNat_testBit x j).symm
theorem bitL_set (l : List UInt8) (q r c b : Nat) (hq : q < l.length) (hr : r < 8) (hc : ((l[q]?).getD 0).toNat = c) (hb : b ≤ 1) (h0 : bitL l (8 * q + r) = 0) (i : Nat) :
    bitL (l.set q (UInt8.ofNat (c ||| b * 2 ^ (7 - r)))) i = if i = 8 * q + r then b else bitL l i := by
  have hp : 2 ^ (7 - r) ≤ 128 := Nat.le_trans (Nat.pow_le_pow_right (by decide) (by omega : 7 - r ≤ 7)) (by decide)
  have hbp : b * 2 ^ (7 - r) < 256 := by
    have : b * 2 ^ (7 - r) ≤ 1 * 2 ^ (7 - r) := Nat.mul_le_mul_right _ hb
    omega
  have hc8 : c < 256 := by rw [← hc]; exact UInt8.toNat_lt _
  have hor : c ||| b * 2 ^ (7 - r) < 256 := Nat.or_lt_two_pow (n := 8) hc8 hbp
  unfold bitL at h0 ⊢
  rw [show (8 * q + r) / 8 = q from by omega, show (8 * q + r) % 8 = r from by omega, hc, bit_test] at h0
  by_cases hiq : i / 8 = q
  · rw [hiq, List.getElem?_set_self hq, Option.getD_some, UInt8.toNat_ofNat_of_lt' hor, hc, bit_test, bit_test, Nat.testBit_or]
    have hbt : (b * 2 ^ (7 - r)).testBit (7 - i % 8) = (decide (7 - r = 7 - i % 8) && decide (b = 1)) := by
      rcases (by omega : b = 0 ∨ b = 1) with rfl | rfl
      · simp
      · rw [Nat.one_mul, Nat.testBit_two_pow]; simp
    rw [hbt]
    by_cases hir : i % 8 = r
    · rw [if_pos (by omega), hir]
      have : c.testBit (7 - r) = false := by
        cases h : c.testBit (7 - r) with
        | false => rfl
        | true => rw [h] at h0; simp at h0
      rw [this]
      rcases (by omega : b = 0 ∨ b = 1) with rfl | rfl <;> simp
    · rw [if_neg (by omega)]
      have : decide (7 - r = 7 - i % 8) = false := by simp; omega
      rw [this]
      simp
  · rw [List.getElem?_set_ne (fun e => hiq e.symm), if_neg (by omega)]

theorem bytesV_set (l : List UInt8) (q : Nat) (u : UInt8) : (bytesV l).toArray.setIfInBounds q (.int .u8 u.toNat) = (bytesV (l.set q u)).toArray := by
  apply Array.toList_inj.1
  simp [bytesV, List.map_set]

set_option maxRecDepth 100000 in
set_option maxHeartbeats 3200000 in
theorem first_any (b d : Nat) (hd : d ≤ 16) (hb : b < 2 ^ d) (w : World) :
    Calls Tryd.prog 32 #[.int .i64 b, .int .i64 d] w fun e w' => ∃ l : List UInt8, e = .returned (.string (str l)) ∧ (l.length = 16 ∧ ∀ i, bitL l i = if i < d then b / 2 ^ (d - 1 - i) % 2 else 0) ∧ w.grownBy w' none := by
  have HM := Lib.hid (bands_any d (by omega))
  have h16 : decide (d ≤ 16) = true := by simp [hd]
  rw [h16] at HM
  have hcap := band_cap d hd
  have hZ : ∃ Z, 2 ^ d = Z := ⟨_, rfl⟩
  obtain ⟨Z, hZ⟩ := hZ
  have e1 : (2 : Int) ^ d = (Z : Int) := by rw [← hZ]; simp
  rw [hZ] at hb hcap
  have e2 := wrap_i64_nat Z (by omega)
  have e3 : ¬ (Z : Int) ≤ (b : Int) := by omega
  have e4 : ¬ (b : Int) < 0 := by omega
  have e5 : (0 : Int) ≤ (d : Int) := by omega
  have hbb : b < 65536 := by omega
  clear h16 hZ hcap
  go_enter Tryd.func32, Tryd.ntmps32
  go_wp2_with fail
  obtain ⟨B, hB⟩ : ∃ B, w.heap.size = B := ⟨_, rfl⟩
  rw [hB]
  obtain ⟨w1, hW1⟩ : ∃ w1, w.alloc (.cells #[.int .u8 0, .int .u8 0, .int .u8 0, .int .u8 0, .int .u8 0, .int .u8 0, .int .u8 0, .int .u8 0, .int .u8 0, .int .u8 0, .int .u8 0, .int .u8 0, .int .u8 0, .int .u8 0, .int .u8 0, .int .u8 0] 98) = w1 := ⟨_, rfl⟩
  rw [hW1]
  have hk1 : w1.heap[B]? = some (.cells (bytesV (List.replicate 16 0)).toArray 98 (0, 0)) := by rw [← hW1]; exact heap_alloc_at _ _ _ hB
  have hg1 : w.grownBy w1 none := by rw [← hW1]; exact World.grownBy_alloc _ _ _
  have HK1 := Lib.hid hk1
  have HG1 := Lib.hid hg1
  have HB := Lib.hid hB
  clear hk1 hg1 hB hW1
  refine (HM.out _).mono ?_
  rintro e w2 ⟨rfl, rfl⟩
  clear HM
  go_wp2_with fail
  generalize Value.bool (decide ((b : Int) < 0) || decide (Z ≤ b)) = d2
  generalize Value.bool (decide (Z ≤ b)) = d1
  generalize Value.bool (decide ((b : Int) < 0)) = d3
  clear e1 e2 e3 e4 hb
  go_loopw [6, 7, 24, 25, 26, 27, 28, 29, 30, 31, 32, 33, 34, 35, 36, 37, 38, 39, 40, 41, 42, 43, 44, 45] (fun _ _ iv _ _ _ _ _ _ _ _ _ _ _ _ _ _ _ _ _ _ _ _ _ wr => ∃ (k : Nat) (l : List UInt8), k ≤ d ∧ iv = .int .i64 k ∧ Hid (l.length = 16 ∧ ∀ i, bitL l i = if i < k then b / 2 ^ (d - 1 - i) % 2 else 0) ∧ Hid (wr.heap[B]? = some (.cells (bytesV l).toArray 98 (0, 0))) ∧ Hid (w.grownBy wr none)) (fun _ _ iv _ _ _ _ _ _ _ _ _ _ _ _ _ _ _ _ _ _ _ _ _ _ => d - (intOf iv).toNat)
  case atStart =>
    refine ⟨0, List.replicate 16 0, Nat.zero_le _, rfl, ⟨rfl, fun i => ?_⟩, HK1.out, HG1.out⟩
    rw [if_neg (by omega)]
    unfold bitL
    by_cases h : i / 8 < 16
    · rw [List.getElem?_replicate, if_pos h]; simp
    · rw [List.getElem?_replicate, if_neg h]; simp
  case round =>
    clear HK1 HG1
    obtain ⟨k, l, hk, rfl, HL, HW, HG⟩ := hrel
    by_cases hlt : k < d
    · have d1 : (k : Int) < (d : Int) := by omega
      obtain ⟨q, hq⟩ : ∃ q, k / 8 = q := ⟨_, rfl⟩
      obtain ⟨r, hr⟩ : ∃ r, k % 8 = r := ⟨_, rfl⟩
      have hkq : k = 8 * q + r := by omega
      have hql : q < l.length := by rw [HL.out.1]; omega
      obtain ⟨c, hc⟩ : ∃ c, ((l[q]?).getD 0).toNat = c := ⟨_, rfl⟩
      have hc8 : c < 256 := by rw [← hc]; exact UInt8.toNat_lt _
      have f1 : (d : Int) - 1 - (k : Int) = ((d - 1 - k : Nat) : Int) := by omega
      obtain ⟨m, hm⟩ : ∃ m, b / 2 ^ (d - 1 - k) = m := ⟨_, rfl⟩
      have hmb : m < 65536 := by rw [← hm]; exact Nat.lt_of_le_of_lt (Nat.div_le_self _ _) hbb
      have f2 : (b : Int) / 2 ^ (d - 1 - k) = (m : Int) := by rw [← hm, Int.natCast_ediv]; simp
      have hset := bitL_set l q r c (m % 2) hql (by omega) hc (by omega) (by rw [← hkq, HL.out.2 k, if_neg (by omega)])
      have hnew : ∀ i, bitL (l.set q (UInt8.ofNat (c ||| m % 2 * 2 ^ (7 - r)))) i = if i < k + 1 then b / 2 ^ (d - 1 - i) % 2 else 0 := by
        intro i
        rw [hset, ← hkq]
        by_cases hik : i = k
        · rw [if_pos hik, if_pos (by omega), hik, hm]
        · rw [if_neg hik, HL.out.2 i]
          by_cases hik2 : i < k
          · rw [if_pos hik2, if_pos (by omega)]
          · rw [if_neg hik2, if_neg (by omega)]
      clear hset
      have HNEW := Lib.hid hnew
      have HP := Lib.hid (fun w => place_any r q (by omega) k hkq (by omega) w)
      have hp7 : 7 - r ≤ 7 := by omega
      generalize 7 - r = p at HNEW HP hp7
      have hpp : 2 ^ p ≤ 128 := Nat.le_trans (Nat.pow_le_pow_right (by decide) hp7) (by decide)
      obtain ⟨β, hβ⟩ : ∃ β, m % 2 = β := ⟨_, rfl⟩
      rw [hβ] at HNEW
      have hβ1 : β ≤ 1 := by omega
      obtain ⟨s, hs⟩ : ∃ s, β * 2 ^ p = s := ⟨_, rfl⟩
      have hs8 : s < 256 := by
        have : β * 2 ^ p ≤ 1 * 2 ^ p := Nat.mul_le_mul_right _ hβ1
        omega
      have f3 : (β : Int) * 2 ^ p = (s : Int) := by rw [← hs]; simp
      rw [hs] at HNEW
      have f4 := u8_or_nat c s hc8 hs8
      have hor : c ||| s < 256 := Nat.or_lt_two_pow (n := 8) hc8 hs8
      obtain ⟨v, hv⟩ : ∃ v, c ||| s = v := ⟨_, rfl⟩
      rw [hv] at f4 hor HNEW
      have f5 : (k : Int) / 8 = (q : Int) := by omega
      have f6 := wrap_i64_nat q (by omega)
      have f7 : (q : Int) < 16 := by omega
      have f8 : (0 : Int) ≤ (q : Int) := by omega
      have f9 : IntKind.u8.wrap (s : Int) = (s : Int) := by simp only [IntKind.wrap, IntKind.bits, IntKind.signed]; simp; omega
      have f10 : IntKind.u8.wrap (m : Int) = ((m % 256 : Nat) : Int) := by simp only [IntKind.wrap, IntKind.bits, IntKind.signed]; simp
      have f11 := u8_and_nat (m % 256) 1 (by omega) (by decide)
      rw [Nat.and_one_is_mod, show m % 256 % 2 = β from by omega] at f11
      have f11' : bits .and .u8 ((m : Int) % 256) 1 = (β : Int) := by rw [show ((m : Int) % 256) = ((m % 256 : Nat) : Int) from by omega]; exact f11
      have f12 : (p : Int) ≤ 7 := by omega
      have f13 : (0 : Int) ≤ (p : Int) := by omega
      have c0 : wr.cell? ⟨B, q, none⟩ = some (.int .u8 c) := by
        rw [cell_of HW.out, List.getElem?_toArray, bytesV, List.getElem?_map, List.getElem?_eq_getElem hql, ← hc, List.getElem?_eq_getElem hql]; rfl
      have c1 : wr.frozen? ⟨B, q, none⟩ = false := free_of HW.out q
      have c0' : wr.drew.cell? ⟨B, q, none⟩ = some (.int .u8 c) := c0
      have c1' : wr.drew.frozen? ⟨B, q, none⟩ = false := c1
      have HV := Lib.hid (And.intro hor hql)
      clear hq hr hkq hc hm hmb hnew hβ hβ1 hs hv hor hql hpp
      go_wp2_with fail
      go_region_with ((go_at_call 58; refine (HP.out _).mono ?_; rintro e w3 ⟨rfl, rfl⟩))
      all_goals
        go_wp2_with fail
        go_roundw
        case rel =>
          refine ⟨k + 1, l.set q (UInt8.ofNat v), by omega, by go_num, ⟨by rw [List.length_set]; exact HL.out.1, HNEW.out⟩, ?_, ?_⟩
          · show (wr.setCell _ _).heap[B]? = _
            rw [heap_setCell HW.out, ← bytesV_set, UInt8.toNat_ofNat_of_lt' HV.out.1]
          · exact grownBy_drew (grownBy_setNew HG.out (by have := HB.out; omega) _ _)
        case measure => simp [intOf]; omega
    · have hkd : k = d := by omega
      subst hkd
      have d1 : ¬ (k : Int) < (k : Int) := by omega
      have hsl := slice_sixteen B wr
      have hst := blk_str HW.out 16
      rw [HL.out.1] at hst
      go_wp2_with fail
      go_ret
      exact ⟨l, rfl, HL.out, HG.out⟩

def noughts16 : ByteArray := str (List.replicate 16 0)
set_option maxRecDepth 100000 in
set_option maxHeartbeats 1600000 in
/-- no such band -/
theorem first_no (b d : Int) (h : (d < 0 ∨ 16 < d) ∨ (b < 0 ∨ ∃ Z : Nat, (2 : Int) ^ d.toNat = (Z : Int) ∧ (Z : Int) ≤ b)) (hb : b ≤ 9223372036854775807) (hd : d ≤ 9223372036854775807) (w : World) :
    Calls Tryd.prog 32 #[.int .i64 b, .int .i64 d] w fun e w' => e = .returned (.string noughts16) ∧ w.grownBy w' none := by
  have hM : ∃ g : Bool, (g = decide (0 ≤ d ∧ d ≤ 16)) ∧ ∀ w : World, Calls Tryd.prog 57 #[.int .i64 d] w fun e w' => e = .returned (.bool g) ∧ w = w' := by
    by_cases h0 : d < 0
    · exact ⟨false, by simp; omega, fun w => bands_neg d h0 w⟩
    · obtain ⟨n, rfl⟩ : ∃ n : Nat, d = (n : Int) := ⟨d.toNat, by omega⟩
      exact ⟨_, by rw [Bool.eq_iff_iff]; simp; omega, fun w => bands_any n (by omega) w⟩
  obtain ⟨g, hg, hM⟩ := hM
  have HM := Lib.hid hM
  have H0 := Lib.hid hg
  have HH := Lib.hid h
  clear hM h hg
  have fin : ∀ (B : Nat) (w1 : World), w1.heap[B]? = some (.cells (bytesV (List.replicate 16 0)).toArray 98 (0, 0)) → (convert 72 9 (.slice (some ⟨B, 0, none⟩) 16 16)).run Tryd.prog w1 = .ok (.string noughts16) w1 := fun B w1 hk => blk_str hk 16
  have HF := Lib.hid fin
  clear fin
  go_enter Tryd.func32, Tryd.ntmps32
  go_wp2_with fail
  obtain ⟨B, hB⟩ : ∃ B, w.heap.size = B := ⟨_, rfl⟩
  rw [hB]
  obtain ⟨w1, hW1⟩ : ∃ w1, w.alloc (.cells #[.int .u8 0, .int .u8 0, .int .u8 0, .int .u8 0, .int .u8 0, .int .u8 0, .int .u8 0, .int .u8 0, .int .u8 0, .int .u8 0, .int .u8 0, .int .u8 0, .int .u8 0, .int .u8 0, .int .u8 0, .int .u8 0] 98) = w1 := ⟨_, rfl⟩
  rw [hW1]
  have hk1 : w1.heap[B]? = some (.cells (bytesV (List.replicate 16 0)).toArray 98 (0, 0)) := by rw [← hW1]; exact heap_alloc_at _ _ _ hB
  have hg1 : w.grownBy w1 none := by rw [← hW1]; exact World.grownBy_alloc _ _ _
  have hst := HF.out B w1 hk1
  have HG1 := Lib.hid hg1
  clear hk1 hg1 hB hW1
  have hsl := slice_sixteen B w1
  refine (HM.out _).mono ?_
  rintro e w2 ⟨rfl, rfl⟩
  cases g with
  | false =>
    go_wp2_with fail
    go_ret
    exact ⟨rfl, HG1.out⟩
  | true =>
    have hdd := H0.out
    simp only [Bool.true_eq, decide_eq_true_eq] at hdd
    obtain ⟨n, rfl⟩ : ∃ n : Nat, d = (n : Int) := ⟨d.toNat, by omega⟩
    have e5 : (0 : Int) ≤ (n : Int) := by omega
    rcases HH.out with h | h | ⟨Z, hZ, hZb⟩
    · omega
    · go_wp2_with fail
      go_ret
      exact ⟨rfl, HG1.out⟩
    · by_cases hb0 : b < 0
      · go_wp2_with fail
        go_ret
        exact ⟨rfl, HG1.out⟩
      · rw [Int.toNat_natCast] at hZ
        have e2 := wrap_i64_nat Z (by omega)
        have e6 : (n : Int) ≤ 16 := hdd.2
        go_wp2_with fail
        go_ret
        exact ⟨rfl, HG1.out⟩

set_option maxRecDepth 100000 in
set_option maxHeartbeats 1600000 in
theorem refBit_any (s : ByteArray) (hs : s.size ≤ 1000000000) (i : Nat) (hi : i < 8 * s.size) (w : World) :
    Calls Tryd.prog 18 #[.string s, .int .i64 i] w fun e w' => e = .returned (.int .i64 (bitS s i : Nat)) ∧ w = w' := by
  obtain ⟨q, hq⟩ : ∃ q, i / 8 = q := ⟨_, rfl⟩
  obtain ⟨r, hr⟩ : ∃ r, i % 8 = r := ⟨_, rfl⟩
  have hin : q < s.size := by omega
  have e := bitS_in s i q r hq hr hin
  have E := Lib.hid e
  have h0 : ¬ (i : Int) < 0 := by omega
  have h1 : ¬ 8 * (s.size : Int) ≤ (i : Int) := by omega
  have h2 : (q : Int) < (s.size : Int) := by omega
  have h3 : (0 : Int) ≤ (q : Int) := by omega
  have hdq : (i : Int) / 8 = (q : Int) := by omega
  have hdr : (i : Int) % 8 = (r : Int) := by omega
  have hr8 : r < 8 := by omega
  have h8 : 8 * (s.size : Int) ≤ 8000000000 := by omega
  clear e hq hr
  have hc := s[q].toNat_lt
  have hc2 := wrap_i64_nat s[q].toNat (by omega)
  go_enter Tryd.func18, Tryd.ntmps18
  go_wp2_with fail
  generalize s[q].toNat = c at hc E ⊢
  clear hc2
  go_loopw [5, 6, 23, 24, 25, 26, 27, 28] (fun nv kv _ _ _ _ _ _ wr => ∃ (j : Nat), r + j ≤ 7 ∧ kv = .int .i64 (r + j : Nat) ∧ nv = .int .i64 (c / 2 ^ j : Nat) ∧ w = wr) (fun _ kv _ _ _ _ _ _ _ => 7 - (intOf kv).toNat)
  case atStart => exact ⟨0, by omega, rfl, by simp, rfl⟩
  case round =>
    obtain ⟨j, hj, rfl, rfl, rfl⟩ := hrel
    by_cases hlt : r + j < 7
    · have d1 : ((r + j : Nat) : Int) < 7 := by omega
      have hd : c / 2 ^ (j + 1) = c / 2 ^ j / 2 := by rw [Nat.pow_succ, Nat.div_div_eq_div_mul]
      have hl : c / 2 ^ j < 256 := Nat.lt_of_le_of_lt (Nat.div_le_self _ _) hc
      have HD := Lib.hid hd
      clear hd
      generalize c / 2 ^ j = n at hl HD
      obtain ⟨n2, hn2⟩ : ∃ n2, n / 2 = n2 := ⟨_, rfl⟩
      rw [hn2] at HD
      have d2 : (n : Int) / 2 = (n2 : Int) := by omega
      obtain ⟨t, ht⟩ : ∃ t, r + j = t := ⟨_, rfl⟩
      have HT := Lib.hid ht
      rw [ht] at d1 hlt ⊢
      clear ht hn2
      go_wp2_with fail
      go_roundw
      case rel => exact ⟨j + 1, by have := HT.out; omega, by have := HT.out; go_num, by rw [HD.out], by first | trivial | rfl⟩
      case measure => simp [intOf]; omega
    · have d1 : ¬ ((r + j : Nat) : Int) < 7 := by omega
      have hj7 : j = 7 - r := by omega
      rw [← hj7] at E
      have hm : ((c / 2 ^ j : Nat) : Int) % 2 = (bitS s i : Nat) := by rw [E.out]; omega
      generalize c / 2 ^ j = n at hm
      go_wp2_with fail
      go_ret
      exact ⟨by first | rfl | rw [← hm]; rfl, by first | trivial | rfl⟩
end Go.Proofs.YtgaenpbdfelhhaaDoor
