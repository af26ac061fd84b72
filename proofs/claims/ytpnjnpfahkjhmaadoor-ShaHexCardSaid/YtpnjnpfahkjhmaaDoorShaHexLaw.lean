/- The walk of the law ShaHex. -/
import Derived.Test.YtpnjnpfahkjhmaaDoorShaSpeaks
import Derived.Deep.DeepCutAuto
import Derived.Deep.CutBlock
namespace Go.Proofs.YtpnjnpfahkjhmaaDoor
open Go.RowKit
attribute [local irreducible] shaL

theorem hexD_lo (n : Nat) (h : n < 10) : (hexD n).toNat = 48 + n := by
  unfold hexD
  rw [if_pos h]
  simp
  omega
theorem hexD_hi (n : Nat) (h : ¬ n < 10) (h2 : n < 16) : (hexD n).toNat = 87 + n := by
  unfold hexD
  rw [if_neg h]
  simp
  omega
theorem hexL_at (l : List UInt8) (i : Nat) (h : i < l.length) : (hexL l)[2 * i]? = some (hexD (l[i].toNat / 16)) ∧ (hexL l)[2 * i + 1]? = some (hexD (l[i].toNat % 16)) := by
  induction l generalizing i with
  | nil => cases h
  | cons c l ih =>
    have e : hexL (c :: l) = hexD (c.toNat / 16) :: hexD (c.toNat % 16) :: hexL l := rfl
    rw [e]
    cases i with
    | zero => simp
    | succ i =>
      have := ih i (by simpa using h)
      rw [show 2 * (i + 1) = 2 * i + 1 + 1 from by omega]
      simpa using this
/-- the digit at a place of two -/
def dig2 (c k : Nat) : Nat := if k = 0 then c / 16 else c % 16
/-- the number so far -/
def num2 (c k : Nat) : Nat := if k = 0 then 0 else if k = 1 then c / 16 else c

set_option maxRecDepth 100000 in
set_option maxHeartbeats 1600000 in
theorem shaHex_walk (s : ByteArray) (hs : s.size ≤ maxLen) (w : World) (hr : ShaReady w) :
    Calls Tryd.prog 5 #[.string s] w fun e w' => e = .returned (.bool true) ∧ Below w.heap.size w w' := by
  unfold maxLen at hs
  go_enter Tryd.func5, Tryd.ntmps5
  go_wp2_with fail
  refine (sha_speaks _ hr).mono ?_
  rintro e w1 ⟨rfl, h1⟩
  have B1 := Lib.hid h1
  clear h1 hr
  go_upto_region 3 with (fail)
  go_cut [0] (fun s0 wx => ∃ t : ByteArray, t.size ≤ 100 ∧ s0 = .string t ∧ wx = w1)
  case first =>
    go_wp2
    · go_meet
      case rel => exact ⟨_, by rw [ByteArray.size_extract]; omega, rfl, rfl⟩
    · go_meet
      case rel => exact ⟨s, by omega, rfl, rfl⟩
  case rest =>
    obtain ⟨t, ht, rfl, rfl⟩ := hcut
    go_wp2_with fail
    refine (hex_any _ t (by omega)).mono ?_
    rintro e w2 ⟨rfl, h2⟩
    have B2 := Lib.hid (B1.out.trans (h2.mono B1.out.size))
    clear h2
    have hHs : (str (hexL t.data.toList)).size = 2 * t.size := by rw [str_size, hexL_length]; rfl
    have hHa : ∀ i k, i < t.size → k < 2 → (str (hexL t.data.toList)).data.toList[2 * i + k]? = some (hexD (dig2 ((t.data.toList.getD i 0).toNat) k)) := by
      intro i k hi hk
      have h := hexL_at t.data.toList i (by simpa using hi)
      have hg : t.data.toList.getD i 0 = t.data.toList[i]'(by simpa using hi) := by
        rw [List.getD_eq_getElem?_getD, List.getElem?_eq_getElem (by simpa using hi)]
        rfl
      rw [str_data, hg]
      have hk2 : k = 0 ∨ k = 1 := by omega
      rcases hk2 with rfl | rfl
      · exact h.1
      · exact h.2
    generalize str (hexL t.data.toList) = X at hHs hHa ⊢
    have HX := Lib.hid hHa
    clear hHa
    go_wp2_with fail
    go_loop [4] (fun iv => ∃ i : Nat, i ≤ t.size ∧ iv = .int .i64 i) (fun iv => t.size - (intOf iv).toNat)
    case atStart => exact ⟨0, Nat.zero_le _, rfl⟩
    case round =>
      obtain ⟨i, hi, rfl⟩ := hrel
      by_cases hlt : i < t.size
      · have hc := (t.data.toList.getD i 0).toNat_lt
        have hti : (t[i]'hlt).toNat = (t.data.toList.getD i 0).toNat := by
          rw [List.getD_eq_getElem?_getD, List.getElem?_eq_getElem (by simpa using hlt)]
          rfl
        have HXi := Lib.hid (fun k => HX.out i k hlt)
        generalize (t.data.toList.getD i 0).toNat = c at hc hti HXi
        have hd : decide ((i : Int) < (t.size : Int)) = true := by simp; omega
        go_wp2_with fail
        go_loop [5, 6] (fun nv kv => ∃ k : Nat, k ≤ 2 ∧ kv = .int .i64 k ∧ nv = .int .i64 (num2 c k : Nat)) (fun _ kv => 2 - (intOf kv).toNat)
        case atStart => exact ⟨0, by omega, rfl, rfl⟩
        case round =>
          obtain ⟨k, hk, rfl, rfl⟩ := hrel
          by_cases hkl : k < 2
          · obtain ⟨d, hdd⟩ : ∃ d, dig2 c k = d := ⟨_, rfl⟩
            have hd16 : d < 16 := by rw [← hdd]; unfold dig2; split <;> omega
            have hn2 : num2 c (k + 1) = 16 * num2 c k + d := by
              rw [← hdd]
              have hk2 : k = 0 ∨ k = 1 := by omega
              rcases hk2 with rfl | rfl
              · simp [num2, dig2]
              · simp [num2, dig2]; omega
            have hnb : num2 c k ≤ 255 := by unfold num2; split; omega; split <;> omega
            have hlx : 2 * i + k < X.size := by omega
            have hXk : (X[2 * i + k]'hlx).toNat = (hexD d).toNat := by
              have := HXi.out k hkl
              rw [List.getElem?_eq_getElem (by simpa using hlx), hdd] at this
              exact congrArg UInt8.toNat (Option.some.inj this)
            have HN2 := Lib.hid hn2
            clear hn2 hdd
            generalize num2 c k = nk at hnb HN2 ⊢
            have b1 : (0 : Int) ≤ 2 * (i : Int) + k := by omega
            have b2 : 2 * (i : Int) + k < (X.size : Int) := by omega
            have b3 : (2 * (i : Int) + k).toNat = 2 * i + k := by omega
            by_cases hd10 : d < 10
            · rw [hexD_lo d hd10] at hXk
              go_wp2_with fail
              go_round
              case rel =>
                refine ⟨k + 1, by omega, by go_num, val_int ?_⟩
                rw [HN2.out]
                omega
              case measure => simp [intOf]; omega
            · rw [hexD_hi d hd10 hd16] at hXk
              go_wp2_with fail
              go_round
              case rel =>
                refine ⟨k + 1, by omega, by go_num, val_int ?_⟩
                rw [HN2.out]
                omega
              case measure => simp [intOf]; omega
          · have : k = 2 := by omega
            subst this
            rw [show num2 c 2 = c from rfl]
            go_wp2_with fail
            go_round
            case rel => exact ⟨i + 1, by omega, by go_num⟩
            case measure => simp [intOf]; omega
      · go_wp2_with fail
        go_ret
        exact ⟨rfl, B2.out⟩
end Go.Proofs.YtpnjnpfahkjhmaaDoor
