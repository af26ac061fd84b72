/- The walk of the law LabelRunes. -/
import Derived.Test.YtgolffjiepcbpaaDoorLabelSpeaks
import Derived.Deep.DeepCutAuto
namespace Go.Proofs.YtgolffjiepcbpaaDoor
open Go.RowKit Go.Lib

/-- the lowest 21 bits -/
theorem and21 (r : Int) : bits .and .i64 r 2097151 = r % 2097152 := by
  have h127 : (BitVec.ofInt 64 2097151).toNat = 2 ^ 21 - 1 := by decide
  have key : (BitVec.ofInt 64 r &&& BitVec.ofInt 64 2097151).toNat = (r % ((2 ^ 64 : Nat) : Int)).toNat % 2 ^ 21 := by
    rw [BitVec.toNat_and, BitVec.toNat_ofInt, h127, Nat.and_two_pow_sub_one_eq_mod]
  show IntKind.i64.wrap ((BitVec.ofInt 64 r &&& BitVec.ofInt 64 2097151).toNat : Nat) = r % 2097152
  rw [key, IntKind.wrap_i64]
  omega

theorem runes_le : ∀ (n : Nat) (l : List UInt8), l.length ≤ n → ∀ x ∈ runes l, x ≤ 1114111
  | 0, l, h, x, hx => by
    have : l = [] := List.eq_nil_of_length_eq_zero (by omega)
    rw [this, runes_nil] at hx
    cases hx
  | n + 1, l, h, x, hx => by
    by_cases hl : l = []
    · rw [hl, runes_nil] at hx
      cases hx
    · rw [runes_step l hl] at hx
      have hw := decodeL_width l
      have hp : 0 < l.length := List.length_pos_iff.2 hl
      rcases List.mem_cons.1 hx with rfl | hx
      · exact decodeL_rune l
      · exact runes_le n (l.drop (decodeL l).2) (by simp; omega) x hx
theorem alphOf_snoc (a : Int) (l : List Nat) (r : Nat) : alphOf a (l ++ [r]) = bits .or .i64 (alphOf a l) (letterI r) := by simp [alphOf, List.foldl_append]
theorem neq_self (x : Int) : (x != x) = false := by simp

theorem int_row {w : World} {B : Nat} {v : Value} {R : List Nat} (h : w.ownsRow B 3 1 v R.length (runeInts R)) :
    (v = .slice none 0 0 ∧ R = []) ∨ ∃ g cap, v = .slice (some ⟨g, 0, none⟩) R.length cap ∧ g < w.heap.size ∧ ∀ i, (hi : i < R.length) → w.cell? ⟨g, i, none⟩ = some (.int .i64 (R[i]'hi : Nat)) := by
  rcases h.2 with ⟨h1, h2⟩ | ⟨g, cap, cur, rfl, h2, h3, _⟩
  · exact .inl ⟨h1, List.eq_nil_of_length_eq_zero h2⟩
  · refine .inr ⟨g, cap, rfl, (Array.getElem?_eq_some_iff.1 h3).1, fun i hi => ?_⟩
    rw [World.ownsRow.cellAt h i (by omega)]
    simp [runeInts, hi]

set_option maxRecDepth 100000 in
set_option maxHeartbeats 2000000 in
theorem labelRunes_walk (s : ByteArray) (hm : s.size ≤ maxLen) (r : Int) (w : World) (h : Ready w) : Calls Tryd.prog 4 #[.string s, .int .i64 r] w fun e w' => e = .returned (.bool true) ∧ Below w.heap.size w w' := by
  have H := Lib.hid h
  unfold maxLen at hm
  clear h
  obtain ⟨q, hq⟩ : ∃ q, bits .and .i64 r 2097151 = q := ⟨_, rfl⟩
  have hq0 : 0 ≤ q := by rw [← hq, and21]; omega
  have hq1 : q < 2097152 := by rw [← hq, and21]; omega
  have hns := neq_self (smallI q)
  have hsm : -2147483648 ≤ smallI q ∧ smallI q ≤ 2147483647 := by unfold smallI; split <;> omega
  obtain ⟨hs1, hs2⟩ := hsm
  go_enter Tryd.func4, Tryd.ntmps4
  go_wp2_with fail
  refine (label_speaks _ H.out).mono ?_
  rintro e w1 ⟨rfl, hb⟩
  have HB := Lib.hid hb
  have H1 := Lib.hid (H.out.below hb)
  clear hb
  go_upto_region 3 with (fail)
  go_cut [0, 16] (fun s0 _ wx => ∃ t : ByteArray, t.size ≤ 200 ∧ s0 = .string t ∧ wx = w1)
  case first =>
    go_wp2
    go_meet
    case rel => exact ⟨_, by rw [ByteArray.size_extract]; omega, rfl, rfl⟩
  case rest =>
    obtain ⟨t, ht, rfl, rfl⟩ := hcut
    cases hv : validD t.data.toList with
    | false =>
      have HV := Lib.hid hv
      clear hv
      go_wp2_with fail
      refine (refRunes_bad t _ (by omega) HV.out).mono ?_
      rintro e w2 ⟨rfl, hb⟩
      have HB2 := Lib.hid (HB.out.trans (hb.mono HB.out.size))
      have H2 := Lib.hid (H1.out.below hb)
      clear hb
      go_wp2_with fail
      refine (runes_bad t _ (by omega) H2.out.t HV.out).mono ?_
      rintro e w3 ⟨rfl, hb⟩
      have HB3 := Lib.hid (HB2.out.trans (hb.mono HB2.out.size))
      have H3 := Lib.hid (H2.out.below hb)
      clear hb
      go_wp2_with fail
      refine (small_any q ⟨by omega, by omega⟩ _ H3.out.a H3.out.s).mono ?_
      rintro e w4 ⟨rfl, hb⟩
      have HB4 := Lib.hid (HB3.out.trans (hb.mono HB3.out.size))
      clear hb
      go_wp2_with fail
      refine (refSmall_any q ⟨by omega, by omega⟩ _).mono ?_
      rintro e w5 ⟨rfl, rfl⟩
      go_wp2_with fail
      go_ret
      exact ⟨rfl, HB4.out⟩
    | true =>
      have HV := Lib.hid hv
      clear hv
      have hrl := runes_length_le t.data.toList.length t.data.toList (Nat.le_refl _)
      have htl : t.data.toList.length = t.size := rfl
      have hle := runes_le t.data.toList.length t.data.toList (Nat.le_refl _)
      obtain ⟨R, hR⟩ : ∃ R, R = runes t.data.toList := ⟨_, rfl⟩
      rw [← hR] at hrl hle
      have HLE := Lib.hid hle
      have HR := Lib.hid hR
      clear hle hR
      have hnl := neq_self (R.length : Int)
      go_wp2_with fail
      refine (refRunes_good t _ (by omega) HV.out).mono ?_
      rintro e w2 ⟨⟨v, rfl, hown⟩, hb⟩
      rw [← HR.out] at hown
      have HB2 := Lib.hid (HB.out.trans (hb.mono HB.out.size))
      have H2 := Lib.hid (H1.out.below hb)
      clear hb
      rcases int_row hown with ⟨hv0, hn0⟩ | ⟨g, cap, hv0, hgl, hcells⟩
      · subst hn0
        rw [hv0]
        clear hv0 hown
        go_wp2_with fail
        refine (runes_good t _ (by omega) H2.out.t HV.out).mono ?_
        rintro e w3 ⟨rfl, hb⟩
        rw [← HR.out]
        have HB3 := Lib.hid (HB2.out.trans (hb.mono HB2.out.size))
        have H3 := Lib.hid (H2.out.below hb)
        clear hb
        go_wp2_with fail
        refine (small_any q ⟨by omega, by omega⟩ _ H3.out.a H3.out.s).mono ?_
        rintro e w4 ⟨rfl, hb⟩
        have HB4 := Lib.hid (HB3.out.trans (hb.mono HB3.out.size))
        have H4 := Lib.hid (H3.out.below hb)
        clear hb
        go_wp2_with fail
        refine (refSmall_any q ⟨by omega, by omega⟩ _).mono ?_
        rintro e w5 ⟨rfl, rfl⟩
        go_wp2_with fail
        refine wp_loop_rounds 1 ?_
        rw [rounds_succ]
        go_wp2_with fail
        refine (alphabets_any t _ (by omega) H4.out.a H4.out.s).mono ?_
        rintro e w6 ⟨rfl, hb⟩
        rw [← HR.out, show alphOf 0 [] = 0 from rfl]
        have HB5 := Lib.hid (HB4.out.trans (hb.mono HB4.out.size))
        clear hb
        go_wp2_with fail
        go_ret
        exact ⟨rfl, HB5.out⟩
      · subst hv0
        have HC := Lib.hid (And.intro hgl hcells)
        clear hcells hgl hown
        go_wp2_with fail
        refine (runes_good t _ (by omega) H2.out.t HV.out).mono ?_
        rintro e w3 ⟨rfl, hb⟩
        rw [← HR.out]
        have HB3 := Lib.hid (HB2.out.trans (hb.mono HB2.out.size))
        have H3 := Lib.hid (H2.out.below hb)
        have HC3 : Hid (g < w3.heap.size ∧ ∀ i, (hi : i < R.length) → w3.cell? ⟨g, i, none⟩ = some (.int .i64 (R[i]'hi : Nat))) :=
          ⟨Nat.lt_of_lt_of_le HC.out.1 hb.size, fun i hi => (hb.cell (p := ⟨g, i, none⟩) HC.out.1).trans (HC.out.2 i hi)⟩
        clear hb
        go_wp2_with fail
        refine (small_any q ⟨by omega, by omega⟩ _ H3.out.a H3.out.s).mono ?_
        rintro e w4 ⟨rfl, hb⟩
        have HB4 := Lib.hid (HB3.out.trans (hb.mono HB3.out.size))
        have H4 := Lib.hid (H3.out.below hb)
        have HC4 : Hid (g < w4.heap.size ∧ ∀ i, (hi : i < R.length) → w4.cell? ⟨g, i, none⟩ = some (.int .i64 (R[i]'hi : Nat))) :=
          ⟨Nat.lt_of_lt_of_le HC3.out.1 hb.size, fun i hi => (hb.cell (p := ⟨g, i, none⟩) HC3.out.1).trans (HC3.out.2 i hi)⟩
        clear hb
        go_wp2_with fail
        refine (refSmall_any q ⟨by omega, by omega⟩ _).mono ?_
        rintro e w5 ⟨rfl, rfl⟩
        go_wp2_with fail
        go_loopw [9, 10] (fun b iv wx => ∃ i : Nat, i ≤ R.length ∧ iv = .int .i64 i ∧ b = .int .i64 (alphOf 0 (R.take i)) ∧ Hid (wx = w4)) (fun _ iv _ => R.length - (intOf iv).toNat)
        case atStart => exact ⟨0, Nat.zero_le _, rfl, rfl, rfl⟩
        case round =>
          obtain ⟨i, hi, rfl, rfl, hwx⟩ := hrel
          have hwx' := hwx.out
          subst hwx'
          by_cases hlt : i < R.length
          · have hc := HC4.out.2 i hlt
            have hri : R[i]'hlt ≤ 1114111 := HLE.out _ (List.getElem_mem hlt)
            obtain ⟨x, hx⟩ : ∃ x, x = R[i]'hlt := ⟨_, rfl⟩
            rw [← hx] at hc hri
            have HX : Hid (R.take (i + 1) = R.take i ++ [x]) := by show _ = _; rw [List.take_succ_eq_append_getElem hlt, hx]
            clear hx
            go_wp2_with fail
            refine (refLetter_any (x : Int) ⟨by omega, by omega⟩ _).mono ?_
            rintro e w6 ⟨rfl, rfl⟩
            go_wp2_with fail
            go_roundw
            case rel =>
              refine ⟨i + 1, by omega, by go_num, ?_, by first | exact rfl | exact trivial⟩
              rw [HX.out, alphOf_snoc]
            case measure => simp [intOf]; omega
          · have hall : R.take i = R := List.take_of_length_le (by omega)
            rw [hall]
            clear hall
            have heq : (alphOf 0 R == alphOf 0 R) = true := by simp
            go_wp2_with fail
            refine (alphabets_any t _ (by omega) H4.out.a H4.out.s).mono ?_
            rintro e w6 ⟨rfl, hb⟩
            rw [← HR.out]
            have HB5 := Lib.hid (HB4.out.trans (hb.mono HB4.out.size))
            clear hb
            go_wp2_with fail
            go_ret
            exact ⟨rfl, HB5.out⟩
end Go.Proofs.YtgolffjiepcbpaaDoor
