/- The walk of label.labelMayBe. -/
import Derived.Test.YtgolffjiepcbpaaDoorLabelMay
namespace Go.Proofs.YtgolffjiepcbpaaDoor
open Go.RowKit Go.Lib

theorem owns_form {w : World} {B : Nat} {e : TypeId} {size n : Nat} {v : Value} {xs : List Value} (h : w.ownsRow B e size v n xs) (hn : 0 < n) : ∃ g cap, v = .slice (some ⟨g, 0, none⟩) n cap ∧ B ≤ g := by
  rcases h.2 with ⟨_, h2⟩ | ⟨g, cap, cur, h1, h2, _⟩
  · omega
  · exact ⟨g, cap, h1, h2⟩

/-- a label that may be, but for its runes' number and whether it is made of runes -/
def labelI (l : List UInt8) : Bool := decide (countByte l 64 ≤ 1) && (parts [] l).all partI

theorem parts_len_le (n : Nat) : ∀ (cur l : List UInt8), l.length ≤ n → ∀ x ∈ parts cur l, x.length ≤ cur.length + l.length := by
  induction n with
  | zero =>
    intro cur l h x hx
    have : l = [] := List.eq_nil_of_length_eq_zero (by omega)
    rw [this, parts_nil] at hx
    simp at hx
    subst hx
    omega
  | succ n ih =>
    intro cur l h x hx
    by_cases hl : l = []
    · rw [hl, parts_nil] at hx
      simp at hx
      subst hx
      omega
    · rw [parts_step _ _ hl] at hx
      have hw := decodeL_width l
      have hle := decodeL_le l hl
      have hp : 0 < l.length := List.length_pos_iff.2 hl
      split at hx
      · rcases List.mem_cons.1 hx with rfl | hx
        · omega
        · have := ih [] (l.drop (decodeL l).2) (by simp; omega) x hx
          rw [List.length_drop] at this
          simp at this
          omega
      · have := ih _ (l.drop (decodeL l).2) (by simp; omega) x hx
        rw [List.length_append, List.length_take, List.length_drop] at this
        omega

theorem parts_pos (cur l : List UInt8) : 0 < (parts cur l).length := by
  have : ∀ (n : Nat) (cur l : List UInt8), l.length ≤ n → 0 < (parts cur l).length := by
    intro n
    induction n with
    | zero =>
      intro cur l h
      have : l = [] := List.eq_nil_of_length_eq_zero (by omega)
      rw [this, parts_nil]
      simp
    | succ n ih =>
      intro cur l h
      by_cases hl : l = []
      · rw [hl, parts_nil]
        simp
      · rw [parts_step _ _ hl]
        have hw := decodeL_width l
        have hp : 0 < l.length := List.length_pos_iff.2 hl
        split
        · simp
        · exact ih _ _ (by simp; omega)
  exact this l.length cur l (Nat.le_refl _)

theorem count_any (s : ByteArray) (w : World) : Calls Tryd.prog 24 #[.string s, .string ⟨#[64]⟩] w fun e w' => e = .returned (.int .i64 (countByte s.data.toList 64)) ∧ w = w' :=
  (Tryd.strings_Count_one s 64 w).mono fun _ _ h => ⟨h.1, h.2.symm⟩

set_option maxRecDepth 100000 in
set_option maxHeartbeats 2000000 in
theorem labelMayBe_any (s : ByteArray) (w : World) (hs : s.size ≤ 1099511627776) (hA : AlphaAt w) (hG : 2 < w.heap.size) :
    Calls Tryd.prog 17 #[.string s] w fun e w' => e = .returned (.bool (labelI s.data.toList)) ∧ Below w.heap.size w w' := by
  have HA := Lib.hid hA
  clear hA
  have hlen := parts_pos [] s.data.toList
  have hcnt := parts_count_le s.data.toList.length [] s.data.toList (Nat.le_refl _)
  have hsl : s.data.toList.length = s.size := rfl
  have hmem := parts_len_le s.data.toList.length [] s.data.toList (Nat.le_refl _)
  obtain ⟨P, hP⟩ : ∃ P, P = parts [] s.data.toList := ⟨_, rfl⟩
  have hfin : labelI s.data.toList = (decide (countByte s.data.toList 64 ≤ 1) && P.all partI) := by unfold labelI; rw [hP]
  rw [hfin]
  rw [← hP] at hlen hcnt hmem
  rw [hsl] at hcnt
  have HM := Lib.hid hmem
  have HP := Lib.hid hP
  clear hfin hP hmem hsl
  by_cases hc : countByte s.data.toList 64 ≤ 1
  · have hc2 : ((countByte s.data.toList 64 : Nat) : Int) ≤ 1 := by omega
    rw [decide_eq_true hc, Bool.true_and]
    clear hc
    obtain ⟨R, hR⟩ : ∃ R, R = P.all partI := ⟨_, rfl⟩
    rw [← hR]
    have HR := Lib.hid hR
    clear hR
    go_enter Tryd.func17, Tryd.ntmps17
    go_wp2_with fail
    refine (count_any s _).mono ?_
    rintro e w1 ⟨rfl, rfl⟩
    go_wp2_with fail
    refine (parts_any s _ hs).mono ?_
    rintro e w2 ⟨⟨v, rfl, hown⟩, hb⟩
    rw [← HP.out] at hown
    have HB := Lib.hid hb
    clear hb
    obtain ⟨g, cap, hv, hgb⟩ := owns_form hown hlen
    subst hv
    have HO := Lib.hid hown
    clear hown
    go_wp2_with fail
    go_loopg [2, 4, 11] P.length (fun n _ _ iv wr => ∃ i : Nat, i + n ≥ P.length ∧ i ≤ P.length ∧ iv = .int .i64 i ∧ Aside (R = (P.drop i).all partI) ∧ Hid (OwnsTexts wr w.heap.size (.slice (some ⟨g, 0, none⟩) P.length cap) P) ∧ Hid (Below w.heap.size w wr))
    case atStart => exact ⟨0, by omega, Nat.zero_le _, rfl, HR.out, HO.out, HB.out⟩
    case round =>
      clear HO HB
      obtain ⟨i, hn, hi, rfl, HL, HO, HB⟩ := hrel
      have HA2 := Lib.hid (HA.out.below HB.out hG)
      have hG2 : 2 < wr.heap.size := Nat.lt_of_lt_of_le hG HB.out.size
      by_cases hlt : i < P.length
      · have hcell : wr.cell? ⟨g, i, none⟩ = some (.string ⟨(P[i]'hlt).toArray⟩) := by
          rw [World.ownsRow.cellAt HO.out i (by omega)]
          simp [textCells, hlt]
        have hdrop : P.drop i = P[i]'hlt :: P.drop (i + 1) := List.drop_eq_getElem_cons hlt
        have hxl : (P[i]'hlt).length ≤ s.size := by
          have := HM.out _ (List.getElem_mem hlt)
          simpa using this
        obtain ⟨x, hx⟩ : ∃ x, x = P[i]'hlt := ⟨_, rfl⟩
        rw [← hx] at hcell hdrop hxl
        have HX := Lib.hid hdrop
        clear hx hdrop
        cases hp : partI x with
        | false =>
          have hRf : R = false := by rw [HL.out, HX.out]; simp [hp]
          have HRF := Lib.hid (And.intro hRf hp)
          clear hp hRf
          go_wp2_with fail
          refine (partMayBe_any ⟨x.toArray⟩ _ (Nat.le_trans hxl hs) HA2.out hG2).mono ?_
          rintro e w3 ⟨rfl, hb3⟩
          rw [show (⟨x.toArray⟩ : ByteArray).data.toList = x from rfl, HRF.out.2]
          have HB3 : Hid (Below w.heap.size w w3) := HB.out.trans (hb3.mono HB.out.size)
          clear hb3
          go_wp2_with fail
          go_ret
          refine ⟨?_, HB3.out⟩
          rw [HRF.out.1]
          rfl
        | true =>
          have HRF := Lib.hid hp
          clear hp
          go_wp2_with fail
          refine (partMayBe_any ⟨x.toArray⟩ _ (Nat.le_trans hxl hs) HA2.out hG2).mono ?_
          rintro e w3 ⟨rfl, hb3⟩
          rw [show (⟨x.toArray⟩ : ByteArray).data.toList = x from rfl, HRF.out]
          have HB3 : Hid (Below w.heap.size w w3) := HB.out.trans (hb3.mono HB.out.size)
          have HO3 : Hid (OwnsTexts w3 w.heap.size (.slice (some ⟨g, 0, none⟩) P.length cap) P) := World.ownsRow.kept (row := none) HO.out ⟨hb3.os, hb3.tape, hb3.output, hb3.size, fun k hk _ => hb3.block k hk⟩ (by simp [Value.ownBlock])
          clear hb3
          go_wp2_with fail
          go_roundg (gk - 1)
          case measure => omega
          case rel =>
            refine ⟨i + 1, by omega, by omega, by go_num, ?_, HO3, HB3⟩
            show _ = _
            rw [HL.out, HX.out, List.all_cons, HRF.out, Bool.true_and]
      · have hRt : R = true := by rw [HL.out, List.drop_eq_nil_of_le (by omega)]; rfl
        have HRT := Lib.hid hRt
        clear hRt
        go_wp2_with fail
        go_ret
        refine ⟨?_, HB.out⟩
        rw [HRT.out]
        rfl
  · have hc2 : 1 < ((countByte s.data.toList 64 : Nat) : Int) := by omega
    rw [decide_eq_false hc, Bool.false_and]
    clear hc
    go_enter Tryd.func17, Tryd.ntmps17
    go_wp2_with fail
    refine (count_any s _).mono ?_
    rintro e w1 ⟨rfl, rfl⟩
    go_wp2_with fail
    go_ret
    exact ⟨rfl, Below.refl _ _⟩
end Go.Proofs.YtgolffjiepcbpaaDoor
