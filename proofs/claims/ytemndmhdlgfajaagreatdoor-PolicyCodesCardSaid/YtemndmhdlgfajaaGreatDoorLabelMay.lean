/- The walk of label.partMayBe. -/
import Derived.Test.YtemndmhdlgfajaaGreatDoorLabelParts
namespace Go.Proofs.YtemndmhdlgfajaaGreatDoor
open Go.RowKit Go.Lib

/-- the alphabets' sum is one of eight -/
def Oct (a : Int) : Prop := a = 0 ∨ a = 1 ∨ a = 2 ∨ a = 3 ∨ a = 4 ∨ a = 5 ∨ a = 6 ∨ a = 7
theorem letter_four (r : Int) : letterI r = 0 ∨ letterI r = 1 ∨ letterI r = 2 ∨ letterI r = 4 := by
  unfold letterI lowI
  repeat' split
  all_goals simp
theorem oct_or {a b : Int} (ha : Oct a) (hb : b = 0 ∨ b = 1 ∨ b = 2 ∨ b = 4) : Oct (bits .or .i64 a b) := by
  unfold Oct at *
  rcases ha with rfl | rfl | rfl | rfl | rfl | rfl | rfl | rfl <;> rcases hb with rfl | rfl | rfl | rfl <;> decide
theorem oct_alph : ∀ (l : List Nat) (a : Int), Oct a → Oct (alphOf a l)
  | [], _, h => h
  | r :: l, a, h => oct_alph l _ (oct_or h (letter_four _))

/-- not more than one alphabet -/
def oneI (a : Int) : Bool := decide (a = 0) || decide (a = 1) || decide (a = 2) || decide (a = 4)
def pop8 (a : Int) : Int := if a = 0 then 0 else if a = 1 ∨ a = 2 ∨ a = 4 then 1 else if a = 7 then 3 else 2

set_option maxHeartbeats 2000000 in
theorem ones_any (a : Int) (h : Oct a) (w : World) : Calls Tryz.prog 199 #[.int .u64 a] w fun e w' => e = .returned (.int .i64 (pop8 a)) ∧ w = w' := by
  rcases h with rfl | rfl | rfl | rfl | rfl | rfl | rfl | rfl
  all_goals
    go_enter Tryz.func199, Tryz.ntmps199
    go_wp2
    go_ret
    exact ⟨by kernel_rfl, rfl⟩

/-- each of these runes is a digit or a letter -/
def goodRunes (l : List Nat) : Bool := l.all fun r => digI r || !(letterI r == 0)
/-- a part that may be -/
def partI (l : List UInt8) : Bool := goodRunes (runes l) && !l.isEmpty && oneI (alphOf 0 (runes l))
theorem goodRunes_cons (r : Nat) (l : List Nat) : goodRunes (r :: l) = ((digI r || !(letterI r == 0)) && goodRunes l) := rfl

theorem pop_one {a : Int} (h : Oct a) : decide (pop8 a ≤ 1) = oneI a := by
  rcases h with rfl | rfl | rfl | rfl | rfl | rfl | rfl | rfl <;> decide
theorem oct_range {a : Int} (h : Oct a) : 0 ≤ a ∧ a ≤ 7 := by unfold Oct at h; omega

set_option maxRecDepth 100000 in
set_option maxHeartbeats 2000000 in
theorem partMayBe_any (s : ByteArray) (w : World) (hs : s.size ≤ 1099511627776) (hA : AlphaAt w) (hG : 4 < w.heap.size) :
    Calls Tryz.prog 163 #[.string s] w fun e w' => e = .returned (.bool (partI s.data.toList)) ∧ Below w.heap.size w w' := by
  have HA := Lib.hid hA
  clear hA
  go_enter Tryz.func163, Tryz.ntmps163
  go_wp2_with fail
  go_loopg [2, 4] s.size (fun g _ _ wr => ∃ pos : Nat, pos + g ≥ s.size ∧ pos ≤ s.size ∧ Aside (goodRunes (runes s.data.toList) = goodRunes (runes (s.data.toList.drop pos))) ∧ Hid (wr.heap[w.heap.size]? = some (.stringIter s pos)) ∧ Hid (Below w.heap.size w wr))
  case atStart => exact ⟨0, by omega, Nat.zero_le _, rfl, w.iter_heap s 0, (Below.refl _ _).alloc (Nat.le_refl _) _⟩
  case round =>
    obtain ⟨pos, hg, hp, HL, HI, HB⟩ := hrel
    by_cases hlt : pos < s.size
    · have hnx := fun ty => run_next_any_at (P := Tryz.prog) wr w.heap.size s pos ty HI.out hlt
      obtain ⟨k1, k2, k3⟩ := pos_step s pos hlt
      have hr : ((Utf8.decode s pos).1 : Int) ≤ 1114111 := by
        have := decodeL_rune (s.data.toList.drop pos)
        rw [decodeL_drop] at this
        omega
      have HB2 := Lib.hid (below_iterAt HB.out (Nat.le_refl _) s (pos + (Utf8.decode s pos).2))
      have HI2 := Lib.hid (iterAt_heap wr w.heap.size s pos (pos + (Utf8.decode s pos).2) HI.out)
      cases hd : digI ((Utf8.decode s pos).1 : Int) with
      | true =>
        have HS := Lib.hid (And.intro k1 (And.intro k2 (And.intro k3 hd)))
        clear k1 k2 k3 hd
        go_wp2_with (first | (go_at_call 197; refine (isDigit_any _ _).mono ?_; rintro e w2 ⟨rfl, rfl⟩; rw [HS.out.2.2.2]))
        go_roundg (gk - 1)
        case measure => omega
        case rel =>
          obtain ⟨e1, e2, e3, e4⟩ := HS.out
          refine ⟨pos + (Utf8.decode s pos).2, by omega, e2, ?_, HI2, HB2⟩
          show _ = _
          rw [HL.out, e3, goodRunes_cons, e4]
          rfl
      | false =>
        have HA2 := Lib.hid (HA.out.below HB2.out hG)
        have hG2 : 4 < (wr.iterAt w.heap.size s (pos + (Utf8.decode s pos).2)).heap.size := Nat.lt_of_lt_of_le hG HB2.out.size
        by_cases hl : letterI ((Utf8.decode s pos).1 : Int) = 0
        · have hl0 : (letterI ((Utf8.decode s pos).1 : Int) == 0) = true := by simpa using hl
          have hfalse : partI s.data.toList = false := by
            unfold partI
            rw [HL.out, k3, goodRunes_cons, hd, hl0]
            rfl
          have HF := Lib.hid hfalse
          have HS := Lib.hid hd
          clear hd hl hfalse k1 k2 k3
          go_wp2_with (first | (go_at_call 197; refine (isDigit_any _ _).mono ?_; rintro e w2 ⟨rfl, rfl⟩; rw [HS.out]) | (go_at_call 198; refine (alphabetOf_any _ ⟨by omega, by omega⟩ _ HA2.out hG2).mono ?_; rintro e w3 ⟨rfl, hb3⟩))
          go_ret
          refine ⟨?_, HB2.out.trans (Below.mono (by assumption) HB2.out.size)⟩
          rw [HF.out]
          rfl
        · have hl0 : (letterI ((Utf8.decode s pos).1 : Int) == 0) = false := by simpa using hl
          have HS := Lib.hid (And.intro k1 (And.intro k2 (And.intro k3 (And.intro hd hl0))))
          clear hd hl k1 k2 k3
          go_wp2_with (first | (go_at_call 197; refine (isDigit_any _ _).mono ?_; rintro e w2 ⟨rfl, rfl⟩; rw [HS.out.2.2.2.1]) | (go_at_call 198; refine (alphabetOf_any _ ⟨by omega, by omega⟩ _ HA2.out hG2).mono ?_; rintro e w3 ⟨rfl, hb3⟩; have HB4 := Lib.hid hb3; clear hb3))
          go_roundg (gk - 1)
          case measure => have := HS.out.1; omega
          case rel =>
            obtain ⟨e1, e2, e3, e4, e5⟩ := HS.out
            refine ⟨pos + (Utf8.decode s pos).2, by omega, e2, ?_, ?_, HB2.out.trans (Below.mono HB4.out HB2.out.size)⟩
            · show _ = _
              rw [HL.out, e3, goodRunes_cons, e5]
              simp
            · exact (HB4.out.block _ (Array.getElem?_eq_some_iff.1 HI2.out).1).trans HI2.out
    · have hnx := fun ty => run_next_end_at (P := Tryz.prog) wr w.heap.size s pos ty HI.out hlt
      have hd0 : s.data.toList.drop pos = [] := List.drop_eq_nil_of_le (by show s.size ≤ pos; omega)
      have hgood : goodRunes (runes s.data.toList) = true := by rw [HL.out, hd0]; rfl
      have HGD := Lib.hid hgood
      clear hd0 hgood
      have HA2 := Lib.hid (HA.out.below HB.out hG)
      have hG2 : 4 < wr.heap.size := Nat.lt_of_lt_of_le hG HB.out.size
      have hoct := oct_alph (runes s.data.toList) 0 (.inl rfl)
      have hrg := oct_range hoct
      obtain ⟨A, hAeq⟩ : ∃ A, A = alphOf 0 (runes s.data.toList) := ⟨_, rfl⟩
      rw [← hAeq] at hrg hoct
      have HAE := Lib.hid hAeq
      have HOCT := Lib.hid hoct
      clear hAeq hoct
      cases he : s.toList.isEmpty with
      | true =>
        have hfalse : partI s.data.toList = false := by
          unfold partI
          rw [ByteArray.toList_eq] at he
          rw [he]
          simp
        have HF := Lib.hid hfalse
        clear hfalse
        go_wp2_with fail
        go_ret
        refine ⟨?_, HB.out⟩
        rw [HF.out]
        rfl
      | false =>
        have htrue : partI s.data.toList = oneI A := by
          unfold partI
          rw [ByteArray.toList_eq] at he
          rw [he, HGD.out, HAE.out]
          simp
        have HF := Lib.hid htrue
        clear htrue
        have hwrap : IntKind.u64.wrap A = A := by
          have := hrg
          simp only [IntKind.wrap, IntKind.bits, IntKind.signed, IntKind.min, IntKind.max]
          simp
          omega
        go_wp2_with fail
        refine (alphabets_any s _ (by omega) HA2.out hG2).mono ?_
        rintro e w3 ⟨rfl, hb3⟩
        rw [← HAE.out]
        have HB4 := Lib.hid hb3
        clear hb3
        go_wp2_with fail
        refine (ones_any A HOCT.out _).mono ?_
        rintro e w4 ⟨rfl, rfl⟩
        go_wp2_with fail
        go_ret
        refine ⟨?_, HB.out.trans (Below.mono HB4.out HB.out.size)⟩
        rw [HF.out, ← pop_one HOCT.out]
        rfl
end Go.Proofs.YtemndmhdlgfajaaGreatDoor
