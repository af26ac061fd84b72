/- The walk of a Reader's Text. -/
import Derived.Test.YtemgeelgkokpcaaDoorOctetR
namespace Go.Proofs.YtemgeelgkokpcaaDoor
open Go.RowKit

set_option maxHeartbeats 400000 in
theorem rtext_any (w : World) (p : Option Addr) (st : Option RSt) (h : RsAt w p st) (hm : ∀ s, st = some s → s.rest.size ≤ maxLen) :
    Calls Tryd.prog 47 #[.pointer p] w fun e w' => e = .returned (.string ((st.map fun s => s.text.1).getD ByteArray.empty)) ∧ RsAt w' p (st.map fun s => s.text.2) ∧ w.grownBy w' (prow p) := by
  have H := Lib.hid h
  have HM := Lib.hid hm
  clear h hm
  obtain ⟨n, hn⟩ : ∃ n, n = (st.map fun s => (s.num 2).1).getD 0 := ⟨_, rfl⟩
  have hn2 : n < 65536 := by
    subst hn
    cases st with
    | none => simp
    | some s =>
      have h1 := val_lt (s.fixed (2 : Nat)).1.data.toList
      have h2 := fixed_size s 2
      have h3 : (s.fixed (2 : Nat)).1.data.toList.length ≤ 2 := by simpa using h2
      have h4 : val (s.fixed (2 : Nat)).1.data.toList < 256 ^ 2 := Nat.lt_of_lt_of_le h1 (Nat.pow_le_pow_right (by omega) h3)
      simpa [RSt.num] using h4
  have HN := Lib.hid hn
  clear hn
  by_cases hl : 4096 < n
  · go_enter Tryd.func47, Tryd.ntmps47
    go_wp2_with fail
    refine (rnum_any 2 _ p st H.out HM.out).mono ?_
    rintro e w1 ⟨rfl, h1, h2⟩
    rw [← HN.out]
    have H1 := Lib.hid h1
    have H2 := Lib.hid h2
    clear h1 h2
    go_wp2_with fail
    refine (rfail_any 4 _ p _ H1.out).mono ?_
    rintro e w2 ⟨rfl, h3, h4⟩
    have H3 := Lib.hid h3
    have H4 := Lib.hid h4
    clear h3 h4
    go_wp2
    go_ret
    have h3 := H3.out
    have hN := HN.out
    refine ⟨?_, ?_, grownBy_trans H2.out H4.out⟩
    · cases st with
      | none => rfl
      | some s =>
        simp at hN
        simp [RSt.text, ← hN, hl]
        rfl
    · cases st with
      | none => exact h3
      | some s =>
        simp at hN
        simpa [RSt.text, ← hN, hl] using h3
  · go_enter Tryd.func47, Tryd.ntmps47
    go_wp2_with fail
    refine (rnum_any 2 _ p st H.out HM.out).mono ?_
    rintro e w1 ⟨rfl, h1, h2⟩
    rw [← HN.out]
    have H1 := Lib.hid h1
    have H2 := Lib.hid h2
    clear h1 h2
    go_wp2_with fail
    refine (rfixed_any n _ p _ H1.out ?_).mono ?_
    · intro x hx
      cases st with
      | none => cases hx
      | some s =>
        cases hx
        exact Nat.le_trans (rest_le s 2).1 (HM.out s rfl)
    rintro e w2 ⟨rfl, h3, h4⟩
    have H3 := Lib.hid h3
    have H4 := Lib.hid h4
    clear h3 h4
    go_wp2
    go_ret
    have h3 := H3.out
    have hN := HN.out
    refine ⟨?_, ?_, grownBy_trans H2.out H4.out⟩
    · cases st with
      | none => rfl
      | some s =>
        simp at hN
        rw [hN] at hl
        simp [RSt.text, hN, hl]
    · cases st with
      | none => exact h3
      | some s =>
        simp at hN
        rw [hN] at hl
        simpa [RSt.text, hN, hl] using h3
end Go.Proofs.YtemgeelgkokpcaaDoor
