/- A text's parts, with a separator between each two, are the text. No walk. -/
import Derived.Test.YtgolffjiepcbpaaDoorLabelMay2
namespace Go.Proofs.YtgolffjiepcbpaaDoor
open Go.RowKit Go.Lib

theorem decodeN_bytes (n b0 b1 b2 b3 : Nat) : ((decodeN n b0 b1 b2 b3).1 < 128 ∧ (decodeN n b0 b1 b2 b3).2 = 1 ∧ b0 = (decodeN n b0 b1 b2 b3).1) ∨ (128 ≤ (decodeN n b0 b1 b2 b3).1 ∧ (decodeN n b0 b1 b2 b3).2 ≤ 4 ∧ 128 ≤ b0 ∧ (1 < (decodeN n b0 b1 b2 b3).2 → 128 ≤ b1) ∧ (2 < (decodeN n b0 b1 b2 b3).2 → 128 ≤ b2) ∧ (3 < (decodeN n b0 b1 b2 b3).2 → 128 ≤ b3)) := by
  unfold decodeN
  repeat' split
  all_goals first
    | exact .inl ⟨by omega, rfl, rfl⟩
    | exact .inr ⟨by show 128 ≤ _; omega, by show _ ≤ 4; omega, by omega, fun h => by first | omega | (exfalso; revert h; decide), fun h => by first | omega | (exfalso; revert h; decide), fun h => by first | omega | (exfalso; revert h; decide)⟩
theorem decodeL_bytes (l : List UInt8) (h : l ≠ []) : ((decodeL l).1 < 128 ∧ (decodeL l).2 = 1 ∧ ∃ c r, l = c :: r ∧ c.toNat = (decodeL l).1) ∨ (128 ≤ (decodeL l).1 ∧ ∀ c ∈ l.take (decodeL l).2, 128 ≤ c.toNat) := by
  have key := decodeN_bytes l.length (l.getD 0 0).toNat (l.getD 1 0).toNat (l.getD 2 0).toNat (l.getD 3 0).toNat
  rw [← decodeL_N] at key
  rcases key with ⟨h1, h2, h3⟩ | ⟨h1, hw, h2, h3, h4, h5⟩
  · refine .inl ⟨h1, h2, ?_⟩
    cases l with
    | nil => exact absurd rfl h
    | cons c r => exact ⟨c, r, rfl, h3⟩
  · refine .inr ⟨h1, fun c hc => ?_⟩
    obtain ⟨i, hi, hci⟩ := List.mem_iff_getElem.1 hc
    rw [List.length_take] at hi
    rw [List.getElem_take] at hci
    have hd : l.getD i 0 = c := by rw [List.getD_eq_getElem?_getD, List.getElem?_eq_getElem (by omega), hci]; rfl
    match i, hi, hd with
    | 0, hi, hd => rw [hd] at h2; exact h2
    | 1, hi, hd => rw [hd] at h3; exact h3 (by omega)
    | 2, hi, hd => rw [hd] at h4; exact h4 (by omega)
    | 3, hi, hd => rw [hd] at h5; exact h5 (by omega)
    | i + 4, hi, hd => omega
/-- the bytes of the four separators -/
def isSepB (c : UInt8) : Prop := c.toNat = 46 ∨ c.toNat = 45 ∨ c.toNat = 95 ∨ c.toNat = 64
def noSep (l : List UInt8) : Prop := ∀ c ∈ l, ¬ isSepB c
theorem noSep_nil : noSep [] := fun _ h => nomatch h

theorem sep_bytes (l : List UInt8) (h : l ≠ []) (hs : sepI ((decodeL l).1 : Int) = true) : ∃ c r, l = c :: r ∧ isSepB c ∧ l.drop (decodeL l).2 = r := by
  have hr : (decodeL l).1 = 46 ∨ (decodeL l).1 = 45 ∨ (decodeL l).1 = 95 ∨ (decodeL l).1 = 64 := by
    unfold sepI at hs
    simp at hs
    omega
  rcases decodeL_bytes l h with ⟨h1, h2, c, r, rfl, h3⟩ | ⟨h1, _⟩
  · exact ⟨c, r, rfl, by unfold isSepB; omega, by rw [h2]; rfl⟩
  · omega
theorem nosep_bytes (l : List UInt8) (h : l ≠ []) (hs : sepI ((decodeL l).1 : Int) = false) : noSep (l.take (decodeL l).2) := by
  have hr : (decodeL l).1 ≠ 46 ∧ (decodeL l).1 ≠ 45 ∧ (decodeL l).1 ≠ 95 ∧ (decodeL l).1 ≠ 64 := by
    unfold sepI at hs
    simp at hs
    omega
  intro c hc hx
  unfold isSepB at hx
  rcases decodeL_bytes l h with ⟨h1, h2, c', r, hl, h3⟩ | ⟨h1, h2⟩
  · rw [h2, hl] at hc
    simp at hc
    subst hc
    omega
  · have := h2 c hc
    omega

/-- the texts, with one separator between each two, are the text -/
def fits : List (List UInt8) → List UInt8 → Prop
  | [], _ => False
  | [p], r => r = p ∧ noSep p
  | p :: q :: ps, r => ∃ c rest, r = p ++ c :: rest ∧ isSepB c ∧ noSep p ∧ fits (q :: ps) rest

theorem noSep_app {a b : List UInt8} (ha : noSep a) (hb : noSep b) : noSep (a ++ b) := fun c hc => by
  rcases List.mem_append.1 hc with h | h
  · exact ha c h
  · exact hb c h

theorem parts_fit : ∀ (n : Nat) (cur l : List UInt8), l.length ≤ n → noSep cur → fits (parts cur l) (cur ++ l)
  | 0, cur, l, h, hc => by
    have : l = [] := List.eq_nil_of_length_eq_zero (by omega)
    subst this
    exact ⟨List.append_nil _, hc⟩
  | n + 1, cur, l, h, hc => by
    by_cases hl : l = []
    · subst hl
      exact ⟨List.append_nil _, hc⟩
    · have hw := decodeL_width l
      have hp : 0 < l.length := List.length_pos_iff.2 hl
      rw [parts_step _ _ hl]
      cases hs : sepI ((decodeL l).1 : Int) with
      | true =>
        rw [if_pos rfl]
        obtain ⟨c, r, hlr, hcs, hd⟩ := sep_bytes l hl hs
        have ih := parts_fit n [] (l.drop (decodeL l).2) (by simp; omega) noSep_nil
        rw [hd] at ih ⊢
        have hpos := parts_pos [] r
        cases hpr : parts [] r with
        | nil => rw [hpr] at hpos; exact absurd hpos (Nat.lt_irrefl 0)
        | cons q ps =>
          rw [hpr] at ih
          exact ⟨c, r, by rw [hlr], hcs, hc, ih⟩
      | false =>
        rw [if_neg (by decide)]
        have ih := parts_fit n (cur ++ l.take (decodeL l).2) (l.drop (decodeL l).2) (by simp; omega) (noSep_app hc (nosep_bytes l hl hs))
        rw [List.append_assoc, List.take_append_drop] at ih
        exact ih

/-- the next part, where it is not the last, and where it is -/
theorem fits_step {P : List (List UInt8)} {i : Nat} {r : List UInt8} (hi : i < P.length) (h : fits (P.drop i) r) :
    noSep (P[i]'hi) ∧ ((i + 1 = P.length ∧ r = P[i]'hi) ∨ (i + 1 < P.length ∧ ∃ c rest, r = P[i]'hi ++ c :: rest ∧ isSepB c ∧ fits (P.drop (i + 1)) rest)) := by
  rw [List.drop_eq_getElem_cons hi] at h
  cases hd : P.drop (i + 1) with
  | nil =>
    rw [hd] at h
    have hl : P.length ≤ i + 1 := List.drop_eq_nil_iff.1 hd
    exact ⟨h.2, .inl ⟨by omega, h.1⟩⟩
  | cons q ps =>
    rw [hd] at h
    obtain ⟨c, rest, h1, h2, h3, h4⟩ := h
    have hl : (P.drop (i + 1)).length = ps.length + 1 := by rw [hd]; rfl
    rw [List.length_drop] at hl
    exact ⟨h3, .inr ⟨by omega, c, rest, h1, h2, h4⟩⟩
end Go.Proofs.YtgolffjiepcbpaaDoor
