/- Plain functions for package label: a text's runes. Nothing here names the program. -/
import Derived.WalkKit
import Derived.Lib.MapLaws
import Derived.Lib.ValidLaws
import Derived.Lib.TrimUEq
namespace Go.Proofs.YtgolffjiepcbpaaDoor
open Go.Lib

/-- a text's runes, as a range over it gives them -/
def runesN : Nat → List UInt8 → List Nat
  | 0, _ => []
  | n + 1, l => if l = [] then [] else (decodeL l).1 :: runesN n (l.drop (decodeL l).2)
def runes (l : List UInt8) : List Nat := runesN l.length l

theorem runesN_more : ∀ (n m : Nat) (l : List UInt8), l.length ≤ n → l.length ≤ m → runesN n l = runesN m l
  | 0, 0, _, _, _ => rfl
  | 0, m + 1, l, h, _ => by
    have : l = [] := List.eq_nil_of_length_eq_zero (by omega)
    simp [runesN, this]
  | n + 1, 0, l, _, h => by
    have : l = [] := List.eq_nil_of_length_eq_zero (by omega)
    simp [runesN, this]
  | n + 1, m + 1, l, h1, h2 => by
    unfold runesN
    by_cases hl : l = []
    · simp [hl]
    · rw [if_neg hl, if_neg hl]
      have hw := decodeL_width l
      have hp : 0 < l.length := List.length_pos_iff.2 hl
      rw [runesN_more n m (l.drop (decodeL l).2) (by simp; omega) (by simp; omega)]
theorem runes_nil : runes [] = [] := rfl
theorem runes_step (l : List UInt8) (h : l ≠ []) : runes l = (decodeL l).1 :: runes (l.drop (decodeL l).2) := by
  have hp : 0 < l.length := List.length_pos_iff.2 h
  have hw := decodeL_width l
  obtain ⟨n, hn⟩ : ∃ n, l.length = n + 1 := ⟨l.length - 1, by omega⟩
  unfold runes
  rw [hn]
  conv => lhs; unfold runesN
  rw [if_neg h, runesN_more n (l.drop (decodeL l).2).length _ (by simp; omega) (Nat.le_refl _)]

/-- the document's next rune -/
def bad (l : List UInt8) : Prop := (decodeL l).1 = 65533 ∧ (decodeL l).2 = 1
instance (l : List UInt8) : Decidable (bad l) := by unfold bad; infer_instance
def refNextL (l : List UInt8) : Nat × Nat := if l = [] then (0, 0) else if bad l then (0, 0) else decodeL l

theorem validD_nil : validD [] = true := rfl
theorem runes_length_le : ∀ (n : Nat) (l : List UInt8), l.length ≤ n → (runes l).length ≤ l.length
  | 0, l, h => by
    have : l = [] := List.eq_nil_of_length_eq_zero (by omega)
    simp [this, runes_nil]
  | n + 1, l, h => by
    by_cases hl : l = []
    · simp [hl, runes_nil]
    · rw [runes_step l hl]
      have hw := decodeL_width l
      have hle := decodeL_le l hl
      have := runes_length_le n (l.drop (decodeL l).2) (by simp; omega)
      simp at this ⊢
      omega

/-- the document's next rune, by its bytes -/
def refB (n b0 b1 b2 b3 : Nat) : Nat × Nat :=
  if b0 < 128 then (b0, 1)
  else if 192 ≤ b0 ∧ b0 < 224 then
    (if n < 2 then (0, 0) else if b1 < 128 ∨ 192 ≤ b1 then (0, 0) else if (b0 - 192) * 64 + (b1 - 128) < 128 then (0, 0) else ((b0 - 192) * 64 + (b1 - 128), 2))
  else if 224 ≤ b0 ∧ b0 < 240 then
    (if n < 3 then (0, 0) else if b1 < 128 ∨ 192 ≤ b1 then (0, 0) else if b2 < 128 ∨ 192 ≤ b2 then (0, 0) else
      if (b0 - 224) * 4096 + (b1 - 128) * 64 + (b2 - 128) < 2048 ∨ (55296 ≤ (b0 - 224) * 4096 + (b1 - 128) * 64 + (b2 - 128) ∧ (b0 - 224) * 4096 + (b1 - 128) * 64 + (b2 - 128) < 57344) then (0, 0) else ((b0 - 224) * 4096 + (b1 - 128) * 64 + (b2 - 128), 3))
  else if 240 ≤ b0 ∧ b0 < 248 then
    (if n < 4 then (0, 0) else if b1 < 128 ∨ 192 ≤ b1 then (0, 0) else if b2 < 128 ∨ 192 ≤ b2 then (0, 0) else if b3 < 128 ∨ 192 ≤ b3 then (0, 0) else
      if (b0 - 240) * 262144 + (b1 - 128) * 4096 + (b2 - 128) * 64 + (b3 - 128) < 65536 ∨ 1114111 < (b0 - 240) * 262144 + (b1 - 128) * 4096 + (b2 - 128) * 64 + (b3 - 128) then (0, 0) else ((b0 - 240) * 262144 + (b1 - 128) * 4096 + (b2 - 128) * 64 + (b3 - 128), 4))
  else (0, 0)

theorem refB_eq (n b0 b1 b2 b3 : Nat) (h0 : b0 < 256) (h1 : b1 < 256) (h2 : b2 < 256) (h3 : b3 < 256) :
    refB n b0 b1 b2 b3 = if (decodeN n b0 b1 b2 b3).1 = 65533 ∧ (decodeN n b0 b1 b2 b3).2 = 1 then (0, 0) else decodeN n b0 b1 b2 b3 := by
  by_cases c0 : b0 < 128
  · have e : decodeN n b0 b1 b2 b3 = (b0, 1) := by unfold decodeN; rw [if_pos c0]
    have r : refB n b0 b1 b2 b3 = (b0, 1) := by unfold refB; rw [if_pos c0]
    rw [e, r, if_neg (by intro h; have := h.1; simp at this; omega)]
  · by_cases c2 : 192 ≤ b0 ∧ b0 < 224
    · have k2 : b0 / 32 = 6 := by omega
      have m2 : b0 % 32 = b0 - 192 := by omega
      by_cases d : n < 2 ∨ b1 < 128 ∨ 192 ≤ b1
      · have e : decodeN n b0 b1 b2 b3 = (65533, 1) := by
          unfold decodeN
          rw [if_neg c0, if_neg (by omega), if_neg (by omega), if_neg (by omega)]
        have r : refB n b0 b1 b2 b3 = (0, 0) := by
          unfold refB
          rw [if_neg c0, if_pos c2]
          by_cases hn : n < 2
          · rw [if_pos hn]
          · rw [if_neg hn, if_pos (by omega)]
        rw [e, r, if_pos ⟨rfl, rfl⟩]
      · have m1 : b1 % 64 = b1 - 128 := by omega
        have e : decodeN n b0 b1 b2 b3 = if (b0 - 192) * 64 + (b1 - 128) ≥ 128 then ((b0 - 192) * 64 + (b1 - 128), 2) else (65533, 1) := by
          unfold decodeN
          rw [if_neg c0, if_pos (by omega), m2, m1]
        have r : refB n b0 b1 b2 b3 = if (b0 - 192) * 64 + (b1 - 128) < 128 then (0, 0) else ((b0 - 192) * 64 + (b1 - 128), 2) := by
          unfold refB
          rw [if_neg c0, if_pos c2, if_neg (by omega), if_neg (by omega)]
        by_cases hv : (b0 - 192) * 64 + (b1 - 128) < 128
        · have e' : decodeN n b0 b1 b2 b3 = (65533, 1) := by rw [e, if_neg (by omega)]
          rw [e', r, if_pos hv, if_pos ⟨rfl, rfl⟩]
        · rw [if_pos (by omega)] at e
          rw [e, r, if_neg hv, if_neg (by intro h; have := h.2; simp at this)]
    · by_cases c3 : 224 ≤ b0 ∧ b0 < 240
      · have k3 : b0 / 16 = 14 := by omega
        have m2 : b0 % 16 = b0 - 224 := by omega
        by_cases d : n < 3 ∨ (b1 < 128 ∨ 192 ≤ b1) ∨ (b2 < 128 ∨ 192 ≤ b2)
        · have e : decodeN n b0 b1 b2 b3 = (65533, 1) := by
            unfold decodeN
            rw [if_neg c0, if_neg (by omega), if_neg (by omega), if_neg (by omega)]
          have r : refB n b0 b1 b2 b3 = (0, 0) := by
            unfold refB
            rw [if_neg c0, if_neg c2, if_pos c3]
            by_cases hn : n < 3
            · rw [if_pos hn]
            · rw [if_neg hn]
              by_cases h1' : b1 < 128 ∨ 192 ≤ b1
              · rw [if_pos h1']
              · rw [if_neg h1', if_pos (by omega)]
          rw [e, r, if_pos ⟨rfl, rfl⟩]
        · have m1 : b1 % 64 = b1 - 128 := by omega
          have m3 : b2 % 64 = b2 - 128 := by omega
          obtain ⟨v, hv⟩ : ∃ v, v = (b0 - 224) * 4096 + (b1 - 128) * 64 + (b2 - 128) := ⟨_, rfl⟩
          have e : decodeN n b0 b1 b2 b3 = if v ≥ 2048 ∧ (v < 55296 ∨ (57344 ≤ v ∧ v ≤ 1114111)) then (v, 3) else (65533, 1) := by
            unfold decodeN
            rw [if_neg c0, if_neg (by omega), if_pos (by omega), m2, m1, m3, ← hv]
          have r : refB n b0 b1 b2 b3 = if v < 2048 ∨ (55296 ≤ v ∧ v < 57344) then (0, 0) else (v, 3) := by
            unfold refB
            rw [if_neg c0, if_neg c2, if_pos c3, if_neg (by omega), if_neg (by omega), if_neg (by omega), ← hv]
          by_cases hw : v < 2048 ∨ (55296 ≤ v ∧ v < 57344)
          · have e' : decodeN n b0 b1 b2 b3 = (65533, 1) := by rw [e, if_neg (by omega)]
            rw [e', r, if_pos hw, if_pos ⟨rfl, rfl⟩]
          · rw [if_pos (by omega)] at e
            rw [e, r, if_neg hw, if_neg (by intro h; have := h.2; simp at this)]
      · by_cases c4 : 240 ≤ b0 ∧ b0 < 248
        · have k4 : b0 / 8 = 30 := by omega
          have m2 : b0 % 8 = b0 - 240 := by omega
          by_cases d : n < 4 ∨ (b1 < 128 ∨ 192 ≤ b1) ∨ (b2 < 128 ∨ 192 ≤ b2) ∨ (b3 < 128 ∨ 192 ≤ b3)
          · have e : decodeN n b0 b1 b2 b3 = (65533, 1) := by
              unfold decodeN
              rw [if_neg c0, if_neg (by omega), if_neg (by omega), if_neg (by omega)]
            have r : refB n b0 b1 b2 b3 = (0, 0) := by
              unfold refB
              rw [if_neg c0, if_neg c2, if_neg c3, if_pos c4]
              by_cases hn : n < 4
              · rw [if_pos hn]
              · rw [if_neg hn]
                by_cases h1' : b1 < 128 ∨ 192 ≤ b1
                · rw [if_pos h1']
                · rw [if_neg h1']
                  by_cases h2' : b2 < 128 ∨ 192 ≤ b2
                  · rw [if_pos h2']
                  · rw [if_neg h2', if_pos (by omega)]
            rw [e, r, if_pos ⟨rfl, rfl⟩]
          · have m1 : b1 % 64 = b1 - 128 := by omega
            have m3 : b2 % 64 = b2 - 128 := by omega
            have m4 : b3 % 64 = b3 - 128 := by omega
            obtain ⟨v, hv⟩ : ∃ v, v = (b0 - 240) * 262144 + (b1 - 128) * 4096 + (b2 - 128) * 64 + (b3 - 128) := ⟨_, rfl⟩
            have e : decodeN n b0 b1 b2 b3 = if v ≥ 65536 ∧ (v < 55296 ∨ (57344 ≤ v ∧ v ≤ 1114111)) then (v, 4) else (65533, 1) := by
              unfold decodeN
              rw [if_neg c0, if_neg (by omega), if_neg (by omega), if_pos (by omega), m2, m1, m3, m4, ← hv]
            have r : refB n b0 b1 b2 b3 = if v < 65536 ∨ 1114111 < v then (0, 0) else (v, 4) := by
              unfold refB
              rw [if_neg c0, if_neg c2, if_neg c3, if_pos c4, if_neg (by omega), if_neg (by omega), if_neg (by omega), if_neg (by omega), ← hv]
            by_cases hw : v < 65536 ∨ 1114111 < v
            · have e' : decodeN n b0 b1 b2 b3 = (65533, 1) := by rw [e, if_neg (by omega)]
              rw [e', r, if_pos hw, if_pos ⟨rfl, rfl⟩]
            · rw [if_pos (by omega)] at e
              rw [e, r, if_neg hw, if_neg (by intro h; have := h.2; simp at this)]
        · have e : decodeN n b0 b1 b2 b3 = (65533, 1) := by
            unfold decodeN
            rw [if_neg c0, if_neg (by omega), if_neg (by omega), if_neg (by omega)]
          have r : refB n b0 b1 b2 b3 = (0, 0) := by
            unfold refB
            rw [if_neg c0, if_neg c2, if_neg c3, if_neg c4]
          rw [e, r, if_pos ⟨rfl, rfl⟩]

theorem refNextL_eq (l : List UInt8) (h : l ≠ []) : refNextL l = refB l.length (l.getD 0 0).toNat (l.getD 1 0).toNat (l.getD 2 0).toNat (l.getD 3 0).toNat := by
  have hb : ∀ k, (l.getD k 0).toNat < 256 := fun k => (l.getD k 0).toNat_lt
  rw [refB_eq _ _ _ _ _ (hb 0) (hb 1) (hb 2) (hb 3), ← decodeL_N]
  unfold refNextL bad
  rw [if_neg h]
end Go.Proofs.YtgolffjiepcbpaaDoor
