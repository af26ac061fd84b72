/- Texts as encodings of runes. No walk. -/
import Derived.Test.YtgolffjiepcbpaaDoorLabelFits
import Derived.Test.YtgolffjiepcbpaaDoorLabelNormal
namespace Go.Proofs.YtgolffjiepcbpaaDoor
open Go.RowKit Go.Lib

/-- a rune that UTF-8 has -/
def VR (r : Nat) : Prop := r < 55296 ∨ (57343 < r ∧ r ≤ 1114111)

theorem u8_of (z : Int) (n : Nat) (h : z = n) (hn : n < 256) : (z.toNat.toUInt8).toNat = n := by
  subst h
  simp [Nat.toUInt8]
  omega

theorem decode_encode (r : Nat) (h : VR r) (t : List UInt8) : decodeL (encodeRune (r : Int) ++ t) = (r, (encodeRune (r : Int)).length) := by
  unfold VR at h
  unfold encodeRune
  by_cases h1 : r ≤ 127
  · rw [encodeRuneZ_one (by omega) (by omega)]
    simp only [List.map_cons, List.map_nil, List.cons_append, List.nil_append, List.length_cons, List.length_nil]
    rw [decodeL_N]
    simp only [List.getD_cons_zero, List.getD_cons_succ]
    rw [u8_of (r : Int) r rfl (by omega)]
    unfold decodeN
    rw [if_pos (by omega)]
  · by_cases h2 : r ≤ 2047
    · rw [encodeRuneZ_two (by omega) (by omega)]
      simp only [List.map_cons, List.map_nil, List.cons_append, List.nil_append, List.length_cons, List.length_nil]
      rw [decodeL_N]
      simp only [List.getD_cons_zero, List.getD_cons_succ, List.length_cons]
      rw [u8_of (192 + (r : Int) / 64) (192 + r / 64) (by omega) (by omega), u8_of (128 + (r : Int) % 64) (128 + r % 64) (by omega) (by omega)]
      unfold decodeN
      rw [if_neg (by omega), if_pos (by omega), if_pos (by omega)]
      congr 1
      omega
    · by_cases h3 : r ≤ 65535
      · rw [encodeRuneZ_three (by omega)]
        simp only [List.map_cons, List.map_nil, List.cons_append, List.nil_append, List.length_cons, List.length_nil]
        rw [decodeL_N]
        simp only [List.getD_cons_zero, List.getD_cons_succ, List.length_cons]
        rw [u8_of (224 + (r : Int) / 4096) (224 + r / 4096) (by omega) (by omega), u8_of (128 + (r : Int) / 64 % 64) (128 + r / 64 % 64) (by omega) (by omega), u8_of (128 + (r : Int) % 64) (128 + r % 64) (by omega) (by omega)]
        unfold decodeN
        rw [if_neg (by omega), if_neg (by omega), if_pos (by omega), if_pos (by omega)]
        congr 1
        omega
      · rw [encodeRuneZ_four (by omega) (by omega)]
        simp only [List.map_cons, List.map_nil, List.cons_append, List.nil_append, List.length_cons, List.length_nil]
        rw [decodeL_N]
        simp only [List.getD_cons_zero, List.getD_cons_succ, List.length_cons]
        rw [u8_of (240 + (r : Int) / 262144) (240 + r / 262144) (by omega) (by omega), u8_of (128 + (r : Int) / 4096 % 64) (128 + r / 4096 % 64) (by omega) (by omega), u8_of (128 + (r : Int) / 64 % 64) (128 + r / 64 % 64) (by omega) (by omega), u8_of (128 + (r : Int) % 64) (128 + r % 64) (by omega) (by omega)]
        unfold decodeN
        rw [if_neg (by omega), if_neg (by omega), if_neg (by omega), if_pos (by omega), if_pos (by omega)]
        congr 1
        omega

theorem encodeRune_ne (r : Int) : encodeRune r ≠ [] := by
  unfold encodeRune encodeRuneZ
  repeat' split
  all_goals simp

theorem decode_VR (l : List UInt8) (h : l ≠ []) (hv : ¬ ((decodeL l).1 = 65533 ∧ (decodeL l).2 = 1)) : VR (decodeL l).1 := by
  have k0 := (l.getD 0 0).toNat_lt
  unfold VR
  rw [decodeL_N] at hv ⊢
  rcases decodeN_shape l.length (l.getD 0 0).toNat (l.getD 1 0).toNat (l.getD 2 0).toNat (l.getD 3 0).toNat with ⟨c, e⟩ | ⟨c1, c2, c3, cv, e⟩ | ⟨c1, c2, c3, c4, cv, cs, e⟩ | ⟨c1, c2, c3, c4, c5, cv, cw, e⟩ | e
  all_goals rw [e] at hv ⊢
  all_goals dsimp only at hv ⊢
  all_goals omega

/-- the text of some runes -/
def enc (R : List Nat) : List UInt8 := R.flatMap fun (r : Nat) => encodeRune (r : Int)
theorem enc_nil : enc [] = [] := rfl
theorem enc_cons (r : Nat) (R : List Nat) : enc (r :: R) = encodeRune (r : Int) ++ enc R := rfl
theorem enc_app (A B : List Nat) : enc (A ++ B) = enc A ++ enc B := by simp [enc]
theorem enc_cons_ne (r : Nat) (R : List Nat) : enc (r :: R) ≠ [] := by
  rw [enc_cons]
  intro h
  exact encodeRune_ne _ (List.append_eq_nil_iff.1 h).1
theorem decode_enc (r : Nat) (R : List Nat) (h : VR r) : decodeL (enc (r :: R)) = (r, (encodeRune (r : Int)).length) := decode_encode r h _
theorem drop_enc (r : Nat) (R : List Nat) (h : VR r) : (enc (r :: R)).drop (decodeL (enc (r :: R))).2 = enc R := by
  rw [decode_enc r R h, enc_cons]
  exact List.drop_left
theorem take_enc (r : Nat) (R : List Nat) (h : VR r) : (enc (r :: R)).take (decodeL (enc (r :: R))).2 = encodeRune (r : Int) := by
  rw [decode_enc r R h, enc_cons]
  exact List.take_left

/-- the runes that UTF-8 has -/
def VRs (R : List Nat) : Prop := ∀ r ∈ R, VR r
theorem VRs.tail {r : Nat} {R : List Nat} (h : VRs (r :: R)) : VRs R := fun x hx => h x (List.mem_cons_of_mem _ hx)
theorem VRs.head {r : Nat} {R : List Nat} (h : VRs (r :: R)) : VR r := h r List.mem_cons_self

theorem runes_enc : ∀ (R : List Nat), VRs R → runes (enc R) = R
  | [], _ => by rw [enc_nil, runes_nil]
  | r :: R, h => by rw [runes_step _ (enc_cons_ne r R), drop_enc r R h.head, decode_enc r R h.head, runes_enc R h.tail]
theorem valid_enc : ∀ (R : List Nat), VRs R → validD (enc R) = true
  | [], _ => by rw [enc_nil, validD_nil]
  | r :: R, h => by
    rw [validD_step _ (enc_cons_ne r R), drop_enc r R h.head, decode_enc r R h.head, valid_enc R h.tail, if_neg]
    rintro ⟨h1, h2⟩
    dsimp only at h1 h2
    subst h1
    revert h2
    decide
theorem enc_runes : ∀ (n : Nat) (l : List UInt8), l.length ≤ n → validD l = true → enc (runes l) = l ∧ VRs (runes l)
  | 0, l, h, _ => by
    have : l = [] := List.eq_nil_of_length_eq_zero (by omega)
    subst this
    rw [runes_nil]
    exact ⟨rfl, fun _ h => nomatch h⟩
  | n + 1, l, h, hv => by
    by_cases hl : l = []
    · subst hl
      rw [runes_nil]
      exact ⟨rfl, fun _ h => nomatch h⟩
    · have hw := decodeL_width l
      have hp : 0 < l.length := List.length_pos_iff.2 hl
      rw [validD_step l hl] at hv
      split at hv
      · cases hv
      · rename_i hg
        obtain ⟨i1, i2⟩ := enc_runes n (l.drop (decodeL l).2) (by simp; omega) hv
        rw [runes_step l hl, enc_cons, i1, encode_decode l hl hg, List.take_append_drop]
        refine ⟨rfl, fun x hx => ?_⟩
        rcases List.mem_cons.1 hx with rfl | hx
        · exact decode_VR l hl hg
        · exact i2 x hx
theorem valid_is {l : List UInt8} (hv : validD l = true) : ∃ R, VRs R ∧ l = enc R :=
  ⟨runes l, (enc_runes l.length l (Nat.le_refl _) hv).2, (enc_runes l.length l (Nat.le_refl _) hv).1.symm⟩

theorem small_VR {r : Nat} (h : VR r) : 0 ≤ smallI r ∧ VR (smallI r).toNat ∧ ((smallI r).toNat : Int) = smallI r := by
  unfold VR at *
  unfold smallI capI
  split <;> rename_i hc
  · simp at hc
    omega
  · omega
def smallR (R : List Nat) : List Nat := R.map fun (r : Nat) => (smallI r).toNat
theorem smallR_VRs {R : List Nat} (h : VRs R) : VRs (smallR R) := fun x hx => by
  obtain ⟨r, hr, rfl⟩ := List.mem_map.1 hx
  exact (small_VR (h r hr)).2.1
theorem map_enc : ∀ (R : List Nat), VRs R → mapD smallI (enc R) = enc (smallR R)
  | [], _ => by rw [enc_nil, mapD_nil]; rfl
  | r :: R, h => by
    obtain ⟨h1, h2, h3⟩ := small_VR h.head
    rw [mapD_step _ _ (enc_cons_ne r R), drop_enc r R h.head, decode_enc r R h.head, map_enc R h.tail]
    dsimp only
    rw [if_pos h1, ← h3]
    rfl
end Go.Proofs.YtgolffjiepcbpaaDoor
