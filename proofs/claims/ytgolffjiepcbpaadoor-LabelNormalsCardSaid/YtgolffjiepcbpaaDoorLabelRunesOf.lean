/- A label's rule over its runes. No walk. -/
import Derived.Test.YtgolffjiepcbpaaDoorLabelEnc
namespace Go.Proofs.YtgolffjiepcbpaaDoor
open Go.RowKit Go.Lib

def partsR : List Nat → List Nat → List (List Nat)
  | cur, [] => [cur]
  | cur, r :: R => if sepI (r : Int) = true then cur :: partsR [] R else partsR (cur ++ [r]) R
theorem partsR_cons (cur : List Nat) (r : Nat) (R : List Nat) : partsR cur (r :: R) = if sepI (r : Int) = true then cur :: partsR [] R else partsR (cur ++ [r]) R := rfl
theorem parts_enc : ∀ (R cur : List Nat), VRs R → parts (enc cur) (enc R) = (partsR cur R).map enc
  | [], cur, _ => by rw [enc_nil, parts_nil]; rfl
  | r :: R, cur, h => by
    rw [parts_step _ _ (enc_cons_ne r R), drop_enc r R h.head, take_enc r R h.head, decode_enc r R h.head]
    dsimp only
    unfold partsR
    split
    · have := parts_enc R [] h.tail
      rw [enc_nil] at this
      rw [this]
      rfl
    · have := parts_enc R (cur ++ [r]) h.tail
      rw [enc_app, show enc [r] = encodeRune (r : Int) from List.append_nil _] at this
      rw [this]
theorem partsR_VRs : ∀ (R cur : List Nat), VRs cur → VRs R → ∀ p ∈ partsR cur R, VRs p
  | [], cur, hc, _, p, hp => by
    simp [partsR] at hp
    subst hp
    exact hc
  | r :: R, cur, hc, h, p, hp => by
    unfold partsR at hp
    split at hp
    · rcases List.mem_cons.1 hp with rfl | hp
      · exact hc
      · exact partsR_VRs R [] (fun _ h => nomatch h) h.tail p hp
    · refine partsR_VRs R (cur ++ [r]) (fun x hx => ?_) h.tail p hp
      rcases List.mem_append.1 hx with hx | hx
      · exact hc x hx
      · simp at hx
        subst hx
        exact h.head

def at64 (R : List Nat) : Nat := R.countP fun r => decide (r = 64)
def partR (p : List Nat) : Bool := goodRunes p && !p.isEmpty && oneI (alphOf 0 p)
def labelR (R : List Nat) : Bool := decide (at64 R ≤ 1) && (partsR [] R).all partR

theorem enc_isEmpty (p : List Nat) : (enc p).isEmpty = p.isEmpty := by
  cases p with
  | nil => rfl
  | cons r R =>
    have := enc_cons_ne r R
    cases h : enc (r :: R) with
    | nil => exact absurd h this
    | cons a b => rfl
theorem part_enc {p : List Nat} (h : VRs p) : partI (enc p) = partR p := by
  unfold partI partR
  rw [runes_enc p h, enc_isEmpty]

theorem partsR_sep : ∀ (X cur Y : List Nat) (c : Nat), sepI (c : Int) = true → partsR cur (X ++ c :: Y) = partsR cur X ++ partsR [] Y
  | [], cur, Y, c, h => by
    show partsR cur (c :: Y) = [cur] ++ partsR [] Y
    rw [partsR_cons, if_pos h]
    rfl
  | r :: X, cur, Y, c, h => by
    show partsR cur (r :: (X ++ c :: Y)) = partsR cur (r :: X) ++ _
    rw [partsR_cons, partsR_cons]
    split
    · rw [partsR_sep X [] Y c h]
      rfl
    · exact partsR_sep X (cur ++ [r]) Y c h
theorem at64_app (X Y : List Nat) : at64 (X ++ Y) = at64 X + at64 Y := by simp [at64]
theorem label_join {X Y : List Nat} {c : Nat} (hc : sepI (c : Int) = true) (hx : labelR X = true) (hy : labelR Y = true) : labelR (X ++ c :: Y) = decide (at64 (X ++ c :: Y) ≤ 1) := by
  unfold labelR at *
  rw [partsR_sep X [] Y c hc, List.all_append]
  simp at hx hy
  have h1 : (partsR [] X).all partR = true := List.all_eq_true.2 hx.2
  have h2 : (partsR [] Y).all partR = true := List.all_eq_true.2 hy.2
  rw [h1, h2]
  simp

theorem small_keeps (r : Nat) : sepI (smallI r) = sepI r ∧ digI (smallI r) = digI r ∧ letterI (smallI r) = letterI r ∧ smallI (smallI r) = smallI r ∧ (smallI r = 64 ↔ r = 64) := by
  have h : smallI r = r ∨ (capI r = true ∧ smallI r = r + 32) := by
    unfold smallI
    split
    · rename_i h; exact .inr ⟨h, rfl⟩
    · exact .inl rfl
  rcases h with h | ⟨hc, h⟩
  · have hl : letterI (smallI r) = letterI r := by rw [h]
    rw [h]
    rw [h] at hl
    exact ⟨rfl, rfl, hl, h, by omega⟩
  · rw [h]
    unfold capI at hc
    simp at hc
    have h2 : smallI ((r : Int) + 32) = r + 32 := by
      unfold smallI capI
      rw [if_neg]
      simp
      omega
    unfold letterI
    rw [h2, h]
    unfold sepI digI
    refine ⟨?_, ?_, rfl, rfl, ?_⟩
    · rw [decide_eq_false (show ¬ ((r : Int) + 32 = 46) by omega), decide_eq_false (show ¬ ((r : Int) + 32 = 45) by omega), decide_eq_false (show ¬ ((r : Int) + 32 = 95) by omega), decide_eq_false (show ¬ ((r : Int) + 32 = 64) by omega), decide_eq_false (show ¬ ((r : Int) = 46) by omega), decide_eq_false (show ¬ ((r : Int) = 45) by omega), decide_eq_false (show ¬ ((r : Int) = 95) by omega), decide_eq_false (show ¬ ((r : Int) = 64) by omega)]
    · rw [decide_eq_false (show ¬ ((r : Int) + 32 ≤ 57) by omega), decide_eq_false (show ¬ ((r : Int) ≤ 57) by omega)]
      simp
    · omega

/-! ### the small letters -/
theorem small_nat {r : Nat} (h : VR r) : (((smallI r).toNat : Nat) : Int) = smallI r := (small_VR h).2.2
theorem smallR_cons (r : Nat) (R : List Nat) : smallR (r :: R) = (smallI r).toNat :: smallR R := rfl
theorem smallR_app (A B : List Nat) : smallR (A ++ B) = smallR A ++ smallR B := by simp [smallR]
theorem parts_small : ∀ (R cur : List Nat), VRs R → partsR (smallR cur) (smallR R) = (partsR cur R).map smallR
  | [], _, _ => rfl
  | r :: R, cur, h => by
    rw [smallR_cons, partsR_cons, partsR_cons, small_nat h.head, (small_keeps r).1]
    split
    · have := parts_small R [] h.tail
      rw [show smallR [] = [] from rfl] at this
      rw [this]
      rfl
    · have := parts_small R (cur ++ [r]) h.tail
      rw [smallR_app] at this
      exact this
theorem alph_small : ∀ (R : List Nat) (a : Int), VRs R → alphOf a (smallR R) = alphOf a R
  | [], _, _ => rfl
  | r :: R, a, h => by
    rw [smallR_cons]
    show alphOf (bits .or .i64 a (letterI (((smallI r).toNat : Nat) : Int))) (smallR R) = alphOf (bits .or .i64 a (letterI r)) R
    rw [small_nat h.head, (small_keeps r).2.2.1, alph_small R _ h.tail]
theorem good_small : ∀ (R : List Nat), VRs R → goodRunes (smallR R) = goodRunes R
  | [], _ => rfl
  | r :: R, h => by rw [smallR_cons, goodRunes_cons, goodRunes_cons, small_nat h.head, (small_keeps r).2.1, (small_keeps r).2.2.1, good_small R h.tail]
theorem at64_small : ∀ (R : List Nat), VRs R → at64 (smallR R) = at64 R
  | [], _ => rfl
  | r :: R, h => by
    have h1 := at64_small R h.tail
    have h2 : ((smallI r).toNat = 64) = (r = 64) := by
      have a := small_nat h.head
      have b := (small_keeps r).2.2.2.2
      apply propext
      omega
    unfold at64 at *
    rw [smallR_cons, List.countP_cons, List.countP_cons, h1]
    simp only [h2]
theorem part_small {p : List Nat} (h : VRs p) : partR (smallR p) = partR p := by
  unfold partR
  rw [good_small p h, alph_small p 0 h, show (smallR p).isEmpty = p.isEmpty by cases p <;> rfl]
theorem label_small {R : List Nat} (h : VRs R) : labelR (smallR R) = labelR R := by
  unfold labelR
  have hp := parts_small R [] h
  rw [show smallR [] = [] from rfl] at hp
  rw [at64_small R h, hp, List.all_map]
  congr 1
  have hv := partsR_VRs R [] (fun _ h => nomatch h) h
  generalize partsR [] R = Q at hv
  induction Q with
  | nil => rfl
  | cons q Q ih =>
    rw [List.all_cons, List.all_cons, ih fun p hp => hv p (List.mem_cons_of_mem _ hp)]
    show (partR (smallR q) && _) = _
    rw [part_small (hv q List.mem_cons_self)]
theorem small_small {R : List Nat} (h : VRs R) : smallR (smallR R) = smallR R := by
  unfold smallR
  rw [List.map_map]
  refine List.map_congr_left fun r hr => ?_
  show (smallI (((smallI r).toNat : Nat) : Int)).toNat = _
  rw [small_nat (h r hr), (small_keeps r).2.2.2.1]
theorem smallR_length (R : List Nat) : (smallR R).length = R.length := by simp [smallR]

/-! ### the bytes 64 -/
theorem count_rune {r : Nat} (h : VR r) : (encodeRune (r : Int)).count 64 = if r = 64 then 1 else 0 := by
  by_cases h1 : r ≤ 127
  · unfold encodeRune
    rw [encodeRuneZ_one (by omega) (by omega)]
    by_cases h2 : r = 64
    · subst h2
      decide
    · rw [if_neg h2, List.count_eq_zero]
      intro hm
      simp at hm
      have := congrArg UInt8.toNat hm
      simp at this
      omega
  · rw [if_neg (by omega), List.count_eq_zero]
    intro hm
    have hd := decode_encode r h []
    rw [List.append_nil] at hd
    rcases decodeL_bytes (encodeRune (r : Int)) (encodeRune_ne _) with ⟨h2, _⟩ | ⟨_, h2⟩
    · rw [hd] at h2
      dsimp only at h2
      omega
    · rw [hd] at h2
      dsimp only at h2
      rw [List.take_length] at h2
      have := h2 64 hm
      revert this
      decide
theorem count_enc : ∀ (R : List Nat), VRs R → countByte (enc R) 64 = at64 R
  | [], _ => rfl
  | r :: R, h => by
    have ih := count_enc R h.tail
    unfold countByte at64 at *
    rw [enc_cons, List.count_append, ih, count_rune h.head, List.countP_cons]
    simp
    omega
theorem label_enc {R : List Nat} (h : VRs R) : labelI (enc R) = labelR R := by
  unfold labelI labelR
  have hp := parts_enc R [] h
  rw [enc_nil] at hp
  rw [count_enc R h, hp, List.all_map]
  congr 1
  have hv := partsR_VRs R [] (fun _ h => nomatch h) h
  generalize partsR [] R = Q at hv
  induction Q with
  | nil => rfl
  | cons q Q ih =>
    rw [List.all_cons, List.all_cons, ih fun p hp => hv p (List.mem_cons_of_mem _ hp)]
    show (partI (enc q) && _) = _
    rw [part_enc (hv q List.mem_cons_self)]

/-! ### the alphabets of two -/
theorem or_assoc3 : ∀ a b c : Fin 8, bits .or .i64 (bits .or .i64 (a.val : Int) (b.val : Int)) (c.val : Int) = bits .or .i64 (a.val : Int) (bits .or .i64 (b.val : Int) (c.val : Int)) := by decide +kernel
theorem or_zero8 : ∀ a : Fin 8, bits .or .i64 (a.val : Int) 0 = (a.val : Int) ∧ bits .or .i64 0 (a.val : Int) = (a.val : Int) := by decide +kernel
theorem oct_fin {a : Int} (h : Oct a) : ∃ k : Fin 8, a = (k.val : Int) := by
  have := oct_range h
  exact ⟨⟨a.toNat, by omega⟩, by show a = ((a.toNat : Nat) : Int); omega⟩
theorem oct_letter (r : Int) : Oct (letterI r) := by
  have := letter_four r
  unfold Oct
  omega
theorem alph_or : ∀ (R : List Nat) (a : Int), Oct a → alphOf a R = bits .or .i64 a (alphOf 0 R)
  | [], a, h => by
    obtain ⟨k, rfl⟩ := oct_fin h
    exact (or_zero8 k).1.symm
  | r :: R, a, h => by
    show alphOf (bits .or .i64 a (letterI r)) R = bits .or .i64 a (alphOf (bits .or .i64 0 (letterI r)) R)
    have h0 : bits .or .i64 0 (letterI r) = letterI r := by
      obtain ⟨k, hk⟩ := oct_fin (oct_letter (r : Int))
      rw [hk]
      exact (or_zero8 k).2
    rw [h0, alph_or R _ (oct_or h (letter_four r)), alph_or R _ (oct_letter r)]
    obtain ⟨k, hk⟩ := oct_fin h
    obtain ⟨l, hl⟩ := oct_fin (oct_letter (r : Int))
    obtain ⟨m, hm⟩ := oct_fin (oct_alph R 0 (.inl rfl))
    rw [hk, hl, hm]
    exact or_assoc3 k l m
theorem alph_join (X Y : List Nat) (c : Nat) (hc : letterI (c : Int) = 0) : alphOf 0 (X ++ c :: Y) = bits .or .i64 (alphOf 0 X) (alphOf 0 Y) := by
  have e : alphOf 0 (X ++ c :: Y) = alphOf (bits .or .i64 (alphOf 0 X) (letterI c)) Y := by simp [alphOf, List.foldl_append]
  rw [e, hc]
  have hx := oct_alph X 0 (.inl rfl)
  obtain ⟨k, hk⟩ := oct_fin hx
  rw [show bits .or .i64 (alphOf 0 X) 0 = alphOf 0 X by rw [hk]; exact (or_zero8 k).1]
  exact alph_or Y _ hx

/-- a normal form's runes -/
theorem normal_good {l : List UInt8} (h : (normalI l).2 = 0) : ∃ A, VRs A ∧ l = enc A ∧ A.length ≤ 64 ∧ labelR A = true ∧ (normalI l).1 = enc (smallR A) := by
  unfold normalI at h ⊢
  split at h
  · cases h
  · rename_i hv
    split at h
    · cases h
    · rename_i hl
      split at h
      · cases h
      · rename_i hm
        rw [if_neg hv, if_neg hl, if_neg hm]
        obtain ⟨A, hA, rfl⟩ := valid_is (by simpa using hv)
        rw [runes_enc A hA] at hl
        rw [label_enc hA] at hm
        exact ⟨A, hA, rfl, by omega, by simpa using hm, map_enc A hA⟩
theorem normal_enc {R : List Nat} (h : VRs R) : normalI (enc R) = if 64 < R.length then ([], 2) else if labelR R = false then ([], 5) else (enc (smallR R), 0) := by
  unfold normalI
  rw [if_neg (by rw [valid_enc R h]; decide), runes_enc R h, label_enc h, map_enc R h]
end Go.Proofs.YtgolffjiepcbpaaDoor
