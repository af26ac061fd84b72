/- A label's rule over its runes. No walk. · Plain words: texts of 16 bytes one behind another, a signature's bytes, an update's bytes. No walk. · Plain functions for package merkle: nodes, roots, paths, climbs, each by levels and by halves. No walk of the program. · The walks of digits' small functions. · The walk of digits.Of. · The walks of wots' places, secrets, walks. · The walks of bits' loops. · Texts out of rows of bytes. No walk. · Arrays of sixteen bytes: sliced, loaded, held against one another. No walk. -/
import Derived.Test.YtioahjdojgcfdaaDoorRosterLaysB3
import Derived.Test.YtioahjdojgcfdaaDoorRosterLaysB2
import Derived.Test.YtioahjdojgcfdaaDoorRosterLaysB1
import Derived.WalkSpells
import Derived.WalkLawsBesides
import Derived.Laws.IdiomStrings
import Derived.Deep.LoopGhost
import Derived.Deep.DeepCutAuto
import Derived.Deep.CutBlock
import Derived.ChangeKeysEq
namespace Go.Proofs.YtioahjdojgcfdaaDoor
open Go.RowKit Go.Lib

def partsR : List Nat → List Nat → List (List Nat)
  | cur, [] => [cur]
  | cur, r :: R => if sepI (r : Int) = true then cur :: partsR [] R else partsR (cur ++ [r]) R
theorem partsR_cons (cur : List Nat) (r : Nat) (R : List Nat) : partsR cur (r :: R) = if sepI (r : Int) = true then cur :: partsR [] R else partsR (cur ++ [r]) R := rfl
theorem parts_enc : ∀ (R cur : List Nat), VRs R → parts (enc cur) (enc R) = (partsR cur R).map enc
  | [], cur, _ => by rw [enc_nil, parts_nil]; rfl
  | r :: R, cur, h => by
    rw [parts_step _ _ (enc_cons_ne r R), drop_enc r R h.head, take_enc r R h.head, decode_enc r R h.head]
    dsimp only
    unfold partsR
    split
    · have := parts_enc R [] h.tail
      rw [enc_nil] at this
      rw [this]
      rfl
    · have := parts_enc R (cur ++ [r]) h.tail
      rw [enc_app, show enc [r] = encodeRune (r : Int) from List.append_nil _] at this
      rw [this]
theorem partsR_VRs : ∀ (R cur : List Nat), VRs cur → VRs R → ∀ p ∈ partsR cur R, VRs p
  | [], cur, hc, _, p, hp => by
    simp [partsR] at hp
    subst hp
    exact hc
  | r :: R, cur, hc, h, p, hp => by
    unfold partsR at hp
    split at hp
    · rcases List.mem_cons.1 hp with rfl | hp
      · exact hc
      · exact partsR_VRs R [] (fun _ h => nomatch h) h.tail p hp
    · refine partsR_VRs R (cur ++ [r]) (fun x hx => ?_) h.tail p hp
      rcases List.mem_append.1 hx with hx | hx
      · exact hc x hx
      · simp at hx
        subst hx
        exact h.head

def at64 (R : List Nat) : Nat := R.countP fun r => decide (r = 64)
def partR (p : List Nat) : Bool := goodRunes p && !p.isEmpty && oneI (alphOf 0 p)
def labelR (R : List Nat) : Bool := decide (at64 R ≤ 1) && (partsR [] R).all partR

theorem enc_isEmpty (p : List Nat) : (enc p).isEmpty = p.isEmpty := by
  cases p with
  | nil => rfl
  | cons r R =>
    have := enc_cons_ne r R
    cases h : enc (r :: R) with
    | nil => exact absurd h this
    | cons a b => rfl
theorem part_enc {p : List Nat} (h : VRs p) : partI (enc p) = partR p := by
  unfold partI partR
  rw [runes_enc p h, enc_isEmpty]

theorem partsR_sep : ∀ (X cur Y : List Nat) (c : Nat), sepI (c : Int) = true → partsR cur (X ++ c :: Y) = partsR cur X ++ partsR [] Y
  | [], cur, Y, c, h => by
    show partsR cur (c :: Y) = [cur] ++ partsR [] Y
    rw [partsR_cons, if_pos h]
    rfl
  | r :: X, cur, Y, c, h => by
    show partsR cur (r :: (X ++ c :: Y)) = partsR cur (r :: X) ++ _
    rw [partsR_cons, partsR_cons]
    split
    · rw [partsR_sep X [] Y c h]
      rfl
    · exact partsR_sep X (cur ++ [r]) Y c h
theorem at64_app (X Y : List Nat) : at64 (X ++ Y) = at64 X + at64 Y := by simp [at64]
theorem label_join {X Y : List Nat} {c : Nat} (hc : sepI (c : Int) = true) (hx : labelR X = true) (hy : labelR Y = true) : labelR (X ++ c :: Y) = decide (at64 (X ++ c :: Y) ≤ 1) := by
  unfold labelR at *
  rw [partsR_sep X [] Y c hc, List.all_append]
  simp at hx hy
  have h1 : (partsR [] X).all partR = true := List.all_eq_true.2 hx.2
  have h2 : (partsR [] Y).all partR = true := List.all_eq_true.2 hy.2
  rw [h1, h2]
  simp

theorem small_keeps (r : Nat) : sepI (smallI r) = sepI r ∧ digI (smallI r) = digI r ∧ letterI (smallI r) = letterI r ∧ smallI (smallI r) = smallI r ∧ (smallI r = 64 ↔ r = 64) := by
  have h : smallI r = r ∨ (capI r = true ∧ smallI r = r + 32) := by
    unfold smallI
    split
    · rename_i h; exact .inr ⟨h, rfl⟩
    · exact .inl rfl
  rcases h with h | ⟨hc, h⟩
  · have hl : letterI (smallI r) = letterI r := by rw [h]
    rw [h]
    rw [h] at hl
    exact ⟨rfl, rfl, hl, h, by omega⟩
  · rw [h]
    unfold capI at hc
    simp at hc
    have h2 : smallI ((r : Int) + 32) = r + 32 := by
      unfold smallI capI
      rw [if_neg]
      simp
      omega
    unfold letterI
    rw [h2, h]
    unfold sepI digI
    refine ⟨?_, ?_, rfl, rfl, ?_⟩
    · rw [decide_eq_false (show ¬ ((r : Int) + 32 = 46) by omega), decide_eq_false (show ¬ ((r : Int) + 32 = 45) by omega), decide_eq_false (show ¬ ((r : Int) + 32 = 95) by omega), decide_eq_false (show ¬ ((r : Int) + 32 = 64) by omega), decide_eq_false (show ¬ ((r : Int) = 46) by omega), decide_eq_false (show ¬ ((r : Int) = 45) by omega), decide_eq_false (show ¬ ((r : Int) = 95) by omega), decide_eq_false (show ¬ ((r : Int) = 64) by omega)]
    · rw [decide_eq_false (show ¬ ((r : Int) + 32 ≤ 57) by omega), decide_eq_false (show ¬ ((r : Int) ≤ 57) by omega)]
      simp
    · omega

/-! ### the small letters -/
theorem small_nat {r : Nat} (h : VR r) : (((smallI r).toNat : Nat) : Int) = smallI r := (small_VR h).2.2
theorem smallR_cons (r : Nat) (R : List Nat) : smallR (r :: R) = (smallI r).toNat :: smallR R := rfl
theorem smallR_app (A B : List Nat) : smallR (A ++ B) = smallR A ++ smallR B := by simp [smallR]
theorem parts_small : ∀ (R cur : List Nat), VRs R → partsR (smallR cur) (smallR R) = (partsR cur R).map smallR
  | [], _, _ => rfl
  | r :: R, cur, h => by
    rw [smallR_cons, partsR_cons, partsR_cons, small_nat h.head, (small_keeps r).1]
    split
    · have := parts_small R [] h.tail
      rw [show smallR [] = [] from rfl] at this
      rw [this]
      rfl
    · have := parts_small R (cur ++ [r]) h.tail
      rw [smallR_app] at this
      exact this
theorem alph_small : ∀ (R : List Nat) (a : Int), VRs R → alphOf a (smallR R) = alphOf a R
  | [], _, _ => rfl
  | r :: R, a, h => by
    rw [smallR_cons]
    show alphOf (bits .or .i64 a (letterI (((smallI r).toNat : Nat) : Int))) (smallR R) = alphOf (bits .or .i64 a (letterI r)) R
    rw [small_nat h.head, (small_keeps r).2.2.1, alph_small R _ h.tail]
theorem good_small : ∀ (R : List Nat), VRs R → goodRunes (smallR R) = goodRunes R
  | [], _ => rfl
  | r :: R, h => by rw [smallR_cons, goodRunes_cons, goodRunes_cons, small_nat h.head, (small_keeps r).2.1, (small_keeps r).2.2.1, good_small R h.tail]
theorem at64_small : ∀ (R : List Nat), VRs R → at64 (smallR R) = at64 R
  | [], _ => rfl
  | r :: R, h => by
    have h1 := at64_small R h.tail
    have h2 : ((smallI r).toNat = 64) = (r = 64) := by
      have a := small_nat h.head
      have b := (small_keeps r).2.2.2.2
      apply propext
      omega
    unfold at64 at *
    rw [smallR_cons, List.countP_cons, List.countP_cons, h1]
    simp only [h2]
theorem part_small {p : List Nat} (h : VRs p) : partR (smallR p) = partR p := by
  unfold partR
  rw [good_small p h, alph_small p 0 h, show (smallR p).isEmpty = p.isEmpty by cases p <;> rfl]
theorem label_small {R : List Nat} (h : VRs R) : labelR (smallR R) = labelR R := by
  unfold labelR
  have hp := parts_small R [] h
  rw [show smallR [] = [] from rfl] at hp
  rw [at64_small R h, hp, List.all_map]
  congr 1
  have hv := partsR_VRs R [] (fun _ h => nomatch h) h
  generalize partsR [] R = Q at hv
  induction Q with
  | nil => rfl
  | cons q Q ih =>
    rw [List.all_cons, List.all_cons, ih fun p hp => hv p (List.mem_cons_of_mem _ hp)]
    show (partR (smallR q) && _) = _
    rw [part_small (hv q List.mem_cons_self)]
theorem small_small {R : List Nat} (h : VRs R) : smallR (smallR R) = smallR R := by
  unfold smallR
  rw [List.map_map]
  refine List.map_congr_left fun r hr => ?_
  show (smallI (((smallI r).toNat : Nat) : Int)).toNat = _
  rw [small_nat (h r hr), (small_keeps r).2.2.2.1]
theorem smallR_length (R : List Nat) : (smallR R).length = R.length := by simp [smallR]

/-! ### the bytes 64 -/
theorem count_rune {r : Nat} (h : VR r) : (encodeRune (r : Int)).count 64 = if r = 64 then 1 else 0 := by
  by_cases h1 : r ≤ 127
  · unfold encodeRune
    rw [encodeRuneZ_one (by omega) (by omega)]
    by_cases h2 : r = 64
    · subst h2
      decide
    · rw [if_neg h2, List.count_eq_zero]
      intro hm
      simp at hm
      have := congrArg UInt8.toNat hm
      simp at this
      omega
  · rw [if_neg (by omega), List.count_eq_zero]
    intro hm
    have hd := decode_encode r h []
    rw [List.append_nil] at hd
    rcases decodeL_bytes (encodeRune (r : Int)) (encodeRune_ne _) with ⟨h2, _⟩ | ⟨_, h2⟩
    · rw [hd] at h2
      dsimp only at h2
      omega
    · rw [hd] at h2
      dsimp only at h2
      rw [List.take_length] at h2
      have := h2 64 hm
      revert this
      decide
theorem count_enc : ∀ (R : List Nat), VRs R → countByte (enc R) 64 = at64 R
  | [], _ => rfl
  | r :: R, h => by
    have ih := count_enc R h.tail
    unfold countByte at64 at *
    rw [enc_cons, List.count_append, ih, count_rune h.head, List.countP_cons]
    simp
    omega
theorem label_enc {R : List Nat} (h : VRs R) : labelI (enc R) = labelR R := by
  unfold labelI labelR
  have hp := parts_enc R [] h
  rw [enc_nil] at hp
  rw [count_enc R h, hp, List.all_map]
  congr 1
  have hv := partsR_VRs R [] (fun _ h => nomatch h) h
  generalize partsR [] R = Q at hv
  induction Q with
  | nil => rfl
  | cons q Q ih =>
    rw [List.all_cons, List.all_cons, ih fun p hp => hv p (List.mem_cons_of_mem _ hp)]
    show (partI (enc q) && _) = _
    rw [part_enc (hv q List.mem_cons_self)]

/-! ### the alphabets of two -/
theorem or_assoc3 : ∀ a b c : Fin 8, bits .or .i64 (bits .or .i64 (a.val : Int) (b.val : Int)) (c.val : Int) = bits .or .i64 (a.val : Int) (bits .or .i64 (b.val : Int) (c.val : Int)) := by decide +kernel
theorem or_zero8 : ∀ a : Fin 8, bits .or .i64 (a.val : Int) 0 = (a.val : Int) ∧ bits .or .i64 0 (a.val : Int) = (a.val : Int) := by decide +kernel
theorem oct_fin {a : Int} (h : Oct a) : ∃ k : Fin 8, a = (k.val : Int) := by
  have := oct_range h
  exact ⟨⟨a.toNat, by omega⟩, by show a = ((a.toNat : Nat) : Int); omega⟩
theorem oct_letter (r : Int) : Oct (letterI r) := by
  have := letter_four r
  unfold Oct
  omega
theorem alph_or : ∀ (R : List Nat) (a : Int), Oct a → alphOf a R = bits .or .i64 a (alphOf 0 R)
  | [], a, h => by
    obtain ⟨k, rfl⟩ := oct_fin h
    exact (or_zero8 k).1.symm
  | r :: R, a, h => by
    show alphOf (bits .or .i64 a (letterI r)) R = bits .or .i64 a (alphOf (bits .or .i64 0 (letterI r)) R)
    have h0 : bits .or .i64 0 (letterI r) = letterI r := by
      obtain ⟨k, hk⟩ := oct_fin (oct_letter (r : Int))
      rw [hk]
      exact (or_zero8 k).2
    rw [h0, alph_or R _ (oct_or h (letter_four r)), alph_or R _ (oct_letter r)]
    obtain ⟨k, hk⟩ := oct_fin h
    obtain ⟨l, hl⟩ := oct_fin (oct_letter (r : Int))
    obtain ⟨m, hm⟩ := oct_fin (oct_alph R 0 (.inl rfl))
    rw [hk, hl, hm]
    exact or_assoc3 k l m
theorem alph_join (X Y : List Nat) (c : Nat) (hc : letterI (c : Int) = 0) : alphOf 0 (X ++ c :: Y) = bits .or .i64 (alphOf 0 X) (alphOf 0 Y) := by
  have e : alphOf 0 (X ++ c :: Y) = alphOf (bits .or .i64 (alphOf 0 X) (letterI c)) Y := by simp [alphOf, List.foldl_append]
  rw [e, hc]
  have hx := oct_alph X 0 (.inl rfl)
  obtain ⟨k, hk⟩ := oct_fin hx
  rw [show bits .or .i64 (alphOf 0 X) 0 = alphOf 0 X by rw [hk]; exact (or_zero8 k).1]
  exact alph_or Y _ hx

/-- a normal form's runes -/
theorem normal_good {l : List UInt8} (h : (normalI l).2 = 0) : ∃ A, VRs A ∧ l = enc A ∧ A.length ≤ 64 ∧ labelR A = true ∧ (normalI l).1 = enc (smallR A) := by
  unfold normalI at h ⊢
  split at h
  · cases h
  · rename_i hv
    split at h
    · cases h
    · rename_i hl
      split at h
      · cases h
      · rename_i hm
        rw [if_neg hv, if_neg hl, if_neg hm]
        obtain ⟨A, hA, rfl⟩ := valid_is (by simpa using hv)
        rw [runes_enc A hA] at hl
        rw [label_enc hA] at hm
        exact ⟨A, hA, rfl, by omega, by simpa using hm, map_enc A hA⟩
theorem normal_enc {R : List Nat} (h : VRs R) : normalI (enc R) = if 64 < R.length then ([], 2) else if labelR R = false then ([], 5) else (enc (smallR R), 0) := by
  unfold normalI
  rw [if_neg (by rw [valid_enc R h]; decide), runes_enc R h, label_enc h, map_enc R h]
end Go.Proofs.YtioahjdojgcfdaaDoor

namespace Go.Proofs.YtioahjdojgcfdaaDoor

def catS : List ByteArray → List UInt8
  | [] => []
  | t :: r => t.data.toList ++ catS r
theorem catS_append (a b : List ByteArray) : catS (a ++ b) = catS a ++ catS b := by
  induction a with
  | nil => rfl
  | cons t r ih =>
    show t.data.toList ++ catS (r ++ b) = (t.data.toList ++ catS r) ++ catS b
    rw [ih, List.append_assoc]
theorem text_len (t : ByteArray) : t.data.toList.length = t.size := by rw [Array.length_toList]; rfl
theorem catS_16 : ∀ (L : List ByteArray), (∀ t ∈ L, t.size = 16) → (catS L).length = 16 * L.length
  | [], _ => rfl
  | t :: r, h => by
    have h1 := catS_16 r (fun y hy => h y (List.mem_cons_of_mem _ hy))
    have h2 := h t List.mem_cons_self
    show (t.data.toList ++ catS r).length = _
    rw [List.length_append, h1, List.length_cons, text_len]
    omega
theorem flat_rev (L : List ByteArray) : ∀ ts, flat (L.reverse ++ ts) = flat ts ++ catS L := by
  induction L with
  | nil => intro ts; show flat ts = flat ts ++ []; rw [List.append_nil]
  | cons t r ih =>
    intro ts
    rw [List.reverse_cons, List.append_assoc, ih]
    show (flat ts ++ t.data.toList) ++ catS r = flat ts ++ (t.data.toList ++ catS r)
    rw [List.append_assoc]
theorem put16 (ts : List ByteArray) (t : ByteArray) (h : t.size = 16) : (⟨ts, 0⟩ : WSt).fixed t 16 = ⟨t :: ts, 0⟩ := wput_ok ts t 16 (by omega)
/-- the Reader behind n texts of 16 bytes, and these -/
def reads : Nat → RSt → List ByteArray × RSt
  | 0, s => ([], s)
  | n + 1, s => ((reads n s).1 ++ [((reads n s).2.fixed 16).1], ((reads n s).2.fixed 16).2)
theorem reads_len (s : RSt) : ∀ n, (reads n s).1.length = n
  | 0 => rfl
  | n + 1 => by show ((reads n s).1 ++ [_]).length = _; rw [List.length_append, reads_len s n]; rfl
theorem reads_rest (s : RSt) : ∀ n, (reads n s).2.rest.size ≤ s.rest.size
  | 0 => Nat.le_refl _
  | n + 1 => Nat.le_trans (rest_le _ _).2 (reads_rest s n)
theorem take_at {L : List ByteArray} {k : Nat} {t : ByteArray} (h : L[k]? = some t) : L.take (k + 1) = L.take k ++ [t] ∧ L.drop k = t :: L.drop (k + 1) := by
  obtain ⟨hk, rfl⟩ := List.getElem?_eq_some_iff.1 h
  exact ⟨by rw [List.take_add_one, List.getElem?_eq_getElem hk]; rfl, List.drop_eq_getElem_cons hk⟩
theorem reads_some (L : List ByteArray) (more : List UInt8) (h : ∀ t ∈ L, t.size = 16) : ∀ k, k ≤ L.length → reads k ⟨str (catS L ++ more), 0⟩ = (L.take k, ⟨str (catS (L.drop k) ++ more), 0⟩)
  | 0, _ => rfl
  | k + 1, hk => by
    obtain ⟨t, ht⟩ : ∃ t, L[k]? = some t := ⟨_, List.getElem?_eq_getElem (by omega)⟩
    have h16 := h t (List.mem_of_getElem? ht)
    obtain ⟨e1, e2⟩ := take_at ht
    have hf := rd_fixed t (catS (L.drop (k + 1)) ++ more)
    rw [h16] at hf
    show ((reads k _).1 ++ [((reads k _).2.fixed 16).1], ((reads k _).2.fixed 16).2) = _
    rw [reads_some L more h k (by omega), e1, e2]
    show (L.take k ++ [((⟨str ((t.data.toList ++ catS (L.drop (k + 1))) ++ more), 0⟩ : RSt).fixed 16).1], ((⟨str ((t.data.toList ++ catS (L.drop (k + 1))) ++ more), 0⟩ : RSt).fixed 16).2) = _
    rw [List.append_assoc]
    have hf : (⟨str (t.data.toList ++ (catS (L.drop (k + 1)) ++ more)), 0⟩ : RSt).fixed 16 = _ := hf
    rw [hf]
theorem reads_all (L : List ByteArray) (more : List UInt8) (h : ∀ t ∈ L, t.size = 16) (n : Nat) (hn : L.length = n) : reads n ⟨str (catS L ++ more), 0⟩ = (L, ⟨str more, 0⟩) := by
  rw [← hn, reads_some L more h L.length (Nat.le_refl _), List.take_of_length_le (Nat.le_refl _), List.drop_of_length_le (Nat.le_refl _)]
  rfl

/-! a signature -/
def sigB (i : Nat) (C P : List ByteArray) : List UInt8 := be i 1 ++ (catS C ++ (be P.length 1 ++ catS P))
theorem sigB_len (i : Nat) (C P : List ByteArray) (hC : C.length = 35) (h1 : ∀ t ∈ C, t.size = 16) (h2 : ∀ t ∈ P, t.size = 16) : (sigB i C P).length = 562 + 16 * P.length := by
  unfold sigB
  rw [List.length_append, List.length_append, List.length_append, be_length, be_length, catS_16 C h1, catS_16 P h2, hC]
  omega
structure DecG where
  i : Nat
  C : List ByteArray
  n : Nat
  P : List ByteArray
  s : RSt
def decG (s : ByteArray) : DecG :=
  ⟨((⟨s, 0⟩ : RSt).num 1).1, (reads 35 ((⟨s, 0⟩ : RSt).num 1).2).1, ((reads 35 ((⟨s, 0⟩ : RSt).num 1).2).2.num 1).1, (reads (min ((reads 35 ((⟨s, 0⟩ : RSt).num 1).2).2.num 1).1 6) ((reads 35 ((⟨s, 0⟩ : RSt).num 1).2).2.num 1).2).1, (reads (min ((reads 35 ((⟨s, 0⟩ : RSt).num 1).2).2.num 1).1 6) ((reads 35 ((⟨s, 0⟩ : RSt).num 1).2).2.num 1).2).2⟩
def DecG.err (d : DecG) : Int := if d.s.done ≠ 3 ∧ (63 < d.i ∨ 6 < d.n) then 4 else d.s.done
theorem decG_fine (i : Nat) (C P : List ByteArray) (hi : i ≤ 63) (hC : C.length = 35) (hP : P.length ≤ 6) (h1 : ∀ t ∈ C, t.size = 16) (h2 : ∀ t ∈ P, t.size = 16) : decG (str (sigB i C P)) = ⟨i, C, P.length, P, ⟨str [], 0⟩⟩ := by
  have e1 : (1 : Int).toNat = 1 := rfl
  have a1 := rd_num (n := i) (k := 1) ⟨by omega, by omega, by show i < 256; omega⟩ (catS C ++ (be P.length 1 ++ catS P))
  rw [e1] at a1
  have a2 := reads_all C (be P.length 1 ++ catS P) h1 35 hC
  have a3 := rd_num (n := P.length) (k := 1) ⟨by omega, by omega, by show P.length < 256; omega⟩ (catS P)
  rw [e1] at a3
  have a4 := reads_all P [] h2 (min P.length 6) (by omega)
  rw [List.append_nil] at a4
  unfold decG sigB
  rw [a1]
  simp only
  rw [a2]
  simp only
  rw [a3]
  simp only
  rw [a4]
theorem decG_ok (i : Nat) (C P : List ByteArray) (hi : i ≤ 63) (hP : P.length ≤ 6) : (⟨i, C, P.length, P, ⟨str [], 0⟩⟩ : DecG).err = 0 := by
  unfold DecG.err
  rw [done_nil, if_neg (by simp only; omega)]

/-! an update -/
def textU (t : ByteArray) : List UInt8 := be t.size 2 ++ t.data.toList
theorem textU_len (t : ByteArray) : (textU t).length = 2 + t.size := by unfold textU; rw [List.length_append, be_length, text_len]
def updB (l x s : ByteArray) : List UInt8 := textU l ++ (textU x ++ textU s)
structure DecU where
  l : ByteArray
  x : ByteArray
  g : ByteArray
  s : RSt
def decU (b : ByteArray) : DecU := ⟨(⟨b, 0⟩ : RSt).text.1, (⟨b, 0⟩ : RSt).text.2.text.1, (⟨b, 0⟩ : RSt).text.2.text.2.text.1, (⟨b, 0⟩ : RSt).text.2.text.2.text.2⟩
theorem decU_more (l x g : ByteArray) (y : List UInt8) (h1 : l.size ≤ 4096) (h2 : x.size ≤ 4096) (h3 : g.size ≤ 4096) : decU (str (updB l x g ++ y)) = ⟨l, x, g, ⟨str y, 0⟩⟩ := by
  have a1 := rd_text h1 (textU x ++ (textU g ++ y))
  have a2 := rd_text h2 (textU g ++ y)
  have a3 := rd_text h3 y
  have e : updB l x g ++ y = (be l.size 2 ++ l.data.toList) ++ (textU x ++ (textU g ++ y)) := by unfold updB textU; simp only [List.append_assoc]
  rw [e]
  unfold decU
  rw [a1]
  simp only
  rw [show textU x ++ (textU g ++ y) = (be x.size 2 ++ x.data.toList) ++ (textU g ++ y) from rfl, a2]
  simp only
  rw [show textU g ++ y = (be g.size 2 ++ g.data.toList) ++ y from rfl, a3]
theorem decU_fine (l x g : ByteArray) (h1 : l.size ≤ 4096) (h2 : x.size ≤ 4096) (h3 : g.size ≤ 4096) : decU (str (updB l x g)) = ⟨l, x, g, ⟨str [], 0⟩⟩ := by
  have := decU_more l x g [] h1 h2 h3
  rwa [List.append_nil] at this
/-- bytes that stop within a text -/
theorem text_less (t : ByteArray) (ht : t.size ≤ 4096) (k : Nat) (hk : k < 2 + t.size) : (⟨str ((textU t).take k), 0⟩ : RSt).text.2.err = 3 := by
  by_cases h2 : k < 2
  · have hl : ((textU t).take k).length = k := by rw [List.length_take, textU_len]; omega
    have hf : (⟨str ((textU t).take k), 0⟩ : RSt).fixed ((2 : Nat) : Int) = _ := rd_less ((textU t).take k) 2 (by omega)
    have hn := num_of (⟨str ((textU t).take k), 0⟩ : RSt) 2 (by decide)
    rw [hf] at hn
    have hn : (⟨str ((textU t).take k), 0⟩ : RSt).num 2 = (0, ⟨str ((textU t).take k), 3⟩) := hn
    unfold RSt.text
    rw [hn]
    simp only
    rw [if_neg (by decide)]
    have := rd_err (str ((textU t).take k)) 3 (by decide) ((0 : Nat) : Int)
    rw [this]
  · have hs : (textU t).take k = be t.size 2 ++ t.data.toList.take (k - 2) := by
      unfold textU
      rw [List.take_append, be_length, List.take_of_length_le (by rw [be_length]; omega)]
    have hn := rd_num (n := t.size) (k := 2) ⟨by omega, by omega, by show t.size < 65536; omega⟩ (t.data.toList.take (k - 2))
    have e2 : (2 : Int).toNat = 2 := rfl
    rw [e2] at hn
    rw [hs]
    unfold RSt.text
    rw [hn]
    simp only
    rw [if_neg (by omega), rd_less _ t.size (by rw [List.length_take, text_len]; omega)]
theorem fixed_errP {s : RSt} (h : s.err ≠ 0) (k : Int) : s.fixed k = (ByteArray.empty, s) := by
  obtain ⟨r, e⟩ := s
  exact rd_err r e h k
theorem text_errP {s : RSt} (h : s.err ≠ 0) : s.text.2.err = s.err := by
  have hn := num_of s 2 (by decide)
  have hf : s.fixed ((2 : Nat) : Int) = _ := fixed_errP h 2
  rw [hf] at hn
  have hn : s.num 2 = (0, s) := hn
  unfold RSt.text
  rw [hn]
  simp only
  rw [if_neg (by decide), fixed_errP h]
theorem done_err {s : RSt} (h : s.err = 3) : s.done = 3 := by
  unfold RSt.done
  rw [if_neg (by rw [h]; simp), h]
theorem decU_less (l x g : ByteArray) (k : Nat) (h1 : l.size ≤ 4096) (h2 : x.size ≤ 4096) (h3 : g.size ≤ 4096) (hk : k < (updB l x g).length) : (decU (str ((updB l x g).take k))).s.done = 3 := by
  refine done_err ?_
  show (⟨str ((updB l x g).take k), 0⟩ : RSt).text.2.text.2.text.2.err = 3
  have hlen : (updB l x g).length = (2 + l.size) + ((2 + x.size) + (2 + g.size)) := by unfold updB; rw [List.length_append, List.length_append, textU_len, textU_len, textU_len]
  by_cases k1 : k < 2 + l.size
  · have e : (updB l x g).take k = (textU l).take k := by
      unfold updB
      rw [List.take_append, show k - (textU l).length = 0 from by rw [textU_len]; omega, List.take_zero, List.append_nil]
    rw [e]
    have a := text_less l h1 k k1
    have b := text_errP (s := (⟨str ((textU l).take k), 0⟩ : RSt).text.2) (by rw [a]; decide)
    rw [a] at b
    have c := text_errP (s := (⟨str ((textU l).take k), 0⟩ : RSt).text.2.text.2) (by rw [b]; decide)
    rw [c, b]
  · have e : (updB l x g).take k = textU l ++ (textU x ++ textU g).take (k - (2 + l.size)) := by
      unfold updB
      rw [List.take_append, textU_len, List.take_of_length_le (by rw [textU_len]; omega)]
    rw [e, show textU l ++ (textU x ++ textU g).take (k - (2 + l.size)) = (be l.size 2 ++ l.data.toList) ++ (textU x ++ textU g).take (k - (2 + l.size)) from rfl, rd_text h1]
    simp only
    by_cases k2 : k - (2 + l.size) < 2 + x.size
    · have e : (textU x ++ textU g).take (k - (2 + l.size)) = (textU x).take (k - (2 + l.size)) := by
        rw [List.take_append, show k - (2 + l.size) - (textU x).length = 0 from by rw [textU_len]; omega, List.take_zero, List.append_nil]
      rw [e]
      have a := text_less x h2 _ k2
      have b := text_errP (s := (⟨str ((textU x).take (k - (2 + l.size))), 0⟩ : RSt).text.2) (by rw [a]; decide)
      rw [b, a]
    · have e : (textU x ++ textU g).take (k - (2 + l.size)) = textU x ++ (textU g).take (k - (2 + l.size) - (2 + x.size)) := by
        rw [List.take_append, textU_len, List.take_of_length_le (by rw [textU_len]; omega)]
      rw [e, show textU x ++ (textU g).take (k - (2 + l.size) - (2 + x.size)) = (be x.size 2 ++ x.data.toList) ++ (textU g).take (k - (2 + l.size) - (2 + x.size)) from rfl, rd_text h2]
      exact text_less g h3 _ (by omega)
end Go.Proofs.YtioahjdojgcfdaaDoor

namespace Go.Proofs.YtioahjdojgcfdaaDoor
attribute [local irreducible] shaL

def nodeS (a b : ByteArray) : ByteArray := tagS 5 [a, b]
theorem nodeS_size (a b : ByteArray) : (nodeS a b).size = 16 := tagS_size _ _
/-- the level above -/
def aboveS : List ByteArray → List ByteArray
  | a :: b :: r => nodeS a b :: aboveS r
  | _ => []
def rootS : Nat → List ByteArray → ByteArray
  | 0, l => l.headD ByteArray.empty
  | h + 1, l => rootS h (aboveS l)
def pathS : Nat → List ByteArray → Nat → List ByteArray
  | 0, _, _ => []
  | h + 1, l, i => l.getD (i ^^^ 1) ByteArray.empty :: pathS h (aboveS l) (i / 2)
def stepC (x : ByteArray) (i : Nat) (b : ByteArray) : ByteArray := if i % 2 = 1 then nodeS b x else nodeS x b
def climbS (x : ByteArray) (i : Nat) : List ByteArray → ByteArray
  | [] => x
  | b :: r => climbS (stepC x i b) (i / 2) r
/-- by halves -/
def rootH : Nat → List ByteArray → ByteArray
  | 0, l => l.headD ByteArray.empty
  | h + 1, l => nodeS (rootH h (l.take (2 ^ h))) (rootH h (l.drop (2 ^ h)))
def pathH : Nat → List ByteArray → Nat → List ByteArray
  | 0, _, _ => []
  | h + 1, l, i => if i < 2 ^ h then pathH h (l.take (2 ^ h)) i ++ [rootH h (l.drop (2 ^ h))] else pathH h (l.drop (2 ^ h)) (i - 2 ^ h) ++ [rootH h (l.take (2 ^ h))]

theorem aboveS_length : ∀ (n : Nat) (l : List ByteArray), l.length = 2 * n → (aboveS l).length = n
  | 0, [], _ => rfl
  | n + 1, a :: b :: r, h => by
    simp only [List.length_cons] at h
    rw [aboveS, List.length_cons, aboveS_length n r (by omega)]
  | 0, _ :: _, h => by simp at h
  | n + 1, [], h => by simp at h
  | n + 1, [_], h => by simp at h; omega
theorem aboveS_at : ∀ (k : Nat) (l : List ByteArray) (a b : ByteArray), l[2 * k]? = some a → l[2 * k + 1]? = some b → (aboveS l)[k]? = some (nodeS a b)
  | 0, a' :: b' :: r, a, b, h1, h2 => by
    simp at h1 h2
    subst h1; subst h2
    rfl
  | k + 1, a' :: b' :: r, a, b, h1, h2 => by
    rw [show 2 * (k + 1) = 2 * k + 1 + 1 from by omega] at h1 h2
    simp only [List.getElem?_cons_succ] at h1 h2
    rw [aboveS, List.getElem?_cons_succ]
    exact aboveS_at k r a b h1 h2
  | 0, [], _, _, h, _ => by simp at h
  | 0, [_], _, _, _, h => by simp at h
  | k + 1, [], _, _, h, _ => by simp at h
  | k + 1, [_], _, _, h, _ => by
    rw [show 2 * (k + 1) = 2 * k + 1 + 1 from by omega] at h
    simp at h
theorem aboveS_append : ∀ (n : Nat) (l m : List ByteArray), l.length = 2 * n → aboveS (l ++ m) = aboveS l ++ aboveS m
  | 0, [], m, _ => rfl
  | n + 1, a :: b :: r, m, h => by
    simp only [List.length_cons] at h
    rw [List.cons_append, List.cons_append, aboveS, aboveS, aboveS_append n r m (by omega), List.cons_append]
  | 0, _ :: _, _, h => by simp at h
  | n + 1, [], _, h => by simp at h
  | n + 1, [_], _, h => by simp at h; omega
theorem aboveS_sizes : ∀ (l : List ByteArray), ∀ s ∈ aboveS l, s.size = 16
  | a :: b :: r, s, h => by
    rw [aboveS] at h
    rcases List.mem_cons.1 h with rfl | h
    · exact nodeS_size _ _
    · exact aboveS_sizes r s h
  | [], s, h => by cases h
  | [_], s, h => by cases h
theorem aboveS_take (n : Nat) (l : List ByteArray) (h : 2 * n ≤ l.length) : (aboveS l).take n = aboveS (l.take (2 * n)) := by
  have e := aboveS_append n (l.take (2 * n)) (l.drop (2 * n)) (by rw [List.length_take]; omega)
  rw [List.take_append_drop] at e
  rw [e, List.take_append_of_le_length (by rw [aboveS_length n _ (by rw [List.length_take]; omega)]; exact Nat.le_refl _), List.take_of_length_le]
  rw [aboveS_length n _ (by rw [List.length_take]; omega)]
  exact Nat.le_refl _
theorem aboveS_drop (n : Nat) (l : List ByteArray) (h : 2 * n ≤ l.length) : (aboveS l).drop n = aboveS (l.drop (2 * n)) := by
  have e := aboveS_append n (l.take (2 * n)) (l.drop (2 * n)) (by rw [List.length_take]; omega)
  rw [List.take_append_drop] at e
  have hl := aboveS_length n (l.take (2 * n)) (by rw [List.length_take]; omega)
  rw [e, List.drop_append, List.drop_of_length_le (by omega), hl, Nat.sub_self, List.nil_append]
  rfl
theorem xor1d (i : Nat) : (i ^^^ 1) / 2 = i / 2 := by rw [Nat.xor_div_two]; simp
theorem xor1m (i : Nat) : (i ^^^ 1) % 2 = 1 - i % 2 := by
  have h : (i ^^^ 1) % 2 ^ 1 = (i % 2 ^ 1) ^^^ (1 % 2 ^ 1) := Nat.xor_mod_two_pow
  rw [Nat.pow_one] at h
  rw [h]
  have : i % 2 < 2 := Nat.mod_lt _ (by decide)
  rcases (show i % 2 = 0 ∨ i % 2 = 1 by omega) with e | e <;> rw [e] <;> rfl
theorem xor1 (i : Nat) : i ^^^ 1 = if i % 2 = 1 then i - 1 else i + 1 := by
  have h1 := xor1d i
  have h2 := xor1m i
  split <;> omega
theorem pow_succ2 (h : Nat) : 2 ^ (h + 1) = 2 * 2 ^ h := by rw [Nat.pow_succ]; omega
theorem root_halves : ∀ (h : Nat) (l : List ByteArray), l.length = 2 ^ h → rootS h l = rootH h l
  | 0, _, _ => rfl
  | 1, l, e => by
    match l, e with
    | [a, b], _ => rfl
  | h + 2, l, e => by
    have e1 : 2 ^ (h + 2) = 2 * 2 ^ (h + 1) := pow_succ2 (h + 1)
    have e2 := pow_succ2 h
    have hl : (aboveS l).length = 2 ^ (h + 1) := aboveS_length _ _ (by omega)
    rw [rootS, root_halves (h + 1) _ hl, rootH, rootH]
    have q1 : (aboveS l).take (2 ^ h) = aboveS (l.take (2 ^ (h + 1))) := by rw [e2]; exact aboveS_take _ _ (by omega)
    have q2 : (aboveS l).drop (2 ^ h) = aboveS (l.drop (2 ^ (h + 1))) := by rw [e2]; exact aboveS_drop _ _ (by omega)
    have l1 : (l.take (2 ^ (h + 1))).length = 2 ^ (h + 1) := by rw [List.length_take]; omega
    have l2 : (l.drop (2 ^ (h + 1))).length = 2 ^ (h + 1) := by rw [List.length_drop]; omega
    rw [q1, q2, ← root_halves h _ (aboveS_length _ _ (by omega)), ← root_halves h _ (aboveS_length _ _ (by omega))]
    show nodeS (rootS (h + 1) _) (rootS (h + 1) _) = _
    rw [root_halves (h + 1) _ l1, root_halves (h + 1) _ l2]
theorem pathS_length (h : Nat) : ∀ (l : List ByteArray) (i : Nat), (pathS h l i).length = h := by
  induction h with
  | zero => intro l i; rfl
  | succ h ih => intro l i; rw [pathS, List.length_cons, ih]
theorem pathH_length (h : Nat) : ∀ (l : List ByteArray) (i : Nat), (pathH h l i).length = h := by
  induction h with
  | zero => intro l i; rfl
  | succ h ih => intro l i; rw [pathH]; split <;> simp [ih]
theorem path_halves : ∀ (h : Nat) (l : List ByteArray) (i : Nat), l.length = 2 ^ h → i < 2 ^ h → pathS h l i = pathH h l i
  | 0, _, _, _, _ => rfl
  | 1, l, i, e, hi => by
    match l, e, i, hi with
    | [a, b], _, 0, _ => rfl
    | [a, b], _, 1, _ => rfl
  | h + 2, l, i, e, hi => by
    have e1 : 2 ^ (h + 2) = 2 * 2 ^ (h + 1) := pow_succ2 (h + 1)
    have e2 := pow_succ2 h
    have p1 : (0 : Nat) < 2 ^ h := Nat.pow_pos (by decide)
    have hl : (aboveS l).length = 2 ^ (h + 1) := aboveS_length _ _ (by omega)
    have q1 : (aboveS l).take (2 ^ h) = aboveS (l.take (2 ^ (h + 1))) := by rw [e2]; exact aboveS_take _ _ (by omega)
    have q2 : (aboveS l).drop (2 ^ h) = aboveS (l.drop (2 ^ (h + 1))) := by rw [e2]; exact aboveS_drop _ _ (by omega)
    have l1 : (l.take (2 ^ (h + 1))).length = 2 ^ (h + 1) := by rw [List.length_take]; omega
    have l2 : (l.drop (2 ^ (h + 1))).length = 2 ^ (h + 1) := by rw [List.length_drop]; omega
    have m1 : min (2 ^ (h + 1)) l.length = 2 ^ (h + 1) := by omega
    have la1 : (aboveS (l.take (2 ^ (h + 1)))).length = 2 ^ h := aboveS_length _ _ (by omega)
    have la2 : (aboveS (l.drop (2 ^ (h + 1)))).length = 2 ^ h := aboveS_length _ _ (by omega)
    have x1 : i ^^^ 1 < 2 ^ (h + 1) ↔ i < 2 ^ (h + 1) := by
      have := xor1d i
      have := xor1m i
      omega
    rw [pathS, path_halves (h + 1) _ _ hl (by omega), pathH, pathH]
    by_cases hlt : i < 2 ^ (h + 1)
    · rw [if_pos (by omega), if_pos hlt, q1, q2, ← path_halves (h + 1) _ i l1 hlt, pathS, ← path_halves h _ (i / 2) la1 (by omega)]
      rw [List.cons_append]
      congr 1
      · rw [List.getD_eq_getElem?_getD, List.getD_eq_getElem?_getD, List.getElem?_take, if_pos (x1.2 hlt)]
      · congr 2
        rw [← root_halves h _ la2, ← root_halves (h + 1) _ l2]
        rfl
    · rw [if_neg (by omega), if_neg hlt, q1, q2, ← path_halves (h + 1) _ (i - 2 ^ (h + 1)) l2 (by omega), pathS, show i / 2 - 2 ^ h = (i - 2 ^ (h + 1)) / 2 from by omega, ← path_halves h _ ((i - 2 ^ (h + 1)) / 2) la2 (by omega)]
      rw [List.cons_append]
      congr 1
      · rw [List.getD_eq_getElem?_getD, List.getD_eq_getElem?_getD, List.getElem?_drop]
        have y1 := xor1d i
        have y2 := xor1d (i - 2 ^ (h + 1))
        have y3 := xor1m i
        have y4 := xor1m (i - 2 ^ (h + 1))
        rw [show 2 ^ (h + 1) + ((i - 2 ^ (h + 1)) ^^^ 1) = i ^^^ 1 from by omega]
      · congr 2
        rw [← root_halves h _ la1, ← root_halves (h + 1) _ l1]
        rfl
theorem climb_path : ∀ (h : Nat) (l : List ByteArray) (i : Nat) (x : ByteArray), l.length = 2 ^ h → l[i]? = some x → climbS x i (pathS h l i) = rootS h l
  | 0, l, i, x, e, hx => by
    match l, e, i, hx with
    | [a], _, 0, hx => simp at hx; subst hx; rfl
    | [a], _, i + 1, hx => simp at hx
  | h + 1, l, i, x, e, hx => by
    have e1 := pow_succ2 h
    have hi := (List.getElem?_eq_some_iff.1 hx).1
    rw [pathS, climbS, rootS]
    refine climb_path h _ _ _ (aboveS_length _ _ (by omega)) ?_
    have y := xor1 i
    unfold stepC
    by_cases h2 : i % 2 = 1
    · rw [if_pos h2] at y ⊢
      have hy : i - 1 < l.length := by omega
      rw [y, List.getD_eq_getElem?_getD, List.getElem?_eq_getElem hy]
      refine aboveS_at _ _ _ _ ?_ ?_
      · rw [show 2 * (i / 2) = i - 1 from by omega, List.getElem?_eq_getElem hy]; rfl
      · rw [show 2 * (i / 2) + 1 = i from by omega, hx]
    · rw [if_neg h2] at y ⊢
      have hy : i + 1 < l.length := by omega
      rw [y, List.getD_eq_getElem?_getD, List.getElem?_eq_getElem hy]
      refine aboveS_at _ _ _ _ ?_ ?_
      · rw [show 2 * (i / 2) = i from by omega, hx]
      · rw [show 2 * (i / 2) + 1 = i + 1 from by omega, List.getElem?_eq_getElem hy]; rfl
theorem rootS_size : ∀ (h : Nat) (l : List ByteArray) (N : Nat), 16 ≤ N → (∀ s ∈ l, s.size ≤ N) → (rootS h l).size ≤ N
  | 0, [], N, _, _ => by simp [rootS]
  | 0, a :: _, N, _, h => h a (by simp)
  | h + 1, l, N, h16, _ => rootS_size h _ N h16 (fun s hs => by rw [aboveS_sizes _ s hs]; exact h16)
theorem pathS_sizes : ∀ (h : Nat) (l : List ByteArray) (i N : Nat), 16 ≤ N → (∀ s ∈ l, s.size ≤ N) → ∀ s ∈ pathS h l i, s.size ≤ N
  | 0, _, _, _, _, _, s, hs => by cases hs
  | h + 1, l, i, N, h16, hl, s, hs => by
    rw [pathS] at hs
    rcases List.mem_cons.1 hs with rfl | hs
    · rw [List.getD_eq_getElem?_getD]
      cases hx : l[i ^^^ 1]? with
      | none => simp
      | some y => exact hl y (List.mem_of_getElem? hx)
    · exact pathS_sizes h _ _ N h16 (fun s hs => by rw [aboveS_sizes _ s hs]; exact h16) s hs
end Go.Proofs.YtioahjdojgcfdaaDoor

namespace Go.Proofs.YtioahjdojgcfdaaDoor
open Go.RowKit

theorem infoIntD : (Tryd.prog.info? 3).map (fun i => (i.zero, i.size, i.bytes)) = some (some (.int .i64 0), 1, 8) := by kernel_rfl
theorem and_low (c : Nat) (h : c < 256) : bits .and .u8 (c : Int) 15 = (c : Int) % 16 := by
  rw [show (15 : Int) = ((15 : Nat) : Int) from rfl, u8_and_nat _ _ h (by omega)]
  have : c &&& 15 = c % 16 := Nat.and_two_pow_sub_one_eq_mod c 4
  rw [this]
  omega

set_option maxHeartbeats 400000 in
theorem halves_any (b : UInt8) (w : World) :
    Calls Tryd.prog 142 #[.int .u8 b.toNat] w fun e w' => e = .returned (.agg #[.int .i64 ((b.toNat : Int) / 16), .int .i64 ((b.toNat : Int) % 16)]) ∧ Below w.heap.size w w' := by
  have hc := b.toNat_lt
  have hl := and_low b.toNat hc
  generalize b.toNat = c at hc hl
  have b4 : (c : Int) / 16 < 16 := by omega
  have b5 : (c : Int) / 16 < 256 := by omega
  go_enter Tryd.func142, Tryd.ntmps142
  go_wp2
  exact bodyPost_ret (v := .agg #[.int .i64 ((c : Int) / 16), .int .i64 ((c : Int) % 16)]) (by simp [results, Tryd.results142, go_sem]) rfl ⟨rfl, (Below.refl _ _).alloc (Nat.le_refl _) _⟩

set_option maxHeartbeats 400000 in
theorem dsum_any (v : Value) (L : List Int) (w : World) (hv : IntsAt w v L) (hL : ∀ x ∈ L, 0 ≤ x ∧ x ≤ 15) (hn : L.length ≤ 1000000) :
    Calls Tryd.prog 144 #[v] w fun e w' => e = .returned (.int .i64 (sumI L)) ∧ w = w' := by
  obtain ⟨a, cap, rfl, hc⟩ := hv
  have HC := Lib.hid hc
  have HL := Lib.hid hL
  clear hc hL
  go_enter Tryd.func144, Tryd.ntmps144
  go_wp2
  go_loop [3, 8] (fun nv iv => ∃ k : Nat, k ≤ L.length ∧ iv = .int .i64 k ∧ nv = .int .i64 (sumI (L.take k))) (fun _ iv => L.length - (intOf iv).toNat)
  case atStart => exact ⟨0, Nat.zero_le _, rfl, rfl⟩
  case round =>
    obtain ⟨k, hk, rfl, rfl⟩ := hrel
    by_cases hlt : k < L.length
    · obtain ⟨g, o, rfl, hcell⟩ := HC.out k hlt
      have hx := HL.out L[k] (List.getElem_mem hlt)
      have hs := sumI_bd (L.take k) (fun x hx => HL.out x (List.mem_of_mem_take hx))
      have hsn : sumI (L.take (k + 1)) = sumI (L.take k) + L[k] := by rw [List.take_succ_eq_append_getElem hlt, sumI_snoc]
      have hlk : (L.take k).length ≤ L.length := by simp; omega
      generalize L[k] = x at hcell hx hsn
      have HS := Lib.hid hsn
      clear hsn
      generalize sumI (L.take k) = m at hs HS ⊢
      have b1 : (0 : Int) ≤ (k : Int) := by omega
      have b2 : (k : Int) < (L.length : Int) := by omega
      go_wp2
      go_round
      case rel => exact ⟨k + 1, by omega, by go_num, by rw [HS.out]⟩
      case measure => simp [intOf]; omega
    · have : k = L.length := by omega
      subst this
      go_wp2
      go_ret
      exact ⟨rfl, rfl⟩

set_option maxHeartbeats 800000 in
theorem dleft_any (v : Value) (L : List Int) (w : World) (hv : IntsAt w v L) (hn : L.length ≤ 1000000) :
    Calls Tryd.prog 145 #[v] w fun e w' => ∃ v', e = .returned v' ∧ IntsAt w' v' (lefts L) ∧ w.grownBy w' none := by
  obtain ⟨i0, hi, hz0, hz1, hz2⟩ := info_parts infoIntD
  obtain ⟨a, cap, rfl, hc⟩ := hv
  have HC := Lib.hid hc
  clear hc
  go_enter Tryd.func145, Tryd.ntmps145
  go_wp2_with (at_make; refine wpList_make_full _ rfl _ _ 24 rfl w.heap.size 3 i0 (.int .i64 0) 1 Tryd.underlying24 hi hz0 hz1 _ _ _ _ L.length rfl rfl rfl rfl ?c1 ?c2 ?c3 ?_)
  case c1 => rw [hz2]; omega
  case c2 => unfold maxLen; omega
  case c3 => omega
  intro w1 hown hg
  have hrow : ∀ k, k ≤ L.length → ((madeCells #[Value.int .i64 0] L.length).toList = ints (lefts (L.take 0) ++ List.replicate (L.length - 0) 0)) := by
    intro k hk
    apply List.ext_getElem?
    intro i
    simp [madeCells, ints, lefts, List.getElem?_replicate]
    by_cases h : i < L.length <;> simp [h, Nat.mod_one]
  rw [hrow 0 (Nat.zero_le _)] at hown
  have HO := Lib.hid hown
  have HG := Lib.hid hg
  clear hown hg hrow
  go_wp2_with fail
  go_loopw [4, 5, 11] (fun _ _ i wr => ∃ k : Nat, k ≤ L.length ∧ i = .int .i64 k ∧ Hid (wr.ownsRow w.heap.size 3 1 (.slice (some ⟨w.heap.size, 0, none⟩) L.length L.length) L.length (ints (lefts (L.take k) ++ List.replicate (L.length - k) 0))) ∧ Hid (w.grownBy wr none))
    (fun _ _ i _ => L.length - (intOf i).toNat)
  case atStart => exact ⟨0, Nat.zero_le _, rfl, HO.out, HG.out⟩
  case round =>
    clear HO HG
    obtain ⟨k, hk, rfl, HO, HG⟩ := hrel
    by_cases hlt : k < L.length
    · obtain ⟨g, o, rfl, hcell⟩ := HC.out k hlt
      have hcell' : wr.cell? ⟨g, o + k, none⟩ = some (.int .i64 L[k]) := HG.out.cell hcell (by simp)
      have hsn : lefts (L.take (k + 1)) = lefts (L.take k) ++ [leftI L[k]] := by rw [List.take_succ_eq_append_getElem hlt]; unfold lefts; rw [List.map_append]; rfl
      have hset : (ints (lefts (L.take k) ++ List.replicate (L.length - k) 0)).set k (.int .i64 (leftI L[k])) = ints (lefts (L.take (k + 1)) ++ List.replicate (L.length - (k + 1)) 0) := by
        have hll : (lefts (L.take k)).length = k := by rw [lefts_length]; simp; omega
        rw [hsn, show L.length - k = (L.length - (k + 1)) + 1 from by omega, List.replicate_succ, ints_append, List.set_append_right _ _ (by rw [ints_length]; omega), ints_length, hll, Nat.sub_self]
        simp [ints]
      have hat : wr.cell? ⟨w.heap.size, k, none⟩ = some (.int .i64 0) := by
        rw [HO.out.cellAt k (by omega), ints_append, List.getElem?_append_right (by rw [ints_length, lefts_length]; simp; omega), ints_length, lefts_length]
        simp [ints, List.getElem?_replicate]
        omega
      have hf := HO.out.frozenAt k
      have HS := Lib.hid hset
      clear hset hsn hcell
      generalize L[k] = x at hcell' HS
      have b1 : (0 : Int) ≤ (k : Int) := by omega
      have b2 : (k : Int) < (L.length : Int) := by omega
      by_cases hx : 0 ≤ x ∧ x ≤ 15
      · obtain ⟨hx0, hx1⟩ := hx
        go_wp2_with fail
        go_roundw
        case rel =>
          refine ⟨k + 1, by omega, by go_num, ?_, grownBy_setNew HG.out (Nat.le_refl _) _ _⟩
          show World.ownsRow _ _ _ _ _ _ _
          rw [← HS.out, leftI_yes x hx0 hx1]
          exact (HO.out.stored _ _).1
        case measure => simp [intOf]; omega
      · have hno := leftI_no x hx
        rw [hno] at HS
        have hz : (ints (lefts (L.take k) ++ List.replicate (L.length - k) 0)).set k (.int .i64 0) = ints (lefts (L.take k) ++ List.replicate (L.length - k) 0) := by
          have h0 := HO.out.cellAt k (by omega)
          rw [hat] at h0
          apply List.ext_getElem?
          intro i
          rw [List.getElem?_set]
          split
          · next h => subst h; rw [← h0]; simp; exact (List.getElem?_eq_some_iff.1 h0.symm).1
          · rfl
        rw [hz] at HS
        clear hno hz hf hat
        by_cases hx0 : 0 ≤ x
        · have hx1 : ¬ x ≤ 15 := fun h => hx ⟨hx0, h⟩
          clear hx
          go_wp2_with fail
          go_roundw
          case rel =>
            refine ⟨k + 1, by omega, by go_num, ?_, HG.out⟩
            show World.ownsRow _ _ _ _ _ _ _
            rw [← HS.out]
            exact HO.out
          case measure => simp [intOf]; omega
        · clear hx
          go_wp2_with fail
          go_roundw
          case rel =>
            refine ⟨k + 1, by omega, by go_num, ?_, HG.out⟩
            show World.ownsRow _ _ _ _ _ _ _
            rw [← HS.out]
            exact HO.out
          case measure => simp [intOf]; omega
    · have : k = L.length := by omega
      subst this
      have hr := HO.out
      rw [Nat.sub_self, List.take_of_length_le (Nat.le_refl _), List.replicate_zero, List.append_nil] at hr
      have hi := ints_of_own hr
      have HI := Lib.hid hi
      clear hr hi HO
      go_wp2_with fail
      go_ret
      exact ⟨_, rfl, HI.out, HG.out⟩

def sixQ (n : Int) : Nat → Int | 0 => n | 1 => n / 16 | 2 => n / 16 / 16 | _ => n / 16 / 16 / 16
def sixR (n : Int) : Nat → List Int | 0 => [0, 0, 0] | 1 => [0, 0, n % 16] | 2 => [0, n / 16 % 16, n % 16] | _ => [n / 16 / 16 % 16, n / 16 % 16, n % 16]

set_option maxHeartbeats 800000 in
theorem inSixteens_any (n : Int) (h0 : 0 ≤ n) (h1 : n ≤ 4095) (w : World) :
    Calls Tryd.prog 143 #[.int .i64 n] w fun e w' => e = .returned (.agg #[.int .i64 (n / 256), .int .i64 (n / 16 % 16), .int .i64 (n % 16)]) ∧ Below w.heap.size w w' := by
  go_enter Tryd.func143, Tryd.ntmps143
  go_wp2_with fail
  go_loopw [0, 4, 5] (fun nv _ iv wr => ∃ k : Nat, k ≤ 3 ∧ iv = .int .i64 k ∧ nv = .int .i64 (sixQ n k) ∧ Hid (wr.heap[w.heap.size + 1]? = some (.cells (ints (sixR n k)).toArray 197 (0, 0))) ∧ Hid (wr.heap[w.heap.size]? = some (.cells (ints [0, 0, 0]).toArray 197 (0, 0))) ∧ Hid (w.grownBy wr none)) (fun _ _ iv _ => 3 - (intOf iv).toNat)
  case atStart =>
    refine ⟨0, Nat.zero_le _, rfl, rfl, ?_, ?_, grownBy_alloc' (grownBy_alloc' (World.grownBy.refl _ _) _) _⟩
    · show _ = _
      exact heap_alloc_at _ _ _ (by simp)
    · show _ = _
      rw [Below.heap_alloc _ _ _ (by simp)]
      exact heap_alloc_at _ _ _ rfl
  case round =>
    obtain ⟨k, hk, rfl, rfl, HC, HD, HG⟩ := hrel
    have hk4 : k = 0 ∨ k = 1 ∨ k = 2 ∨ k = 3 := by omega
    have c := cell_of HC.out
    have f := free_of HC.out
    rcases hk4 with rfl | rfl | rfl | rfl
    · have c2 := c 2
      have f2 := f 2
      clear c f
      simp [sixR, ints] at c2
      simp only [sixQ]
      go_wp2_with fail
      go_roundw
      case rel =>
        refine ⟨1, by omega, rfl, rfl, ?_, ?_, grownBy_setNew HG.out (by omega) _ _⟩
        · show _ = _
          rw [heap_setCell HC.out]
          rfl
        · show _ = _
          rw [heap_setCell_ne _ _ _ _ (by omega)]
          exact HD.out
      case measure => simp [intOf]
    · have c2 := c 1
      have f2 := f 1
      clear c f
      simp [sixR, ints] at c2
      simp only [sixQ]
      go_wp2_with fail
      go_roundw
      case rel =>
        refine ⟨2, by omega, rfl, rfl, ?_, ?_, grownBy_setNew HG.out (by omega) _ _⟩
        · show _ = _
          rw [heap_setCell HC.out]
          rfl
        · show _ = _
          rw [heap_setCell_ne _ _ _ _ (by omega)]
          exact HD.out
      case measure => simp [intOf]
    · have c2 := c 0
      have f2 := f 0
      clear c f
      simp [sixR, ints] at c2
      simp only [sixQ]
      go_wp2_with fail
      go_roundw
      case rel =>
        refine ⟨3, by omega, rfl, rfl, ?_, ?_, grownBy_setNew HG.out (by omega) _ _⟩
        · show _ = _
          rw [heap_setCell HC.out]
          rfl
        · show _ = _
          rw [heap_setCell_ne _ _ _ _ (by omega)]
          exact HD.out
      case measure => simp [intOf]
    · have d := cell_of HD.out
      have fd := free_of HD.out
      have c0 := c 0
      have c1 := c 1
      have c2 := c 2
      have d0 := d 0
      have d1 := d 1
      have d2 := d 2
      have f0 := fd 0
      have f1 := fd 1
      have f2 := fd 2
      clear c f d fd
      simp [sixR, ints] at c0 c1 c2 d0 d1 d2
      simp only [sixQ]
      go_wp2_with fail
      have e : n / 16 / 16 % 16 = n / 256 := by omega
      rw [e] at *
      have hW : (((wr.setCell ⟨w.heap.size, 0, none⟩ (.int .i64 (n / 256))).setCell ⟨w.heap.size, 1, none⟩ (.int .i64 (n / 16 % 16))).setCell ⟨w.heap.size, 2, none⟩ (.int .i64 (n % 16))).heap[w.heap.size]? = some (.cells (ints [n / 256, n / 16 % 16, n % 16]).toArray 197 (0, 0)) := by
        rw [heap_setCell (heap_setCell (heap_setCell HD.out 0 _) 1 _) 2 _]
        rfl
      refine bodyPost_ret (v := .agg (ints [n / 256, n / 16 % 16, n % 16]).toArray) (results_cell_row (p := 2) (ty := 197) (by kernel_rfl) _ _ w.heap.size 197 _ (0, 0) (.array 3 3) (by rfl) hW Tryd.underlying197 rfl (by kernel_rfl)) rfl ⟨rfl, ?_⟩
      exact below_grownBy (grownBy_setNew (grownBy_setNew (grownBy_setNew HG.out (Nat.le_refl _) _ _) (Nat.le_refl _) _ _) (Nat.le_refl _) _ _)
end Go.Proofs.YtioahjdojgcfdaaDoor

namespace Go.Proofs.YtioahjdojgcfdaaDoor
open Go.RowKit

theorem slice_two (B : Nat) (w : World) : (Instr.sliceAt 22 (.pointer (some ⟨B, 0, none⟩)) none none none).run Tryd.prog w = .ok (.slice (some ⟨B, 0, none⟩) 2 2) w := by
  have hl : Tryd.prog.arrayLen 22 = 2 := by kernel_rfl
  have he : Tryd.prog.elem 22 = 3 := by kernel_rfl
  obtain ⟨i0, h0⟩ : ∃ i0, Tryd.prog.info? 3 = some i0 := Option.isSome_iff_exists.1 (by kernel_rfl)
  have hc : Tryd.prog.cellsOf 3 = 1 := by kernel_rfl
  rw [run_sliceAt_array_all w 22 ⟨B, 0, none⟩ (by rw [hl, he]; exact Tryd.underlying22), hl, he, run_sizeOf w h0, hc]
  simp [Result.andThen, slicedAt, Addr.add]
theorem slice_three (B : Nat) (w : World) : (Instr.sliceAt 197 (.pointer (some ⟨B, 0, none⟩)) none none none).run Tryd.prog w = .ok (.slice (some ⟨B, 0, none⟩) 3 3) w := by
  have hl : Tryd.prog.arrayLen 197 = 3 := by kernel_rfl
  have he : Tryd.prog.elem 197 = 3 := by kernel_rfl
  obtain ⟨i0, h0⟩ : ∃ i0, Tryd.prog.info? 3 = some i0 := Option.isSome_iff_exists.1 (by kernel_rfl)
  have hc : Tryd.prog.cellsOf 3 = 1 := by kernel_rfl
  rw [run_sliceAt_array_all w 197 ⟨B, 0, none⟩ (by rw [hl, he]; exact Tryd.underlying197), hl, he, run_sizeOf w h0, hc]
  simp [Result.andThen, slicedAt, Addr.add]
theorem cells_new (w : World) (t : TypeId) (cs : List Value) : ∀ j u, cs[j]? = some u → (w.alloc (.cells cs.toArray t)).cell? ((⟨w.heap.size, 0, none⟩ : Addr).add j) = some u := by
  intro j u hj
  rw [show Addr.add ⟨w.heap.size, 0, none⟩ j = (⟨w.heap.size, j, none⟩ : Addr) from by simp [Addr.add]; omega, cell_of (heap_alloc_at w (.cells cs.toArray t) _ rfl)]
  simpa using hj
theorem ints_one (L : List Int) : ∀ u ∈ ints L, u.oneCell' = true := by
  intro u hu
  obtain ⟨x, _, rfl⟩ := List.mem_map.1 hu
  rfl

set_option maxHeartbeats 400000 in
theorem of_bad (s : ByteArray) (hs : s.size ≤ maxLen) (h : s.size ≠ 16) (w : World) :
    Calls Tryd.prog 128 #[.string s] w fun e w' => e = .returned (.tuple #[.slice none 0 0, .int .i64 1]) ∧ w = w' := by
  unfold maxLen at hs
  have hb : ((s.size : Int) != 16) = true := by simp; omega
  go_enter Tryd.func128, Tryd.ntmps128
  go_wp2
  go_ret2
  exact ⟨rfl, rfl⟩

set_option maxRecDepth 100000 in
set_option maxHeartbeats 800000 in
theorem of_ok (s : ByteArray) (h : s.size = 16) (w : World) :
    Calls Tryd.prog 128 #[.string s] w fun e w' => ∃ v, e = .returned (.tuple #[v, .int .i64 0]) ∧ IntsAt w' v (digs s.data.toList) ∧ w.grownBy w' none := by
  obtain ⟨i0, hi, hz0, hz1, hz2⟩ := info_parts infoIntD
  have hb : ((s.size : Int) != 16) = false := by simp; omega
  have H16 := Lib.hid h
  have hs1 : s.size ≤ 16 := by omega
  clear h
  go_enter Tryd.func128, Tryd.ntmps128
  go_wp2_with (at_make; refine wpList_make_own _ rfl _ _ 24 rfl w.heap.size 3 i0 (.int .i64 0) 1 Tryd.underlying24 hi hz0 hz1 _ _ _ 35 rfl rfl rfl ?c1 ?c2 ?c3 ?_)
  case c1 => rw [hz2]; omega
  case c2 => unfold maxLen; omega
  case c3 => omega
  intro w1 hown hg
  have HO := Lib.hid hown
  have HG := Lib.hid hg
  clear hown hg
  go_wp2_with fail
  go_loopw [4, 5, 6, 14] (fun lv _ _ iv wr => ∃ k : Nat, ∃ len : Nat, k ≤ 16 ∧ len = 2 * k ∧ iv = .int .i64 k ∧ lv = .slice (some ⟨w.heap.size, 0, none⟩) len 35 ∧ Hid (wr.ownsRow w.heap.size 3 1 (.slice (some ⟨w.heap.size, 0, none⟩) len 35) len (ints (digL (s.data.toList.take k)))) ∧ Hid (w.grownBy wr none)) (fun _ _ _ iv _ => 16 - (intOf iv).toNat)
  case atStart => exact ⟨0, 0, Nat.zero_le _, rfl, rfl, rfl, HO.out, HG.out⟩
  case round =>
    clear HO HG
    obtain ⟨k, len, hk, hlen, rfl, rfl, HO, HG⟩ := hrel
    by_cases hlt : k < 16
    · have hl35 : len + 2 ≤ 35 := by omega
      have HLN := Lib.hid hlen
      clear hlen
      have hks : k < s.size := by have := H16.out; omega
      have hsn := digL_take s k hks
      have b1 : (0 : Int) ≤ (k : Int) := by omega
      have b2 : (k : Int) < (s.size : Int) := by omega
      generalize hc : s[k] = c at hsn
      have HS := Lib.hid hsn
      have HCC := Lib.hid hc
      clear hsn hc
      have hbl := HO.out.lt w.heap.size rfl
      go_wp2_with fail
      rw [HCC.out]
      refine (halves_any c _).mono ?_
      rintro e w2 ⟨rfl, h2⟩
      have G2 := Lib.hid (grownBy_trans HG.out (grownBy_below h2))
      have HO2 := Lib.hid (own_kept HO.out (grownBy_below h2))
      clear h2 HO HG HCC
      have hsl := slice_two w2.heap.size
      go_wp2_with (refine wpList_append_fits _ rfl _ _ 24 rfl w.heap.size 3 i0 1 Tryd.underlying24 hi hz1 w.heap.size len 35 _ rfl (HO2.out.alloc _) ⟨w2.heap.size, 0, none⟩ 2 2 (ints [(c.toNat : Int) / 16, (c.toNat : Int) % 16]) rfl rfl ?q1 ?q2 ?q3 ?_)
      case q1 => exact cells_new w2 _ (ints [(c.toNat : Int) / 16, (c.toNat : Int) % 16])
      case q2 => exact ints_one _
      case q3 => omega
      intro w3 hown3 hg3
      have HO3 := Lib.hid hown3
      have HG3 : Hid (w.grownBy w3 none) := grownBy_below (((below_grownBy G2.out).alloc G2.out.size _).grown hg3 (by have := G2.out.size; simp; omega) (by intro r hr; cases hr; exact Nat.le_refl _))
      clear hown3 hg3 HO2 G2
      go_wp2_with fail
      go_roundw
      case rel =>
        refine ⟨k + 1, len + 2, by omega, by have := HLN.out; omega, by go_num, rfl, ?_, HG3.out⟩
        show World.ownsRow _ _ _ _ _ _ _
        rw [HS.out, ints_append]
        exact HO3.out
      case measure => simp [intOf]; omega
    · have : k = 16 := by omega
      subst this
      obtain rfl : len = 32 := by omega
      have hl16 : s.data.toList.length = 16 := H16.out
      have ho := HO.out
      rw [List.take_of_length_le (by omega)] at ho
      have hin := ints_of_own ho
      have hb1 := sum_lefts_bd s.data.toList
      have hb2 := lefts_bd (digL s.data.toList)
      have hb3 : (digL s.data.toList).length = 32 := by rw [digL_length]; omega
      have hD : digs s.data.toList = digL s.data.toList ++ chk (sumI (lefts (digL s.data.toList))) := rfl
      rw [hl16] at hb1
      have HO2 := Lib.hid ho
      have HI := Lib.hid hin
      have HB := Lib.hid (And.intro hb2 hb3)
      have HD := Lib.hid hD
      clear ho hin HO hb2 hb3 hD hl16
      generalize digL s.data.toList = L at hb1 HO2 HI HB HD
      have hbl := HO2.out.lt w.heap.size rfl
      go_wp2_with fail
      refine (dleft_any _ L _ HI.out (by rw [HB.out.2]; omega)).mono ?_
      rintro e w2 ⟨v2, rfl, h2, g2⟩
      have HI2 := Lib.hid h2
      have HO3 := Lib.hid (own_kept HO2.out g2)
      have HG3 := Lib.hid (grownBy_trans HG.out g2)
      clear h2 g2 HO2 HI HG
      go_wp2_with fail
      refine (dsum_any _ _ _ HI2.out HB.out.1 (by rw [lefts_length, HB.out.2]; omega)).mono ?_
      rintro e w' ⟨rfl, rfl⟩
      obtain ⟨n, hn⟩ : ∃ n, sumI (lefts L) = n := ⟨_, rfl⟩
      rw [hn] at hb1 HD ⊢
      clear hn
      go_wp2_with fail
      refine (inSixteens_any n hb1.1 (by omega) _).mono ?_
      rintro e w4 ⟨rfl, h4⟩
      have HO4 := Lib.hid (own_kept HO3.out (grownBy_below h4))
      have HG4 := Lib.hid (grownBy_trans HG3.out (grownBy_below h4))
      clear h4 HO3 HG3
      have hsl := slice_three w4.heap.size
      go_wp2_with (refine wpList_append_fits _ rfl _ _ 24 rfl w.heap.size 3 i0 1 Tryd.underlying24 hi hz1 w.heap.size 32 35 _ rfl (HO4.out.alloc _) ⟨w4.heap.size, 0, none⟩ 3 3 (ints (chk n)) rfl rfl ?r1 ?r2 ?r3 ?_)
      case r1 => exact cells_new w4 _ (ints (chk n))
      case r2 => exact ints_one _
      case r3 => omega
      intro w5 hown5 hg5
      have HG5 : Hid (w.grownBy w5 none) := grownBy_below (((below_grownBy HG4.out).alloc HG4.out.size _).grown hg5 (by have := HG4.out.size; simp; omega) (by intro r hr; cases hr; exact Nat.le_refl _))
      rw [← ints_append, ← HD.out] at hown5
      have HI5 := Lib.hid (ints_of_own hown5)
      clear hown5 hg5 HO4 HG4
      go_wp2_with fail
      go_ret2
      exact ⟨.slice (some ⟨w.heap.size, 0, none⟩) 35 35, rfl, HI5.out, HG5.out⟩
end Go.Proofs.YtioahjdojgcfdaaDoor

namespace Go.Proofs.YtioahjdojgcfdaaDoor
open Go.RowKit
attribute [local irreducible] shaL

theorem place_bytes (n c k : Nat) (hc : c < 256) (hk : k < 256) : [Value.int .u8 ((n : Int) / 16777216 % 256), .int .u8 ((n : Int) / 65536 % 256), .int .u8 ((n : Int) / 256 % 256), .int .u8 ((n : Int) % 256), .int .u8 (c : Int), .int .u8 (k : Int)] = u8s (placeL n c k) := by
  have h := four_bytes n
  have e : u8s (placeL n c k) = u8s (be n 4) ++ u8s [UInt8.ofNat c, UInt8.ofNat k] := by simp [placeL, u8s]
  rw [e, ← h]
  have e1 : (UInt8.ofNat c).toNat = c := by simp; omega
  have e2 : (UInt8.ofNat k).toNat = k := by simp; omega
  simp [u8s, e1, e2]

set_option maxHeartbeats 400000 in
set_option maxRecDepth 100000 in
theorem place_any (leaf chain step : Nat) (c k : Int) (hl : leaf ≤ 4294967295) (hc : chain < 256) (hk : step < 256) (ec : (chain : Int) = c) (ek : (step : Int) = k) (w : World) :
    Calls Tryd.prog 141 #[.int .i64 leaf, .int .i64 c, .int .i64 k] w fun e w' => e = .returned (.string (placeS leaf chain step)) ∧ w.grownBy w' none := by
  subst ec
  subst ek
  have b1 : (leaf : Int) / 16777216 < 256 := by omega
  have b2 : (chain : Int) < 256 := by omega
  have b3 : (step : Int) < 256 := by omega
  have hcv := row_string_w w _ (placeL leaf chain step) (place_bytes leaf chain step hc hk)
  rw [show (placeL leaf chain step).length = 6 from placeS_size leaf chain step, show (leaf : Int) / 16777216 % 256 = (leaf : Int) / 16777216 from by omega] at hcv
  have HP := Lib.hid (show str (placeL leaf chain step) = placeS leaf chain step from rfl)
  rw [HP.out] at hcv
  generalize placeS leaf chain step = S at hcv ⊢
  clear HP
  go_enter Tryd.func141, Tryd.ntmps141
  go_wp2_with fail
  go_ret
  exact ⟨rfl, World.grownBy_alloc _ _ _⟩

set_option maxHeartbeats 400000 in
set_option maxRecDepth 100000 in
theorem wopen_any (seed : ByteArray) (hs : seed.size ≤ 1000000000000) (w : World) (hr : ShaReady w) :
    Calls Tryd.prog 96 #[.string seed] w fun e w' => e = .returned (.string (openS seed)) ∧ w.grownBy w' none := by
  have HR := Lib.hid hr
  have ht := Lib.hid (tagged_new w 3 [seed] _ 1 3 rfl rfl rfl hr (by simp) (by simpa using hs))
  clear hr
  go_enter Tryd.func96, Tryd.ntmps96
  go_wp2_with fail
  refine ht.out.mono ?_
  rintro e w1 ⟨rfl, g1⟩
  have G1 := Lib.hid g1
  clear g1
  go_wp2_with fail
  go_ret
  exact ⟨rfl, G1.out⟩

set_option maxHeartbeats 400000 in
set_option maxRecDepth 100000 in
theorem secret_any (seed : ByteArray) (leaf chain : Nat) (hs : seed.size ≤ 1000000000000) (hl : leaf ≤ 4294967295) (hc : chain < 256) (w : World) (hr : ShaReady w) :
    Calls Tryd.prog 124 #[.string seed, .int .i64 leaf, .int .i64 chain] w fun e w' => e = .returned (.string (secretS seed leaf chain)) ∧ w.grownBy w' none := by
  have HR := Lib.hid hr
  have hp := Lib.hid (place_any leaf chain 0 chain 0 hl hc (by decide) rfl rfl w)
  clear hr
  go_enter Tryd.func124, Tryd.ntmps124
  go_wp2_with fail
  refine hp.out.mono ?_
  rintro e w1 ⟨rfl, g1⟩
  have G1 := Lib.hid g1
  clear g1
  have ht := Lib.hid (tagged_new w1 1 [seed, placeS leaf chain 0] _ 2 1 rfl rfl rfl (HR.out.grown G1.out) (by simp) (by
    intro s hs'
    simp at hs'
    rcases hs' with rfl | rfl
    · exact hs
    · rw [placeS_size]; omega))
  go_wp2_with fail
  refine ht.out.mono ?_
  rintro e w2 ⟨rfl, g2⟩
  have G2 := Lib.hid (grownBy_trans G1.out g2)
  clear g2
  go_wp2_with fail
  go_ret
  exact ⟨rfl, G2.out⟩

set_option maxHeartbeats 400000 in
set_option maxRecDepth 100000 in
theorem wwalk_any (o x : ByteArray) (leaf chain : Nat) (a b : Int) (ho : o.size ≤ 1000000000000) (hx : x.size ≤ 1000000000000) (hl : leaf ≤ 4294967295) (hc : chain < 256) (ha : -9223372036854775808 ≤ a ∧ a ≤ 9223372036854775807) (hb : -9223372036854775808 ≤ b ∧ b ≤ 9223372036854775807) (w : World) (hr : ShaReady w) :
    Calls Tryd.prog 123 #[.string o, .int .i64 leaf, .int .i64 chain, .int .i64 a, .int .i64 b, .string x] w fun e w' => e = .returned (.string (walkZ o leaf chain a b x)) ∧ w.grownBy w' none := by
  have HR := Lib.hid hr
  clear hr
  obtain ⟨p, hp⟩ : ∃ p : Nat, (max a 0).toNat = p := ⟨_, rfl⟩
  have HS := Lib.hid (fun n => walkS_size o leaf chain p n x 1000000000000 hx (by decide))
  have hpa : ((p : Nat) : Int) = max a 0 := by omega
  have HW : Hid (walkZ o leaf chain a b x = walkS o leaf chain p (min b 15 - p).toNat x) := by
    show _ = _
    unfold walkZ
    rw [hp, ← hpa]
  clear hp
  have HP := Lib.hid hpa
  clear hpa
  go_enter Tryd.func123, Tryd.ntmps123
  go_upto_region 1 with (fail)
  go_cut [13] (fun iv wx => iv = .int .i64 p ∧ w = wx)
  case first =>
    by_cases ha0 : 0 ≤ a
    · have e : a = p := by have := HP.out; omega
      subst e
      go_wp2
      all_goals
        go_meet
        case rel => exact ⟨by first | rfl | (congr 1; omega), rfl⟩
    · have e : p = 0 := by have := HP.out; omega
      subst e
      go_wp2
      all_goals
        go_meet
        case rel => exact ⟨by first | rfl | (congr 1; omega), rfl⟩
  case rest =>
    obtain ⟨rfl, rfl⟩ := hcut
    by_cases hb15 : b ≤ 15
    · go_wp2_with fail
      go_loopw [5, 13] (fun xv iv wr => ∃ k : Nat, ∃ y : ByteArray, p ≤ k ∧ (k = p ∨ k ≤ 15) ∧ (k = p ∨ (k : Int) ≤ b) ∧ iv = .int .i64 k ∧ xv = .string y ∧ Hid (y = walkS o leaf chain p (k - p) x) ∧ Hid (w.grownBy wr none)) (fun _ iv _ => (b - intOf iv).toNat)
      case atStart => exact ⟨p, x, Nat.le_refl _, .inl rfl, .inl rfl, rfl, rfl, by show _ = _; rw [Nat.sub_self]; rfl, World.grownBy.refl _ _⟩
      case round =>
        obtain ⟨k, y, hk, hk15, hkb, rfl, rfl, HY, HG⟩ := hrel
        by_cases hlt : (k : Int) < b
        · have hk2 : k < 15 := by omega
          have hys : y.size ≤ 1000000000000 := by rw [HY.out]; exact HS.out _
          have hpl := Lib.hid (place_any leaf chain k chain k hl hc (by omega) rfl rfl wr)
          clear hk15 hkb
          go_wp2_with fail
          refine hpl.out.mono ?_
          rintro e w1 ⟨rfl, g1⟩
          have G1 := Lib.hid (grownBy_trans HG.out g1)
          clear g1
          have ht := Lib.hid (tagged_new w1 2 [o, placeS leaf chain k, y] _ 3 2 rfl rfl rfl (HR.out.grown G1.out) (by simp) (by
            intro s hs'
            simp at hs'
            rcases hs' with rfl | rfl | rfl
            · exact ho
            · rw [placeS_size]; omega
            · exact hys))
          go_wp2_with fail
          refine ht.out.mono ?_
          rintro e w2 ⟨rfl, g2⟩
          have G2 := Lib.hid (grownBy_trans G1.out g2)
          clear g2
          go_wp2_with fail
          go_roundw
          case rel =>
            refine ⟨k + 1, _, by omega, by omega, by omega, by go_num, rfl, ?_, G2.out⟩
            show _ = _
            rw [show k + 1 - p = (k - p) + 1 from by omega, walkS_succ, ← HY.out, show p + (k - p) = k from by omega]
            rfl
          case measure => simp [intOf]; omega
        · have HF : Hid (y = walkZ o leaf chain a b x) := by
            show _ = _
            rw [HW.out, HY.out]
            congr 1
            have := HP.out
            omega
          clear hk15 hkb
          go_wp2_with fail
          go_ret
          exact ⟨by rw [HF.out]; rfl, HG.out⟩
    · go_wp2_with fail
      go_loopw [5, 13] (fun xv iv wr => ∃ k : Nat, ∃ y : ByteArray, p ≤ k ∧ (k = p ∨ k ≤ 15) ∧ (k = p ∨ (k : Int) ≤ 15) ∧ iv = .int .i64 k ∧ xv = .string y ∧ Hid (y = walkS o leaf chain p (k - p) x) ∧ Hid (w.grownBy wr none)) (fun _ iv _ => (15 - intOf iv).toNat)
      case atStart => exact ⟨p, x, Nat.le_refl _, .inl rfl, .inl rfl, rfl, rfl, by show _ = _; rw [Nat.sub_self]; rfl, World.grownBy.refl _ _⟩
      case round =>
        obtain ⟨k, y, hk, hk15, hkb, rfl, rfl, HY, HG⟩ := hrel
        by_cases hlt : (k : Int) < 15
        · have hk2 : k < 15 := by omega
          have hys : y.size ≤ 1000000000000 := by rw [HY.out]; exact HS.out _
          have hpl := Lib.hid (place_any leaf chain k chain k hl hc (by omega) rfl rfl wr)
          clear hk15 hkb
          go_wp2_with fail
          refine hpl.out.mono ?_
          rintro e w1 ⟨rfl, g1⟩
          have G1 := Lib.hid (grownBy_trans HG.out g1)
          clear g1
          have ht := Lib.hid (tagged_new w1 2 [o, placeS leaf chain k, y] _ 3 2 rfl rfl rfl (HR.out.grown G1.out) (by simp) (by
            intro s hs'
            simp at hs'
            rcases hs' with rfl | rfl | rfl
            · exact ho
            · rw [placeS_size]; omega
            · exact hys))
          go_wp2_with fail
          refine ht.out.mono ?_
          rintro e w2 ⟨rfl, g2⟩
          have G2 := Lib.hid (grownBy_trans G1.out g2)
          clear g2
          go_wp2_with fail
          go_roundw
          case rel =>
            refine ⟨k + 1, _, by omega, by omega, by omega, by go_num, rfl, ?_, G2.out⟩
            show _ = _
            rw [show k + 1 - p = (k - p) + 1 from by omega, walkS_succ, ← HY.out, show p + (k - p) = k from by omega]
            rfl
          case measure => simp [intOf]; omega
        · have HF : Hid (y = walkZ o leaf chain a b x) := by
            show _ = _
            rw [HW.out, HY.out]
            congr 1
            have := HP.out
            omega
          clear hk15 hkb
          go_wp2_with fail
          go_ret
          exact ⟨by rw [HF.out]; rfl, HG.out⟩
end Go.Proofs.YtioahjdojgcfdaaDoor

namespace Go.Proofs.YtioahjdojgcfdaaDoor
open Go.RowKit

/-- the number of the first bits -/
def bandN (s : ByteArray) : Nat → Nat
  | 0 => 0
  | k + 1 => 2 * bandN s k + bitS s k
theorem bandN_lt (s : ByteArray) : ∀ k, bandN s k < 2 ^ k
  | 0 => by simp [bandN]
  | k + 1 => by
    have := bandN_lt s k
    have := bitS_le s k
    rw [bandN, Nat.pow_succ]
    omega
theorem or_bit (n b : Nat) (hb : b ≤ 1) : 2 * n ||| b = 2 * n + b := by
  have := Nat.two_pow_add_eq_or_of_lt (i := 1) (b := b) (by omega) n
  simp at this
  rw [← this]
theorem band_cap (k : Nat) (h : k ≤ 16) : 2 ^ k ≤ 65536 := Nat.le_trans (Nat.pow_le_pow_right (by decide) h) (by decide)
/-- are the first bits alike? -/
def belowB (a b : ByteArray) (n : Nat) : Bool := (List.range n).all fun i => bitS a i == bitS b i
theorem belowB_succ (a b : ByteArray) (n : Nat) : belowB a b (n + 1) = (belowB a b n && (bitS a n == bitS b n)) := by
  simp [belowB, List.range_succ, List.all_append]
theorem belowB_iff (a b : ByteArray) (n : Nat) : belowB a b n = true ↔ ∀ i, i < n → bitS a i = bitS b i := by
  simp [belowB]

end Go.Proofs.YtioahjdojgcfdaaDoor

namespace Go.Proofs.YtioahjdojgcfdaaDoor
open Go.RowKit

def bytesV (l : List UInt8) : List Value := l.map fun c => .int .u8 c.toNat
theorem infoB : (Tryd.prog.info? 5).map (fun i => (i.zero, i.size, i.bytes)) = some (some (.int .u8 0), 1, 1) := by kernel_rfl
theorem made_bytes (n : Nat) : (madeCells #[Value.int .u8 0] n).toList = bytesV (List.replicate n 0) := by
  apply List.ext_getElem?
  intro i
  simp [madeCells, bytesV, List.getElem?_replicate]
  by_cases h : i < n <;> simp [h, Nat.mod_one]
/-- 'string(b)', b a row of the call's own that holds bytes -/
theorem own_str {wr : World} {B g k cap : Nat} {l : List UInt8} (h : wr.ownsRow B 5 1 (.slice (some ⟨g, 0, none⟩) k cap) k (bytesV l)) :
    (convert 57 9 (.slice (some ⟨g, 0, none⟩) k cap)).run Tryd.prog wr = .ok (.string (str l)) wr := by
  have hl : l.length = k := by simpa [bytesV] using h.1
  subst hl
  refine run_convert_bytes_back wr 57 9 5 _ cap l Tryd.underlying57 Tryd.underlying5 Tryd.underlying9 fun j hj => ?_
  rw [show Addr.add ⟨g, 0, none⟩ j = (⟨g, j, none⟩ : Addr) from by simp [Addr.add]; omega, h.cellAt j (by simpa using hj)]
  simp [bytesV, List.getElem?_eq_getElem hj]
/-- 'string(b[:])', b a block of bytes -/
theorem blk_str {w : World} {g : Nat} {l : List UInt8} {t : TypeId} (h : w.heap[g]? = some (.cells (bytesV l).toArray t (0, 0))) (cap : Nat) :
    (convert 57 9 (.slice (some ⟨g, 0, none⟩) l.length cap)).run Tryd.prog w = .ok (.string (str l)) w := by
  refine run_convert_bytes_back w 57 9 5 _ cap l Tryd.underlying57 Tryd.underlying5 Tryd.underlying9 fun j hj => ?_
  rw [show Addr.add ⟨g, 0, none⟩ j = (⟨g, j, none⟩ : Addr) from by simp [Addr.add]; omega, cell_of h, List.getElem?_toArray]
  simp [bytesV, List.getElem?_eq_getElem hj]
end Go.Proofs.YtioahjdojgcfdaaDoor

namespace Go.Proofs.YtioahjdojgcfdaaDoor
open Go.RowKit

theorem sixteen_size (l : List UInt8) (h : l.length = 16) : (bytesV l).toArray.size = 16 := by simp [bytesV, h]
theorem eqItems_bytes (d : Nat) (la lb : List UInt8) (w : World) : ∀ is : List Nat, (∀ i ∈ is, i < la.length ∧ i < lb.length) →
    (Op.eqItems (d + 1) 5 1 (bytesV la).toArray (bytesV lb).toArray is).run Tryd.prog w = .ok (is.all fun i => la.getD i 0 == lb.getD i 0) w
  | [], _ => by simp [Op.eqItems]
  | i :: is, h => by
    have hp : Tryd.prog.plainKey 5 = true := by kernel_rfl
    obtain ⟨ha, hb⟩ := h i (by simp)
    have xa : (bytesV la).toArray[i * 1]? = some (.int .u8 (la.getD i 0).toNat) := by
      simp [bytesV, List.getElem?_eq_getElem ha, List.getD_eq_getElem?_getD]
    have xb : (bytesV lb).toArray[i * 1]? = some (.int .u8 (lb.getD i 0).toNat) := by
      simp [bytesV, List.getElem?_eq_getElem hb, List.getD_eq_getElem?_getD]
    have ih := eqItems_bytes d la lb w is (fun j hj => h j (by simp [hj]))
    have e : (((la.getD i 0).toNat : Int) == ((lb.getD i 0).toNat : Int)) = (la.getD i 0 == lb.getD i 0) := by
      rw [Bool.eq_iff_iff, beq_iff_eq, beq_iff_eq, ← UInt8.toNat_inj]
      omega
    simp only [Op.eqItems, Sem.run_bind, run_part_plain w hp xa, run_part_plain w hp xb, Result.andThen_ok, run_equalIn_int w d _ _ _ _ _ Tryd.underlying5, e, List.all_cons]
    cases la.getD i 0 == lb.getD i 0
    · simp
    · simpa using ih
end Go.Proofs.YtioahjdojgcfdaaDoor
