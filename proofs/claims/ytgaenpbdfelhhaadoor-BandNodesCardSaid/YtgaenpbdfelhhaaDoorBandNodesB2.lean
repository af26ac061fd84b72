/- What BitsOrder and BitsBands need of plain bits. No walk. · Plain functions for package wots: places, secrets, walks, public keys. No walk of the program. · Plain words for sparse trees: nodes of pairs. No walk. · What a sparse tree holds in memory: pairs in a map. No walk. · The walks of a tree's New, Put, Get, Len. · sha.Tagged of texts in a new block. · The walks of Leaf, isLeaf, Join. · Lists of texts in memory. No walk. · The walks of proof's begins, and of its alike's closure. · A round of the document's reading of a word, its own theorem. · The four bytes of a number. No walk. · The walk of the document's Four, and small things that the sha laws share. · The walk of a proof's besideMayBe. · The walk of a proof's Good, where key and depth may be. · The walk of layer 14's laws' key. -/
import Derived.Test.YtgaenpbdfelhhaaDoorBitsC
import Derived.Test.YtgaenpbdfelhhaaDoorShaCalls
import Derived.Test.YtgaenpbdfelhhaaDoorBandNodesB1
import Derived.Maps.OwnSet
import Derived.Carry
import Derived.Handy
import Derived.Deep.RegionWith
import Derived.Deep.RegionHeld3
import Derived.Test.YtgaenpbdfelhhaaDoorShaRefF
import Derived.Deep.DeepCutAuto
namespace Go.Proofs.YtgaenpbdfelhhaaDoor
open Go.RowKit

theorem bandN_same (a b : ByteArray) : ∀ d, (∀ i, i < d → bitS a i = bitS b i) → bandN a d = bandN b d
  | 0, _ => rfl
  | d + 1, h => by rw [bandN, bandN, bandN_same a b d (fun i hi => h i (by omega)), h d (by omega)]
theorem bandN_less (a b : ByteArray) (k : Nat) (h : ∀ i, i < k → bitS a i = bitS b i) (h0 : bitS a k = 0) (h1 : bitS b k = 1) : ∀ d, k < d → bandN a d < bandN b d
  | 0, hd => by omega
  | d + 1, hd => by
    rw [bandN, bandN]
    by_cases e : k = d
    · subst e
      rw [bandN_same a b k h, h0, h1]; omega
    · have := bandN_less a b k h h0 h1 d (by omega)
      have := bitS_le a d
      omega
theorem bandN_bit (a : ByteArray) : ∀ d i, i < d → bandN a d / 2 ^ (d - 1 - i) % 2 = bitS a i
  | 0, i, h => by omega
  | d + 1, i, h => by
    have hb := bitS_le a d
    rw [bandN]
    by_cases e : i = d
    · subst e
      rw [show i + 1 - 1 - i = 0 from by omega, Nat.pow_zero, Nat.div_one]; omega
    · have ih := bandN_bit a d i (by omega)
      rw [show d + 1 - 1 - i = (d - 1 - i) + 1 from by omega, Nat.pow_succ, Nat.mul_comm (2 ^ _) 2, ← Nat.div_div_eq_div_mul, show (2 * bandN a d + bitS a d) / 2 = bandN a d from by omega]
      exact ih
/-- a text with the bits of a band's number has that band -/
theorem band_of_bits (s : ByteArray) (b d : Nat) (h : ∀ i, i < d → bitS s i = b / 2 ^ (d - 1 - i) % 2) : ∀ k, k ≤ d → bandN s k = b / 2 ^ (d - k) % 2 ^ k
  | 0, _ => by rw [Nat.pow_zero, Nat.mod_one]; rfl
  | k + 1, hk => by
    rw [bandN, band_of_bits s b d h k (by omega), h k (by omega), show d - 1 - k = d - (k + 1) from by omega, show d - k = (d - (k + 1)) + 1 from by omega, Nat.pow_succ 2 (d - (k + 1)), ← Nat.div_div_eq_div_mul]
    generalize b / 2 ^ (d - (k + 1)) = x
    rw [Nat.pow_succ, Nat.mul_comm (2 ^ k) 2, Nat.mod_mul]
    omega
/-- bytes of the same bits are the same -/
theorem top_bits (a b r : Nat) (ha : a < 256) (hb : b < 256) : ∀ m, m ≤ 8 → (∀ j, j < m → a / 2 ^ (7 - j) % 2 = b / 2 ^ (7 - j) % 2) → a / 2 ^ (8 - m) = b / 2 ^ (8 - m)
  | 0, _, _ => by rw [show 2 ^ (8 - 0) = 256 from rfl]; omega
  | m + 1, hm, h => by
    have ih := top_bits a b r ha hb m (by omega) (fun j hj => h j (by omega))
    have h1 := h m (by omega)
    rw [show 8 - m = (7 - m) + 1 from by omega, Nat.pow_succ, ← Nat.div_div_eq_div_mul, ← Nat.div_div_eq_div_mul] at ih
    rw [show 8 - (m + 1) = 7 - m from by omega]
    omega
theorem bitL_byte (l : List UInt8) (q j : Nat) (h : j < 8) : bitL l (8 * q + j) = ((l[q]?).getD 0).toNat / 2 ^ (7 - j) % 2 := by
  unfold bitL
  rw [show (8 * q + j) / 8 = q from by omega, show (8 * q + j) % 8 = j from by omega]
theorem byte_same (l m : List UInt8) (q : Nat) (h : ∀ i, i < 8 → bitL l (8 * q + i) = bitL m (8 * q + i)) : (l[q]?).getD 0 = (m[q]?).getD 0 := by
  have := top_bits _ _ 0 (UInt8.toNat_lt ((l[q]?).getD 0)) (UInt8.toNat_lt ((m[q]?).getD 0)) 8 (Nat.le_refl _) (fun j hj => by
    have := h j hj
    rwa [bitL_byte l q j hj, bitL_byte m q j hj] at this)
  rw [show 2 ^ (8 - 8) = 1 from rfl, Nat.div_one, Nat.div_one] at this
  exact UInt8.toNat_inj.1 this
theorem bits_all (l m : List UInt8) (n : Nat) (hl : l.length = n) (hm : m.length = n) (h : ∀ i, i < 8 * n → bitL l i = bitL m i) : l = m := by
  apply List.ext_getElem (by omega)
  intro q h1 h2
  have := byte_same l m q (fun i hi => h _ (by omega))
  rwa [List.getElem?_eq_getElem h1, List.getElem?_eq_getElem h2] at this
/-- the first bit that is not the same tells the order -/
theorem less_cons (x y : UInt8) (l m : List UInt8) : Op.bytesLess (x :: l) (y :: m) = (decide (x < y) || (x == y && Op.bytesLess l m)) := rfl
theorem less_first : ∀ (q : Nat) (l m : List UInt8), l.length = m.length → q < l.length → (∀ i, i < q → (l[i]?).getD 0 = (m[i]?).getD 0) → (l[q]?).getD 0 < (m[q]?).getD 0 → Op.bytesLess l m = true ∧ Op.bytesLess m l = false
  | _, [], _, _, h, _, _ => by simp at h
  | _, _ :: _, [], h, _, _, _ => by simp at h
  | 0, x :: l, y :: m, _, _, _, h => by
    have hxy : x < y := by simpa using h
    have h2 := UInt8.lt_iff_toNat_lt.1 hxy
    rw [less_cons, less_cons]
    constructor
    · simp [hxy]
    · have h3 : ¬ y < x := by rw [UInt8.lt_iff_toNat_lt]; omega
      have h4 : (y == x) = false := by
        rw [beq_eq_false_iff_ne]
        rintro rfl
        omega
      simp [h3, h4]
  | q + 1, x :: l, y :: m, hl, hq, hs, h => by
    have h0 := hs 0 (by omega)
    have hxy : x = y := by simpa using h0
    subst hxy
    obtain ⟨i1, i2⟩ := less_first q l m (by simpa using hl) (by simpa using hq) (fun i hi => by simpa using hs (i + 1) (by omega)) (by simpa using h)
    have h3 : ¬ x < x := by rw [UInt8.lt_iff_toNat_lt]; omega
    rw [less_cons, less_cons, i1, i2]
    simp [h3]
theorem less_of_bit (l m : List UInt8) (k : Nat) (hl : l.length = m.length) (hk : k < 8 * l.length) (hs : ∀ i, i < k → bitL l i = bitL m i) (h0 : bitL l k = 0) (h1 : bitL m k = 1) : Op.bytesLess l m = true ∧ Op.bytesLess m l = false := by
  obtain ⟨q, hq⟩ : ∃ q, k / 8 = q := ⟨_, rfl⟩
  obtain ⟨r, hr⟩ : ∃ r, k % 8 = r := ⟨_, rfl⟩
  have hkq : k = 8 * q + r := by omega
  subst hkq
  refine less_first q l m hl (by omega) (fun i hi => byte_same l m i (fun j hj => hs _ (by omega))) ?_
  rw [bitL_byte l q r (by omega)] at h0
  rw [bitL_byte m q r (by omega)] at h1
  have ht := top_bits _ _ 0 (UInt8.toNat_lt ((l[q]?).getD 0)) (UInt8.toNat_lt ((m[q]?).getD 0)) r (by omega) (fun j hj => by
    have := hs (8 * q + j) (by omega)
    rwa [bitL_byte l q j (by omega), bitL_byte m q j (by omega)] at this)
  rw [UInt8.lt_iff_toNat_lt]
  generalize ((l[q]?).getD 0).toNat = a at h0 ht ⊢
  generalize ((m[q]?).getD 0).toNat = b at h1 ht ⊢
  rw [show 8 - r = (7 - r) + 1 from by omega, Nat.pow_succ, ← Nat.div_div_eq_div_mul, ← Nat.div_div_eq_div_mul] at ht
  rcases Nat.lt_or_ge a b with h | h
  · exact h
  · have := Nat.div_le_div_right (c := 2 ^ (7 - r)) h
    omega
/-- what the two texts' order says of the first bit that is not the same -/
theorem order_bit (p q : List UInt8) (k : Nat) (hp : p.length = 16) (hq : q.length = 16) (hk : k < 128) (hs : ∀ i, i < k → bitL p i = bitL q i) (hne : bitL p k ≠ bitL q k) (h : Op.bytesLess q p = false) : bitL p k = 0 ∧ bitL q k = 1 := by
  have h1 : bitL p k ≤ 1 := bitS_le (str p) k
  have h2 : bitL q k ≤ 1 := bitS_le (str q) k
  rcases (by omega : (bitL p k = 0 ∧ bitL q k = 1) ∨ (bitL q k = 0 ∧ bitL p k = 1)) with h3 | ⟨h3, h4⟩
  · exact h3
  · rw [(less_of_bit q p k (by omega) (by omega) (fun i hi => (hs i hi).symm) h3 h4).1] at h
    cases h
theorem less_irr : ∀ l : List UInt8, Op.bytesLess l l = false
  | [] => rfl
  | x :: l => by
    have h3 : ¬ x < x := by rw [UInt8.lt_iff_toNat_lt]; omega
    rw [less_cons, less_irr l]
    simp [h3]
theorem less_asym : ∀ l m : List UInt8, Op.bytesLess l m = true → Op.bytesLess m l = false
  | [], [], h => by simp [Op.bytesLess] at h
  | [], _ :: _, _ => rfl
  | _ :: _, [], h => by simp [Op.bytesLess] at h
  | x :: l, y :: m, h => by
    rw [less_cons] at h ⊢
    simp only [Bool.or_eq_true, Bool.and_eq_true, decide_eq_true_eq, beq_iff_eq] at h
    rcases h with h | ⟨rfl, h⟩
    · have h1 := UInt8.lt_iff_toNat_lt.1 h
      have h3 : ¬ y < x := by rw [UInt8.lt_iff_toNat_lt]; omega
      have h4 : (y == x) = false := by
        rw [beq_eq_false_iff_ne]
        rintro rfl
        omega
      simp [h3, h4]
    · have h3 : ¬ x < x := by rw [UInt8.lt_iff_toNat_lt]; omega
      rw [less_asym l m h]
      simp [h3]
theorem str_list (l : List UInt8) : (str l).toList = l := by rw [ByteArray.toList_eq]; rfl
end Go.Proofs.YtgaenpbdfelhhaaDoor

namespace Go.Proofs.YtgaenpbdfelhhaaDoor
attribute [local irreducible] shaL

/-- the short digest of a tag and texts -/
def tagS (tag : UInt8) (L : List ByteArray) : ByteArray := str ((shaL (tagB tag L)).take 16)
theorem tagS_size (tag : UInt8) (L : List ByteArray) : (tagS tag L).size = 16 := by
  unfold tagS
  rw [str_size, List.length_take, shaL_length]
  rfl
def placeL (leaf chain step : Nat) : List UInt8 := be leaf 4 ++ [UInt8.ofNat chain, UInt8.ofNat step]
def placeS (leaf chain step : Nat) : ByteArray := str (placeL leaf chain step)
theorem placeS_size (leaf chain step : Nat) : (placeS leaf chain step).size = 6 := by
  unfold placeS placeL
  rw [str_size, List.length_append, be_length]
  rfl
def openS (seed : ByteArray) : ByteArray := tagS 3 [seed]
def stepS (o : ByteArray) (leaf chain k : Nat) (x : ByteArray) : ByteArray := tagS 2 [o, placeS leaf chain k, x]
/-- n steps, from step a on -/
def walkS (o : ByteArray) (leaf chain a : Nat) : Nat → ByteArray → ByteArray
  | 0, x => x
  | n + 1, x => stepS o leaf chain (a + n) (walkS o leaf chain a n x)
theorem walkS_zero (o : ByteArray) (leaf chain a : Nat) (x : ByteArray) : walkS o leaf chain a 0 x = x := rfl
theorem walkS_succ (o : ByteArray) (leaf chain a n : Nat) (x : ByteArray) : walkS o leaf chain a (n + 1) x = stepS o leaf chain (a + n) (walkS o leaf chain a n x) := rfl
theorem walkS_add (o : ByteArray) (leaf chain a m n : Nat) (x : ByteArray) : walkS o leaf chain (a + m) n (walkS o leaf chain a m x) = walkS o leaf chain a (m + n) x := by
  induction n with
  | zero => rfl
  | succ n ih => rw [walkS_succ, ih, ← Nat.add_assoc, walkS_succ, Nat.add_assoc]
theorem walkS_size (o : ByteArray) (leaf chain a n : Nat) (x : ByteArray) (N : Nat) (h : x.size ≤ N) (h16 : 16 ≤ N) : (walkS o leaf chain a n x).size ≤ N := by
  cases n with
  | zero => exact h
  | succ n => rw [walkS_succ]; unfold stepS; rw [tagS_size]; exact h16
theorem walkS_16 (o : ByteArray) (leaf chain a n : Nat) (x : ByteArray) (h : x.size = 16) : (walkS o leaf chain a n x).size = 16 := by
  cases n with
  | zero => exact h
  | succ n => rw [walkS_succ]; unfold stepS; rw [tagS_size]
/-- from and to as they come: below 0 as 0, above 15 as 15 -/
def walkZ (o : ByteArray) (leaf chain : Nat) (a b : Int) (x : ByteArray) : ByteArray := walkS o leaf chain (max a 0).toNat (min b 15 - max a 0).toNat x
def secretS (seed : ByteArray) (leaf chain : Nat) : ByteArray := tagS 1 [seed, placeS leaf chain 0]
def publicOfS (o : ByteArray) (leaf : Nat) (ends : List ByteArray) : ByteArray := tagS 4 ([o, placeS leaf 0 0] ++ ends)
def endsS (seed : ByteArray) (leaf : Nat) : Nat → List ByteArray
  | 0 => []
  | c + 1 => endsS seed leaf c ++ [walkS (openS seed) leaf c 0 15 (secretS seed leaf c)]
def publicS (seed : ByteArray) (leaf : Nat) : ByteArray := publicOfS (openS seed) leaf (endsS seed leaf 35)
/-- a signature's first c texts -/
def sigS (seed : ByteArray) (leaf : Nat) (d : List Int) : Nat → List ByteArray
  | 0 => []
  | c + 1 => sigS seed leaf d c ++ [walkS (openS seed) leaf c 0 (d.getD c 0).toNat (secretS seed leaf c)]
/-- the first c ends of what a signature's texts are walked to -/
def recS (o : ByteArray) (leaf : Nat) (d : List Int) (sig : List ByteArray) : Nat → List ByteArray
  | 0 => []
  | c + 1 => recS o leaf d sig c ++ [walkS o leaf c (d.getD c 0).toNat (15 - d.getD c 0).toNat (sig.getD c ByteArray.empty)]
theorem endsS_length (seed : ByteArray) (leaf c : Nat) : (endsS seed leaf c).length = c := by
  induction c with
  | zero => rfl
  | succ c ih => simp [endsS, ih]
theorem sigS_length (seed : ByteArray) (leaf : Nat) (d : List Int) (c : Nat) : (sigS seed leaf d c).length = c := by
  induction c with
  | zero => rfl
  | succ c ih => simp [sigS, ih]
theorem recS_length (o : ByteArray) (leaf : Nat) (d : List Int) (sig : List ByteArray) (c : Nat) : (recS o leaf d sig c).length = c := by
  induction c with
  | zero => rfl
  | succ c ih => simp [recS, ih]
theorem sigS_at (seed : ByteArray) (leaf : Nat) (d : List Int) (c i : Nat) (h : i < c) : (sigS seed leaf d c)[i]? = some (walkS (openS seed) leaf i 0 (d.getD i 0).toNat (secretS seed leaf i)) := by
  induction c with
  | zero => omega
  | succ c ih =>
    rw [sigS]
    by_cases e : i = c
    · subst e
      rw [List.getElem?_append_right (by rw [sigS_length]; omega), sigS_length, Nat.sub_self]
      rfl
    · rw [List.getElem?_append_left (by rw [sigS_length]; omega), ih (by omega)]
theorem secretS_size (seed : ByteArray) (leaf chain : Nat) : (secretS seed leaf chain).size = 16 := tagS_size _ _
theorem openS_size (seed : ByteArray) : (openS seed).size = 16 := tagS_size _ _
theorem sigS_all (seed : ByteArray) (leaf : Nat) (d : List Int) (c : Nat) : ∀ s ∈ sigS seed leaf d c, s.size = 16 := by
  induction c with
  | zero => intro s h; cases h
  | succ c ih =>
    intro s h
    rw [sigS] at h
    rcases List.mem_append.1 h with h | h
    · exact ih s h
    · obtain rfl := List.mem_singleton.1 h
      exact walkS_16 _ _ _ _ _ _ (secretS_size _ _ _)
theorem endsS_all (seed : ByteArray) (leaf c : Nat) : ∀ s ∈ endsS seed leaf c, s.size = 16 := by
  induction c with
  | zero => intro s h; cases h
  | succ c ih =>
    intro s h
    rw [endsS] at h
    rcases List.mem_append.1 h with h | h
    · exact ih s h
    · obtain rfl := List.mem_singleton.1 h
      exact walkS_16 _ _ _ _ _ _ (secretS_size _ _ _)
theorem recS_all (o : ByteArray) (leaf : Nat) (d : List Int) (sig : List ByteArray) (hs : ∀ s ∈ sig, s.size = 16) (c : Nat) (hc : c ≤ sig.length) : ∀ s ∈ recS o leaf d sig c, s.size = 16 := by
  induction c with
  | zero => intro s h; cases h
  | succ c ih =>
    intro s h
    rw [recS] at h
    rcases List.mem_append.1 h with h | h
    · exact ih (by omega) s h
    · obtain rfl := List.mem_singleton.1 h
      refine walkS_16 _ _ _ _ _ _ (hs _ ?_)
      rw [List.getD_eq_getElem?_getD, List.getElem?_eq_getElem (by omega)]
      exact List.getElem_mem _
/-- P6.3: what a signature tells is the public key -/
theorem rec_sig (seed : ByteArray) (leaf : Nat) (d : List Int) (hd : ∀ x ∈ d, 0 ≤ x ∧ x ≤ 15) (n : Nat) (hn : n ≤ d.length) (c : Nat) (hc : c ≤ n) : recS (openS seed) leaf d (sigS seed leaf d n) c = endsS seed leaf c := by
  induction c with
  | zero => rfl
  | succ c ih =>
    rw [recS, endsS, ih (by omega)]
    have h1 := sigS_at seed leaf d n c (by omega)
    rw [List.getD_eq_getElem?_getD (l := sigS seed leaf d n), h1]
    have hx := hd (d.getD c 0) (by rw [List.getD_eq_getElem?_getD, List.getElem?_eq_getElem (by omega)]; exact List.getElem_mem _)
    simp only [Option.getD_some]
    have e := walkS_add (openS seed) leaf c 0 (d.getD c 0).toNat (15 - d.getD c 0).toNat (secretS seed leaf c)
    rw [Nat.zero_add] at e
    rw [e, show (d.getD c 0).toNat + (15 - d.getD c 0).toNat = 15 from by omega]
/-- a tagged text's length -/
theorem tagB_length (tag : UInt8) (L : List ByteArray) (N : Nat) (h : ∀ s ∈ L, s.size ≤ N) : (tagB tag L).length ≤ 1 + L.length * (4 + N) := by
  unfold tagB
  rw [List.length_cons]
  suffices (L.flatMap fun s => be s.size 4 ++ s.data.toList).length ≤ L.length * (4 + N) by omega
  induction L with
  | nil => simp
  | cons s L ih =>
    have := ih (fun t ht => h t (by simp [ht]))
    have hs := h s (by simp)
    rw [List.flatMap_cons, List.length_append, List.length_append, be_length, List.length_cons, Nat.succ_mul]
    have e : s.data.toList.length = s.size := rfl
    omega
end Go.Proofs.YtgaenpbdfelhhaaDoor

namespace Go.Proofs.YtgaenpbdfelhhaaDoor
attribute [local irreducible] shaL

def emptyS : ByteArray := ⟨#[0]⟩
def leafS (k v : ByteArray) : ByteArray := ⟨#[1]⟩ ++ tagS 9 [k, v]
def bothS (a b : ByteArray) : ByteArray := ⟨#[2]⟩ ++ tagS 10 [a, b]
/-- the first byte of a text, or 0 -/
def headB (s : ByteArray) : UInt8 := (s.data.toList[0]?).getD 0
def leafB (s : ByteArray) : Bool := decide (s.size = 17) && (headB s == 1)
def joinN (a b : ByteArray) : ByteArray := if a = emptyS ∧ (b = emptyS ∨ leafB b = true) then b else if b = emptyS ∧ leafB a = true then a else bothS a b
abbrev PairS := ByteArray × ByteArray
/-- those whose bit there is b -/
def side (b d : Nat) (l : List PairS) : List PairS := l.filter fun x => bitS x.1 d == b
def nodeN : Nat → List PairS → Nat → ByteArray
  | _, [], _ => emptyS
  | _, [x], _ => leafS x.1 x.2
  | 0, _ :: _ :: _, _ => emptyS
  | f + 1, x :: y :: r, d => joinN (nodeN f (side 0 d (x :: y :: r)) (d + 1)) (nodeN f (side 1 d (x :: y :: r)) (d + 1))
theorem nodeN_nil (f d : Nat) : nodeN f [] d = emptyS := by cases f <;> rfl
theorem nodeN_one (f d : Nat) (x : PairS) : nodeN f [x] d = leafS x.1 x.2 := by cases f <;> rfl
theorem nodeN_more (f d : Nat) (l : List PairS) (h : 2 ≤ l.length) : nodeN (f + 1) l d = joinN (nodeN f (side 0 d l) (d + 1)) (nodeN f (side 1 d l) (d + 1)) := by
  match l, h with
  | x :: y :: r, _ => rfl
theorem nodeN_perm : ∀ (f : Nat) (l m : List PairS) (d : Nat), l.Perm m → nodeN f l d = nodeN f m d := by
  intro f
  induction f with
  | zero =>
    intro l m d h
    have hl := h.length_eq
    match l, m, h, hl with
    | [], [], _, _ => rfl
    | [x], [y], h, _ => rw [List.perm_singleton.1 h.symm]
    | x :: y :: r, x' :: y' :: r', _, _ => rfl
  | succ f ih =>
    intro l m d h
    have hl := h.length_eq
    by_cases h2 : 2 ≤ l.length
    · rw [nodeN_more f d l h2, nodeN_more f d m (by omega), ih (side 0 d l) (side 0 d m) _ (h.filter _), ih (side 1 d l) (side 1 d m) _ (h.filter _)]
    · match l, m, h, hl, h2 with
      | [], [], _, _, _ => rfl
      | [x], [y], h, _, _ => rw [List.perm_singleton.1 h.symm]
      | x :: y :: r, _, _, _, h2 => simp at h2
theorem tag16 (t : UInt8) (L : List ByteArray) : (tagS t L).size = 16 := tagS_size _ _
theorem leafS_size (k v : ByteArray) : (leafS k v).size = 17 := by unfold leafS; rw [ByteArray.size_append, tag16]; rfl
theorem bothS_size (a b : ByteArray) : (bothS a b).size = 17 := by unfold bothS; rw [ByteArray.size_append, tag16]; rfl
theorem head_app (c : UInt8) (t : ByteArray) : headB (⟨#[c]⟩ ++ t) = c := by
  unfold headB
  rw [ByteArray.data_append, Array.toList_append]
  rfl
theorem leafS_leaf (k v : ByteArray) : leafB (leafS k v) = true := by
  unfold leafB
  rw [leafS_size, leafS, head_app]
  decide
theorem bothS_leaf (a b : ByteArray) : leafB (bothS a b) = false := by
  unfold leafB
  rw [bothS_size, bothS, head_app]
  decide
theorem emptyS_leaf : leafB emptyS = false := by decide
theorem size_ne {a b : ByteArray} (h : a.size ≠ b.size) : a ≠ b := fun e => h (by rw [e])
theorem leafS_ne (k v : ByteArray) : leafS k v ≠ emptyS := size_ne (by rw [leafS_size]; decide)
theorem bothS_ne (a b : ByteArray) : bothS a b ≠ emptyS := size_ne (by rw [bothS_size]; decide)
/-- a node: empty, a leaf's, or another one -/
inductive NodeS : ByteArray → Prop
  | none : NodeS emptyS
  | leaf (k v : ByteArray) : NodeS (leafS k v)
  | both (a b : ByteArray) : NodeS (bothS a b)
theorem joinN_node {a b : ByteArray} (ha : NodeS a) (hb : NodeS b) : NodeS (joinN a b) := by
  unfold joinN
  split
  · exact hb
  · split
    · exact ha
    · exact .both a b
theorem nodeN_node : ∀ (f : Nat) (l : List PairS) (d : Nat), NodeS (nodeN f l d)
  | 0, [], _ => .none
  | 0, [x], _ => .leaf _ _
  | 0, _ :: _ :: _, _ => .none
  | f + 1, [], _ => .none
  | f + 1, [x], _ => .leaf _ _
  | f + 1, x :: y :: r, d => joinN_node (nodeN_node f _ _) (nodeN_node f _ _)
theorem NodeS.size {a : ByteArray} (h : NodeS a) : a.size ≤ 17 := by
  cases h
  · decide
  · rw [leafS_size]; exact Nat.le_refl _
  · rw [bothS_size]; exact Nat.le_refl _

/-- keys of 16 bytes, no two the same, that begin alike by d bits -/
structure Alike (d : Nat) (l : List PairS) : Prop where
  len : ∀ x ∈ l, x.1.size = 16
  one : l.Pairwise (fun x y => x.1 ≠ y.1)
  bits : ∀ x ∈ l, ∀ y ∈ l, ∀ i, i < d → bitS x.1 i = bitS y.1 i
theorem bits_key {a b : ByteArray} (ha : a.size = 16) (hb : b.size = 16) (h : ∀ i, i < 128 → bitS a i = bitS b i) : a = b := by
  have := bits_all a.data.toList b.data.toList 16 (by rw [Array.length_toList]; exact ha) (by rw [Array.length_toList]; exact hb) (fun i hi => h i (by omega))
  exact ByteArray.ext (Array.toList_inj.1 this)
theorem Alike.few {d : Nat} {l : List PairS} (h : Alike d l) (hd : 128 ≤ d) : l.length ≤ 1 := by
  match l, h with
  | [], _ => simp
  | [x], _ => simp
  | x :: y :: r, h =>
    exfalso
    have h1 := (List.pairwise_cons.1 h.one).1 y (by simp)
    exact h1 (bits_key (h.len x (by simp)) (h.len y (by simp)) (fun i hi => h.bits x (by simp) y (by simp) i (by omega)))
theorem Alike.sub {d : Nat} {l m : List PairS} (h : Alike d l) (hs : m.Sublist l) : Alike d m :=
  ⟨fun x hx => h.len x (hs.subset hx), h.one.sublist hs, fun x hx y hy => h.bits x (hs.subset hx) y (hs.subset hy)⟩
theorem Alike.side {d b : Nat} {l : List PairS} (h : Alike d l) : Alike (d + 1) (side b d l) := by
  have h1 := h.sub (List.filter_sublist (p := fun x => bitS x.1 d == b))
  refine ⟨h1.len, h1.one, fun x hx y hy i hi => ?_⟩
  by_cases hid : i < d
  · exact h1.bits x hx y hy i hid
  · obtain rfl : i = d := by omega
    have e1 := (List.mem_filter.1 hx).2
    have e2 := (List.mem_filter.1 hy).2
    simp at e1 e2
    rw [e1, e2]
theorem Alike.perm {d : Nat} {l m : List PairS} (h : Alike d l) (hp : l.Perm m) : Alike d m :=
  ⟨fun x hx => h.len x (hp.mem_iff.2 hx), (hp.pairwise_iff (fun {_ _} q => Ne.symm q)).1 h.one, fun x hx y hy => h.bits x (hp.mem_iff.2 hx) y (hp.mem_iff.2 hy)⟩
/-- the document's joining, by how many keys are on each side -/
theorem side_all (b d : Nat) (l : List PairS) : side b d (side b d l) = side b d l := by unfold side; rw [List.filter_filter]; congr 1; funext x; simp
theorem side_len (d : Nat) (l : List PairS) : (side 0 d l).length + (side 1 d l).length = l.length := by
  induction l with
  | nil => rfl
  | cons x r ih =>
    have hb := bitS_le x.1 d
    unfold side at ih ⊢
    by_cases h : bitS x.1 d = 0
    · simp [List.filter_cons, h]; omega
    · have h1 : bitS x.1 d = 1 := by omega
      simp [List.filter_cons, h1]; omega
end Go.Proofs.YtgaenpbdfelhhaaDoor

namespace Go.Proofs.YtgaenpbdfelhhaaDoor
open Go.RowKit Go.Maps

abbrev DatU := DataW Unit
def litK (k : ByteArray) : Lit := .string k.data.toList
/-- a map as read holds these pairs -/
structure IsM (D : DatU) (M : List PairS) : Prop where
  has : ∀ k : ByteArray, Maps.has D (litK k) = M.any (fun p => decide (p.1 = k))
  look : ∀ p ∈ M, ∀ zd, D.atKey (litK p.1) zd = .lit (.string p.2.data.toList)
  size : Maps.size D = M.length
  one : M.Pairwise (fun p q => p.1 ≠ q.1)
/-- pairs with one more, or another value -/
def setM (M : List PairS) (x : PairS) : List PairS := M.filter (fun p => !(decide (p.1 = x.1))) ++ [x]
theorem litK_inj {a b : ByteArray} (h : litK a = litK b) : a = b := by
  unfold litK at h
  injection h with h
  exact ByteArray.ext (Array.toList_inj.1 h)
theorem litK_ne {a b : ByteArray} (h : a ≠ b) : litK a ≠ litK b := fun e => h (litK_inj e)
theorem litK_key (k : ByteArray) : WideAt.IsKeyLit (litK k) := trivial
theorem isM_nil : IsM (.map []) [] := ⟨fun _ => rfl, fun p hp => by simp at hp, rfl, List.Pairwise.nil⟩
theorem one_split : ∀ (M : List PairS) (k : ByteArray), M.Pairwise (fun p q => p.1 ≠ q.1) → (M.filter (fun p => !(decide (p.1 = k)))).length + (if M.any (fun p => decide (p.1 = k)) then 1 else 0) = M.length
  | [], _, _ => rfl
  | x :: r, k, h => by
    obtain ⟨h1, h2⟩ := List.pairwise_cons.1 h
    have ih := one_split r k h2
    by_cases e : x.1 = k
    · have hn : r.any (fun p => decide (p.1 = k)) = false := by
        rw [List.any_eq_false]
        intro p hp q
        have : p.1 = k := by simpa using q
        exact h1 p hp (e.trans this.symm)
      rw [hn] at ih
      have e1 : (decide (x.1 = k)) = true := by simpa using e
      simp only [List.filter_cons, e1, List.any_cons, Bool.true_or, Bool.not_true, if_true, List.length_cons] at ih ⊢
      simp at ih ⊢
      omega
    · have e1 : (decide (x.1 = k)) = false := by simpa using e
      simp only [List.filter_cons, e1, List.any_cons, Bool.false_or, Bool.not_false, if_true, List.length_cons]
      omega
theorem setM_one {M : List PairS} (h : M.Pairwise (fun p q => p.1 ≠ q.1)) (x : PairS) : (setM M x).Pairwise (fun p q => p.1 ≠ q.1) := by
  unfold setM
  rw [List.pairwise_append]
  refine ⟨h.filter _, List.pairwise_singleton _ _, fun p hp q hq => ?_⟩
  rw [List.mem_singleton.1 hq]
  have := (List.mem_filter.1 hp).2
  simpa using this
theorem setM_any (M : List PairS) (x : PairS) (k : ByteArray) : (setM M x).any (fun p => decide (p.1 = k)) = (M.any (fun p => decide (p.1 = k)) || (decide (x.1 = k))) := by
  unfold setM
  rw [List.any_append, List.any_filter]
  by_cases e : x.1 = k
  · have e1 : (decide (x.1 = k)) = true := by simpa using e
    simp [e1]
  · have e1 : (decide (x.1 = k)) = false := by simpa using e
    simp only [List.any_cons, List.any_nil, e1, Bool.or_false]
    congr 1
    funext p
    by_cases e2 : p.1 = k
    · have e3 : (decide (p.1 = x.1)) = false := by simp; exact fun q => e (q.symm.trans e2)
      rw [e3]; simp
    · have e3 : (decide (p.1 = k)) = false := by simpa using e2
      rw [e3]; simp
theorem IsM.put {D : DatU} {M : List PairS} (h : IsM D M) (ht : Tidy D) (x : PairS) : IsM (D.put (litK x.1) (.lit (.string x.2.data.toList))) (setM M x) := by
  have hm := ht.isMap
  refine ⟨fun k => ?_, fun p hp zd => ?_, ?_, setM_one h.one x⟩
  · rw [setM_any]
    by_cases e : k = x.1
    · subst e
      rw [has_put_same hm (litK_key _)]
      simp
    · rw [has_put_other (litK_ne e), h.has]
      have e1 : (decide (x.1 = k)) = false := by simp; exact fun q => e q.symm
      rw [e1, Bool.or_false]
  · rcases List.mem_append.1 hp with hp | hp
    · have h1 := List.mem_filter.1 hp
      have h2 : p.1 ≠ x.1 := by have := h1.2; simpa using this
      rw [atKey_put_other (litK_ne h2)]
      exact h.look p h1.1 zd
    · rw [List.mem_singleton.1 hp]
      exact atKey_put_same hm (litK_key _) _ _
  · have h1 := one_split M x.1 h.one
    have h2 := size_put ht (k := litK x.1) (.lit (.string x.2.data.toList))
    rw [h.has, h.size] at h2
    rw [h2]
    unfold setM
    rw [List.length_append, List.length_singleton]
    cases hh : M.any (fun p => decide (p.1 = x.1)) with
    | true => rw [hh, if_pos rfl] at h1; rw [if_pos rfl]; omega
    | false => rw [hh, if_neg (by decide)] at h1; rw [if_neg (by decide)]; omega
theorem ownsMap_exact {P : Program} {k : TypeId} {R : Value → Option (DatU × List MemPlace)} {w : World} {b n : Nat} {D : DatU} (h : w.ownsMap P k R b n D) : w.ownsMap P k R b (Maps.size D) D := by
  obtain ⟨es, clock, hb, F, hs, rfl⟩ := h
  exact ⟨es, clock, hb, F, by simp [Maps.size, length_sorted], rfl⟩
theorem plainElem_string_inv {P : Program} {e : TypeId} (he : P.underlying e = some .string) {v : Value} {z : DatU × List MemPlace} (h : plainElem P e v = some z) : ∃ s : ByteArray, v = .string s ∧ z = (.lit (.string s.data.toList), []) ∧ s.size ≤ maxLen := by
  unfold plainElem at h
  rw [he] at h
  cases v <;> simp at h
  obtain ⟨h1, rfl⟩ := h
  exact ⟨_, rfl, rfl, h1⟩
noncomputable def strR : Value → Option (DatU × List MemPlace) := plainElem Tryd.prog 9
theorem strK : Keyed Tryd.prog 9 := string_keyed Tryd.underlying9
theorem strR_mk (s : ByteArray) (h : s.size ≤ maxLen) : strR (.string s) = some (.lit (.string s.data.toList), []) := plainElem_string Tryd.underlying9 h
theorem strR_inv {v : Value} {z : DatU × List MemPlace} (h : strR v = some z) : ∃ s : ByteArray, v = .string s ∧ z = (.lit (.string s.data.toList), []) ∧ s.size ≤ maxLen := plainElem_string_inv Tryd.underlying9 h
theorem keyV (k : ByteArray) (h : k.size ≤ maxLen) : keyOf Tryd.prog 9 (.string k) = some (litK k) := WideMaps.keyOf_string_mk Tryd.underlying9 h
/-- block b is a tree of the pairs M; its blocks lie from n0 on, none of them is one of X -/
structure TreeAt (n0 : Nat) (X : List Nat) (w : World) (b : Nat) (M : List PairS) (mv : Value) : Prop where
  blk : w.heap[b]? = some (.cells #[mv] 71 (0, 0))
  own : n0 ≤ b ∧ b ∉ X
  map : (mv = .map none ∧ M = []) ∨ ∃ mb D, mv = .map (some mb) ∧ n0 ≤ mb ∧ mb ∉ X ∧ w.ownsMap Tryd.prog 9 strR mb M.length D ∧ IsM D M
def TreeK (n0 : Nat) (X : List Nat) (w : World) (b : Nat) (M : List PairS) : Prop := ∃ mv, TreeAt n0 X w b M mv
theorem TreeAt.lt {n0 : Nat} {X : List Nat} {w : World} {b : Nat} {M : List PairS} {mv : Value} (h : TreeAt n0 X w b M mv) : b < w.heap.size := (Array.getElem?_eq_some_iff.1 h.blk).1
theorem TreeAt.one {n0 : Nat} {X : List Nat} {w : World} {b : Nat} {M : List PairS} {mv : Value} (h : TreeAt n0 X w b M mv) : M.Pairwise (fun p q => p.1 ≠ q.1) := by
  rcases h.map with ⟨_, rfl⟩ | ⟨_, _, _, _, _, _, hm⟩
  · exact List.Pairwise.nil
  · exact hm.one
/-- blocks of the caller's own turn, and new ones join them -/
theorem TreeK.turn {n0 : Nat} {X Y : List Nat} {S : Nat → Prop} {w w' : World} {b : Nat} {M : List PairS} (h : TreeK n0 X w b M) (k : Turn S w w') (hS : ∀ i, i < w.heap.size → S i → i ∈ X) (hY : ∀ i ∈ Y, i ∈ X ∨ w.heap.size ≤ i) : TreeK n0 Y w' b M := by
  obtain ⟨mv, hb, ho, hm⟩ := h
  have hbl : b < w.heap.size := (Array.getElem?_eq_some_iff.1 hb).1
  refine ⟨mv, k.heap hb (fun q => ho.2 (hS b hbl q)), ⟨ho.1, fun q => ?_⟩, ?_⟩
  · rcases hY b q with q | q
    · exact ho.2 q
    · omega
  · rcases hm with hm | ⟨mb, D, rfl, h1, h2, h3, h4⟩
    · exact .inl hm
    · have hml := h3.lt
      refine .inr ⟨mb, D, rfl, h1, fun q => ?_, ?_, h4⟩
      · rcases hY mb q with q | q
        · exact h2 q
        · omega
      · obtain ⟨es, clock, hb3, r⟩ := h3
        exact ⟨es, clock, k.heap hb3 (fun q => h2 (hS mb hml q)), r⟩
theorem TreeK.grown {n0 : Nat} {X : List Nat} {w w' : World} {b : Nat} {M : List PairS} (h : TreeK n0 X w b M) (k : w.grownBy w' none) : TreeK n0 X w' b M :=
  h.turn (S := fun _ => False) (Turn.of_grown k) (fun _ _ q => q.elim) (fun _ hi => .inl hi)
theorem TreeK.more {n0 : Nat} {X Y : List Nat} {w w' : World} {b : Nat} {M : List PairS} (h : TreeK n0 X w b M) (k : w.grownBy w' none) (hY : ∀ i ∈ Y, i ∈ X ∨ w.heap.size ≤ i) : TreeK n0 Y w' b M :=
  h.turn (S := fun _ => False) (Turn.of_grown k) (fun _ _ q => q.elim) hY
theorem TreeK.lt {n0 : Nat} {X : List Nat} {w : World} {b : Nat} {M : List PairS} (h : TreeK n0 X w b M) : b < w.heap.size := by obtain ⟨_, h⟩ := h; exact h.lt
theorem TreeK.one {n0 : Nat} {X : List Nat} {w : World} {b : Nat} {M : List PairS} (h : TreeK n0 X w b M) : M.Pairwise (fun p q => p.1 ≠ q.1) := by obtain ⟨_, h⟩ := h; exact h.one
/-- the value of a key, or the empty text -/
def valM (M : List PairS) (k : ByteArray) : ByteArray := ((M.find? (fun p => decide (p.1 = k))).map Prod.snd).getD ⟨#[]⟩
def hasM (M : List PairS) (k : ByteArray) : Bool := M.any (fun p => decide (p.1 = k))
theorem valM_mem : ∀ {M : List PairS}, M.Pairwise (fun p q => p.1 ≠ q.1) → ∀ x ∈ M, valM M x.1 = x.2
  | [], _, x, hx => by simp at hx
  | y :: r, h, x, hx => by
    obtain ⟨h1, h2⟩ := List.pairwise_cons.1 h
    unfold valM
    rcases List.mem_cons.1 hx with rfl | hx'
    · simp
    · have hne : (decide (y.1 = x.1)) = false := by simpa using h1 x hx'
      rw [List.find?_cons, hne]
      exact valM_mem h2 x hx'
theorem valM_none {M : List PairS} {k : ByteArray} (h : hasM M k = false) : valM M k = ⟨#[]⟩ := by
  unfold valM
  unfold hasM at h
  rw [List.find?_eq_none.2]
  · rfl
  · intro x hx
    have := List.any_eq_false.1 h x hx
    simpa using this
theorem IsM.val {D : DatU} {M : List PairS} (h : IsM D M) (k : ByteArray) : D.atKey (litK k) (.lit (.string [])) = .lit (.string (valM M k).data.toList) := by
  cases hh : hasM M k with
  | true =>
    obtain ⟨p, hp, hk⟩ := List.any_eq_true.1 hh
    obtain rfl : p.1 = k := by simpa using hk
    rw [h.look p hp, valM_mem h.one p hp]
  | false =>
    rw [valM_none hh, atKey_of_not_has (by rw [h.has]; exact hh)]
end Go.Proofs.YtgaenpbdfelhhaaDoor

namespace Go.Proofs.YtgaenpbdfelhhaaDoor
open Go.RowKit Go.Maps
attribute [local irreducible] shaL

theorem zeroStr (w : World) : (zeroValue 9).run Tryd.prog w = .ok (.string ⟨#[]⟩) w := by kernel_rfl
theorem map_ne (mb : Nat) (w : World) : (binOp .eql 69 (.map (some mb)) (.map none)).run Tryd.prog w = .ok (.bool false) w := by kernel_rfl
theorem map_eq (w : World) : (binOp .eql 69 (.map none) (.map none)).run Tryd.prog w = .ok (.bool true) w := by kernel_rfl
theorem tnew_any (n0 : Nat) (X : List Nat) (w : World) (hX : ∀ x ∈ X, x < w.heap.size) (hn0 : n0 ≤ w.heap.size) : Calls Tryd.prog 8 #[] w fun e w' => e = .returned (.pointer (some ⟨w.heap.size, 0, none⟩)) ∧ TreeK n0 X w' w.heap.size [] ∧ w.grownBy w' none := by
  have HX := Lib.hid (And.intro hX hn0)
  clear hX hn0
  go_enter Tryd.func8, Tryd.ntmps8
  go_wp2_with fail
  go_ret
  refine ⟨rfl, ⟨_, heap_alloc_at _ _ _ rfl, ⟨HX.out.2, fun q => ?_⟩, .inl ⟨rfl, rfl⟩⟩, World.grownBy_alloc _ _ _⟩
  have := HX.out.1 _ q
  omega
set_option maxRecDepth 100000 in
theorem tput_any (n0 : Nat) (X : List Nat) (w : World) (b : Nat) (M : List PairS) (k v : ByteArray) (hT : TreeK n0 X w b M) (hX : ∀ x ∈ X, x < w.heap.size) (hn0 : n0 ≤ w.heap.size) (hk : k.size = 16) (hv : v.size ≤ 1000000) (hM : M.length < 1000000) :
    Calls Tryd.prog 9 #[.pointer (some ⟨b, 0, none⟩), .string k, .string v] w fun e w' => e = .returned (.int .i64 0) ∧ TreeK n0 X w' b (setM M (k, v)) ∧ Turn (rest n0 X) w w' := by
  obtain ⟨mv, hb, ho, hm⟩ := hT
  have hk16 : (k.size : Int) = 16 := by omega
  have hkey := keyV k (by unfold maxLen; omega)
  have hval := strR_mk v (by unfold maxLen; omega)
  have c0 := cell_of hb 0
  have f0 := free_of hb 0
  simp at c0
  have hlb : b < w.heap.size := (Array.getElem?_eq_some_iff.1 hb).1
  rcases hm with ⟨rfl, rfl⟩ | ⟨mb, D, rfl, h1, h2, h3, h4⟩
  · have HB := Lib.hid (And.intro hb (And.intro ho (And.intro hX (And.intro hn0 hlb))))
    have hmm := @run_makeMap Tryd.prog
    have he := map_eq
    have hown : ((w.alloc (.map #[] 0)).setCell ⟨b, 0, none⟩ (.map (some w.heap.size))).ownsMap Tryd.prog 9 strR w.heap.size 0 (.map []) := (World.ownsMap_made w Tryd.prog 9 strR).setCell (by show w.heap.size ≠ b; omega) _
    have HK := Lib.hid (And.intro hown (And.intro hkey hval))
    have hblk : ((w.alloc (.map #[] 0)).setCell ⟨b, 0, none⟩ (.map (some w.heap.size))).heap[b]? = some (.cells #[.map (some w.heap.size)] 71 (0, 0)) := heap_setCell (Below.heap_alloc _ _ _ hlb |>.trans hb) 0 _
    have HBK := Lib.hid hblk
    have d0 : ((w.alloc (.map #[] 0)).setCell ⟨b, 0, none⟩ (.map (some w.heap.size))).cell? ⟨b, 0, none⟩ = some (.map (some w.heap.size)) := cell_of hblk 0
    have c0a : (w.alloc (.map #[] 0)).cell? ⟨b, 0, none⟩ = some (.map none) := (World.cell?_alloc_lt _ _ _ hlb).trans c0
    have f0a : (w.alloc (.map #[] 0)).frozen? ⟨b, 0, none⟩ = false := free_of (Below.heap_alloc _ _ _ hlb |>.trans hb) 0
    have t1 : Turn (fun i => i = b) w ((w.alloc (.map #[] 0)).setCell ⟨b, 0, none⟩ (.map (some w.heap.size))) := ((Turn.refl (fun i => i = b) w).alloc _).setCell (fun _ => rfl) _ _
    have HT1 := Lib.hid t1
    clear hb ho hX hn0 hown hkey hval hblk t1 hk hv hM
    have hlb2 := Lib.hid hlb
    clear hlb
    go_enter Tryd.func9, Tryd.ntmps9
    go_wp2_with (at_mapUpdate; refine wpList_mapUpdate_own _ rfl _ _ _ 69 rfl 9 9 strK Tryd.underlying69 strR w.heap.size 0 (.map []) rfl HK.out.1 (by unfold maxLen; omega) _ _ _ rfl rfl HK.out.2.1 _ [] HK.out.2.2 ?_; intro w2 hown2 hg2)
    have HO2 := Lib.hid hown2
    have HG2 := Lib.hid hg2
    clear hown2 hg2
    go_wp2_with fail
    go_ret
    generalize hSZ : w.heap.size = SZ at HO2 HG2 HBK HT1 hlb2
    generalize (w.alloc (.map #[] 0)).setCell ⟨b, 0, none⟩ (.map (some SZ)) = w1 at HG2 HBK HT1
    have hlt2 : b < w.heap.size := HB.out.2.2.2.2
    refine ⟨rfl, ⟨.map (some SZ), (HG2.out.block b (by have := HT1.out.size; omega) (by simp; omega)).trans HBK.out, HB.out.2.1, .inr ⟨SZ, _, rfl, by have := HB.out.2.2.2.1; omega, fun q => by have := HB.out.2.2.1 _ q; omega, HO2.out, isM_nil.put tidy_empty (k, v)⟩⟩, ?_⟩
    have t2 : Turn (fun i => i = b ∨ i = SZ) w w2 := (HT1.out.mono (fun i _ q => .inl q)).row HG2.out (fun i _ e => .inr (by injection e with e; exact e.symm))
    refine t2.mono (fun i hi q => ?_)
    rcases q with rfl | q
    · exact HB.out.2.1
    · omega
  · have HB := Lib.hid (And.intro hb (And.intro ho (And.intro hX (And.intro hn0 hlb))))
    have he := map_ne mb
    have HK := Lib.hid (And.intro h3 (And.intro hkey hval))
    have HI := Lib.hid (And.intro h1 (And.intro h2 h4))
    have hMl : M.length < maxLen := by unfold maxLen; omega
    clear hb ho hX hn0 hlb h1 h2 h3 h4 hkey hval hk hv hM
    go_enter Tryd.func9, Tryd.ntmps9
    go_wp2_with (at_mapUpdate; refine wpList_mapUpdate_own _ rfl _ _ _ 69 rfl 9 9 strK Tryd.underlying69 strR mb M.length D rfl HK.out.1 hMl _ _ _ rfl rfl HK.out.2.1 _ [] HK.out.2.2 ?_; intro w2 hown2 hg2)
    have HO2 := Lib.hid hown2
    have HG2 := Lib.hid hg2
    clear hown2 hg2
    go_wp2_with fail
    go_ret
    have hmb : mb ≠ b := by
      intro e
      obtain ⟨es, cl, h5, _⟩ := HK.out.1
      rw [e, HB.out.1] at h5
      cases h5
    have hi := HI.out.2.2.put (HK.out.1.tidy strK) (k, v)
    refine ⟨rfl, ⟨.map (some mb), (HG2.out.block b HB.out.2.2.2.2 (by simp; exact fun q => hmb q.symm)).trans HB.out.1, HB.out.2.1, .inr ⟨mb, _, rfl, HI.out.1, HI.out.2.1, ?_, hi⟩⟩, (Turn.refl _ w).row HG2.out (fun i _ e => ?_)⟩
    · have h6 := ownsMap_exact HO2.out
      rw [hi.size] at h6
      exact h6
    · injection e with e
      subst e
      exact ⟨HI.out.1, HI.out.2.1⟩
end Go.Proofs.YtgaenpbdfelhhaaDoor

namespace Go.Proofs.YtgaenpbdfelhhaaDoor
open Go.RowKit
attribute [local irreducible] shaL

theorem grown_row {a b c : World} {row : Option Nat} (h : a.grownBy b none) (k : b.grownBy c row) (hn : ∀ g, row = some g → a.heap.size ≤ g) : a.grownBy c none :=
  ⟨k.os.trans h.os, k.tape.trans h.tape, k.output.trans h.output, Nat.le_trans h.size k.size, fun i hi hne => (k.block i (Nat.lt_of_lt_of_le hi h.size) (by intro e; have := hn i e.symm; omega)).trans (h.block i hi hne)⟩
theorem ShaReady.grown {w w' : World} (h : ShaReady w) (hg : w.grownBy w' none) : ShaReady w' := h.kept hg (by simp) (by simp)

/-- sha.Tagged of texts in a new block -/
theorem tagged_new (w : World) (tag : UInt8) (L : List ByteArray) (vs : List Value) (n : Nat) (tg : Int) (hv : vs = L.map Value.string) (hn : n = L.length) (ht : (tag.toNat : Int) = tg) (hr : ShaReady w) (hN : L.length ≤ 1000) (hs : ∀ s ∈ L, s.size ≤ 1000000000000) :
    Calls Tryd.prog 45 #[.int .u8 tg, .slice (some ⟨w.heap.size, 0, none⟩) n n] (w.alloc (.cells vs.toArray 9)) fun e w' => e = .returned (.string (tagS tag L)) ∧ w.grownBy w' none := by
  subst hv
  subst ht
  refine (tagged_any _ tag _ L (strs_new w L 9 n hn) (hr.grown (World.grownBy_alloc _ _ _)) (by unfold maxLen; omega) ?_).mono fun e w' h => ⟨h.1, grownBy_trans (World.grownBy_alloc _ _ _) h.2⟩
  have := tagB_length tag L _ hs
  have h2 : L.length * (4 + 1000000000000) ≤ 1000 * (4 + 1000000000000) := Nat.mul_le_mul_right _ hN
  omega

end Go.Proofs.YtgaenpbdfelhhaaDoor

namespace Go.Proofs.YtgaenpbdfelhhaaDoor
open Go.RowKit Go.Maps
attribute [local irreducible] shaL

set_option maxRecDepth 100000 in
theorem tleaf_any (k v : ByteArray) (hk : k.size ≤ 1000000000) (hv : v.size ≤ 1000000000) (w : World) (hr : ShaReady w) :
    Calls Tryd.prog 79 #[.string k, .string v] w fun e w' => e = .returned (.string (leafS k v)) ∧ w.grownBy w' none := by
  have ht := Lib.hid (tagged_new w 9 [k, v] _ 2 9 rfl rfl rfl hr (by simp) (by
    intro s hs'
    simp at hs'
    rcases hs' with rfl | rfl <;> omega))
  have h16 := tag16 9 [k, v]
  have hL : leafS k v = ⟨#[1]⟩ ++ tagS 9 [k, v] := rfl
  rw [hL]
  generalize tagS 9 [k, v] = T at ht h16
  have q1 : (9223372036854775807 < (⟨#[1]⟩ : ByteArray).size + T.size) = False := eq_false (by rw [h16]; decide)
  have q2 : (9223372036854775807 < 1 + T.size) = False := eq_false (by rw [h16]; decide)
  clear hr hL h16
  go_enter Tryd.func79, Tryd.ntmps79
  go_wp2_with fail
  refine ht.out.mono ?_
  rintro e w1 ⟨rfl, g1⟩
  have G1 := Lib.hid g1
  clear g1
  go_wp2_with fail
  go_ret
  exact ⟨rfl, G1.out⟩
theorem head_one (s : ByteArray) (h : 1 ≤ s.size) : ((s.extract 0 1).toList == [1]) = (headB s == 1) := by
  obtain ⟨⟨l⟩⟩ := s
  rw [ByteArray.toList_eq]
  match l, h with
  | [], h => exact absurd h (by decide)
  | x :: r, _ =>
    have e : (ByteArray.extract ⟨⟨x :: r⟩⟩ 0 1).data.toList = [x] := by
      rw [ByteArray.data_extract, Array.toList_extract]
      rfl
    rw [e]
    show ([x] == [1]) = (x == 1)
    rw [Bool.eq_iff_iff]
    simp
theorem isLeaf_any (s : ByteArray) (hs : s.size ≤ maxLen) (w : World) : Calls Tryd.prog 82 #[.string s] w fun e w' => e = .returned (.bool (leafB s)) ∧ w = w' := by
  unfold maxLen at hs
  by_cases h : s.size = 17
  · have h1 : ((s.size : Int) == 17) = true := by simp; omega
    have h2 : (1 : Int) ≤ (s.size : Int) := by omega
    have hb : leafB s = ((s.extract 0 1).toList == [1]) := by rw [head_one s (by omega)]; unfold leafB; simp [h]
    rw [hb]
    clear hb
    go_enter Tryd.func82, Tryd.ntmps82
    go_wp2_with fail
    go_ret
    exact ⟨rfl, rfl⟩
  · have h1 : ((s.size : Int) == 17) = false := by simp; omega
    have hb : leafB s = false := by unfold leafB; simp [h]
    rw [hb]
    clear hb
    go_enter Tryd.func82, Tryd.ntmps82
    go_wp2_with fail
    go_ret
    exact ⟨rfl, rfl⟩
theorem is_empty (s : ByteArray) : (s.toList == [0]) = decide (s = emptyS) := by
  rw [ByteArray.toList_eq, Bool.eq_iff_iff, beq_iff_eq, decide_eq_true_iff]
  constructor
  · intro h
    exact ByteArray.ext (Array.toList_inj.1 (h.trans rfl))
  · rintro rfl
    rfl
set_option maxRecDepth 100000 in
theorem join_any (a b : ByteArray) (ha : a.size ≤ 1000000000) (hb : b.size ≤ 1000000000) (w : World) (hr : ShaReady w) :
    Calls Tryd.prog 60 #[.string a, .string b] w fun e w' => e = .returned (.string (joinN a b)) ∧ w.grownBy w' none := by
  have ht : Hid (∀ w0, w.grownBy w0 none → Calls Tryd.prog 45 #[.int .u8 10, .slice (some ⟨w0.heap.size, 0, none⟩) 2 2] (w0.alloc (.cells #[.string a, .string b] 9)) fun e w' => e = .returned (.string (tagS 10 [a, b])) ∧ w0.grownBy w' none) := Lib.hid (fun w0 g => tagged_new w0 10 [a, b] _ 2 10 rfl rfl rfl (hr.grown g) (by simp) (by
    intro s hs'
    simp at hs'
    rcases hs' with rfl | rfl <;> omega))
  have hla := Lib.hid (fun w0 => isLeaf_any a (by unfold maxLen; omega) w0)
  have hlb := Lib.hid (fun w0 => isLeaf_any b (by unfold maxLen; omega) w0)
  have h16 := tag16 10 [a, b]
  have hB : bothS a b = ⟨#[2]⟩ ++ tagS 10 [a, b] := rfl
  have HJ := Lib.hid (show joinN a b = if a = emptyS ∧ (b = emptyS ∨ leafB b = true) then b else if b = emptyS ∧ leafB a = true then a else bothS a b from rfl)
  generalize joinN a b = J at HJ ⊢
  rw [hB] at HJ
  generalize tagS 10 [a, b] = T at ht h16 HJ
  have q1 : (9223372036854775807 < (⟨#[2]⟩ : ByteArray).size + T.size) = False := eq_false (by rw [h16]; decide)
  have q2 : (9223372036854775807 < 1 + T.size) = False := eq_false (by rw [h16]; decide)
  have ea := is_empty a
  have eb := is_empty b
  obtain ⟨la, hlae⟩ : ∃ x, leafB a = x := ⟨_, rfl⟩
  obtain ⟨lb, hlbe⟩ : ∃ x, leafB b = x := ⟨_, rfl⟩
  rw [hlae] at hla HJ
  rw [hlbe] at hlb HJ
  clear hr hB h16 hlae hlbe
  by_cases h1 : a = emptyS
  · have ea1 : (a.toList == [0]) = true := by rw [ea]; simpa using h1
    by_cases h2 : b = emptyS
    · have eb1 : (b.toList == [0]) = true := by rw [eb]; simpa using h2
      have hj : J = b := by rw [HJ.out, if_pos ⟨h1, .inl h2⟩]
      subst hj
      clear ea eb h1 h2 HJ
      go_enter Tryd.func60, Tryd.ntmps60
      go_wp2_with fail
      go_ret
      exact ⟨rfl, World.grownBy.refl _ _⟩
    · have eb1 : (b.toList == [0]) = false := by rw [eb]; simpa using h2
      cases lb
      · have hj : J = ⟨#[2]⟩ ++ T := by rw [HJ.out, if_neg (by simp [h2]), if_neg (by simp [h2])]
        subst hj
        clear ea eb h1 h2 HJ
        go_enter Tryd.func60, Tryd.ntmps60
        go_wp2_with fail
        refine (hlb.out _).mono ?_
        rintro e w1 ⟨rfl, rfl⟩
        go_wp2_with fail
        refine (ht.out _ (World.grownBy.refl _ _)).mono ?_
        rintro e w2 ⟨rfl, g2⟩
        have G2 := Lib.hid g2
        clear g2
        go_wp2_with fail
        go_ret
        exact ⟨rfl, G2.out⟩
      · have hj : J = b := by rw [HJ.out, if_pos ⟨h1, .inr rfl⟩]
        subst hj
        clear ea eb h1 h2 HJ
        go_enter Tryd.func60, Tryd.ntmps60
        go_wp2_with fail
        refine (hlb.out _).mono ?_
        rintro e w1 ⟨rfl, rfl⟩
        go_wp2_with fail
        go_ret
        exact ⟨rfl, World.grownBy.refl _ _⟩
  · have ea1 : (a.toList == [0]) = false := by rw [ea]; simpa using h1
    by_cases h2 : b = emptyS
    · have eb1 : (b.toList == [0]) = true := by rw [eb]; simpa using h2
      cases la
      · have hj : J = ⟨#[2]⟩ ++ T := by rw [HJ.out, if_neg (by simp [h1]), if_neg (by simp)]
        subst hj
        clear ea eb h1 h2 HJ
        go_enter Tryd.func60, Tryd.ntmps60
        go_wp2_with fail
        refine (hla.out _).mono ?_
        rintro e w1 ⟨rfl, rfl⟩
        go_wp2_with fail
        refine (ht.out _ (World.grownBy.refl _ _)).mono ?_
        rintro e w2 ⟨rfl, g2⟩
        have G2 := Lib.hid g2
        clear g2
        go_wp2_with fail
        go_ret
        exact ⟨rfl, G2.out⟩
      · have hj : J = a := by rw [HJ.out, if_neg (by simp [h1]), if_pos ⟨h2, rfl⟩]
        subst hj
        clear ea eb h1 h2 HJ
        go_enter Tryd.func60, Tryd.ntmps60
        go_wp2_with fail
        refine (hla.out _).mono ?_
        rintro e w1 ⟨rfl, rfl⟩
        go_wp2_with fail
        go_ret
        exact ⟨rfl, World.grownBy.refl _ _⟩
    · have eb1 : (b.toList == [0]) = false := by rw [eb]; simpa using h2
      have hj : J = ⟨#[2]⟩ ++ T := by rw [HJ.out, if_neg (by simp [h1]), if_neg (by simp [h2])]
      subst hj
      clear ea eb h1 h2 HJ
      go_enter Tryd.func60, Tryd.ntmps60
      go_wp2_with fail
      refine (ht.out _ (World.grownBy.refl _ _)).mono ?_
      rintro e w2 ⟨rfl, g2⟩
      have G2 := Lib.hid g2
      clear g2
      go_wp2_with fail
      go_ret
      exact ⟨rfl, G2.out⟩
end Go.Proofs.YtgaenpbdfelhhaaDoor

namespace Go.Proofs.YtgaenpbdfelhhaaDoor
open Go.RowKit

def strsV (L : List ByteArray) : List Value := L.map Value.string
theorem strsV_length (L : List ByteArray) : (strsV L).length = L.length := by simp [strsV]
theorem infoStrW : (Tryd.prog.info? 9).map (fun i => (i.zero, i.size, i.bytes)) = some (some (.string ⟨#[]⟩), 1, 16) := by kernel_rfl
theorem strs_own {w : World} {B n : Nat} {a : Option Addr} {cap : Nat} {L : List ByteArray} (h : w.ownsRow B 9 1 (.slice a n cap) n (strsV L)) : StrsAt w (.slice a n cap) L := by
  have hl := h.1
  simp [strsV] at hl
  subst hl
  refine ⟨a, cap, rfl, fun i hi => ?_⟩
  rcases h.2 with ⟨_, h0⟩ | ⟨g, cap', cur, he, hB, hg, hnc, hm, hcs, htake⟩
  · omega
  · cases he
    refine ⟨g, 0, rfl, ?_⟩
    rw [Nat.zero_add, cell_of hg]
    have : (strsV L)[i]? = some (.string L[i]) := by simp [strsV, List.getElem?_eq_getElem hi]
    rw [← htake, List.getElem?_take, if_pos (by omega)] at this
    simpa using this
theorem StrsAt.grown {w w' : World} {v : Value} {L : List ByteArray} (h : StrsAt w v L) (hg : w.grownBy w' none) : StrsAt w' v L := h.kept (below_grownBy hg)
theorem StrsAt.form {w : World} {v : Value} {L : List ByteArray} (h : StrsAt w v L) : ∃ a cap, v = .slice a L.length cap := by
  obtain ⟨a, cap, rfl, _⟩ := h
  exact ⟨a, cap, rfl⟩
theorem StrsAt.at_ {w : World} {a : Option Addr} {n cap : Nat} {L : List ByteArray} (h : StrsAt w (.slice a n cap) L) (i : Nat) (x : ByteArray) (hx : L[i]? = some x) : ∃ g o, a = some ⟨g, o, none⟩ ∧ w.cell? ⟨g, o + i, none⟩ = some (.string x) := by
  obtain ⟨a', cap', he, hc⟩ := h
  cases he
  obtain ⟨hi, rfl⟩ := List.getElem?_eq_some_iff.1 hx
  exact hc i hi
theorem made_strs (n : Nat) : (madeCells #[Value.string ⟨#[]⟩] n).toList = strsV (List.replicate n ⟨#[]⟩) := by
  apply List.ext_getElem?
  intro i
  simp [madeCells, strsV, List.getElem?_replicate]
  by_cases h : i < n <;> simp [h, Nat.mod_one]
/-- a list being filled: what is done, then empty texts -/
def fillS (L : List ByteArray) (n : Nat) : List ByteArray := L ++ List.replicate (n - L.length) ⟨#[]⟩
theorem fillS_put (L : List ByteArray) (n : Nat) (x : ByteArray) (h : L.length < n) : (strsV (fillS L n)).set L.length (.string x) = strsV (fillS (L ++ [x]) n) := by
  have e : strsV (fillS L n) = strsV L ++ (.string ⟨#[]⟩) :: strsV (List.replicate (n - (L.length + 1)) ⟨#[]⟩) := by
    rw [fillS, show n - L.length = (n - (L.length + 1)) + 1 from by omega, List.replicate_succ]
    simp [strsV]
  have hl := strsV_length L
  rw [e, List.set_append_right _ _ (by omega), hl, Nat.sub_self, List.set_cons_zero]
  simp [strsV, fillS]
theorem fillS_at (L : List ByteArray) (n : Nat) (h : L.length < n) : (strsV (fillS L n))[L.length]? = some (.string ⟨#[]⟩) := by
  have hl := strsV_length L
  rw [fillS, show n - L.length = (n - (L.length + 1)) + 1 from by omega, List.replicate_succ]
  simp only [strsV, List.map_append, List.map_cons]
  rw [List.getElem?_append_right (by simp), List.length_map, Nat.sub_self]
  rfl
theorem fillS_full (L : List ByteArray) (n : Nat) (h : L.length = n) : fillS L n = L := by
  rw [fillS, h, Nat.sub_self]
  simp

theorem StrsAt.news {w : World} {g o n cap : Nat} {L : List ByteArray} (h : StrsAt w (.slice (some ⟨g, o, none⟩) n cap) L) : ∀ j u, (strsV L)[j]? = some u → w.cell? ((⟨g, o, none⟩ : Addr).add j) = some u := by
  intro j u hj
  have hj' : j < L.length := by have := (List.getElem?_eq_some_iff.1 hj).1; rwa [strsV_length] at this
  obtain ⟨g', o', he, hc⟩ := h.at_ j _ (List.getElem?_eq_getElem hj')
  cases he
  rw [show Addr.add ⟨g, o, none⟩ j = (⟨g, o + j, none⟩ : Addr) from by simp [Addr.add], hc, ← hj]
  simp [strsV, List.getElem?_eq_getElem hj']
theorem strsV_one (L : List ByteArray) : ∀ u ∈ strsV L, u.oneCell' = true := by
  intro u hu
  obtain ⟨x, _, rfl⟩ := List.mem_map.1 hu
  rfl
theorem slice_own' {w : World} {B n : Nat} {t : TypeId} {v : Value} {xs : List Value} (h : w.ownsRow B t 1 v n xs) : ∃ a cap, v = .slice a n cap := by
  rcases h.2 with ⟨rfl, rfl⟩ | ⟨g, cap, cur, rfl, _⟩
  · exact ⟨none, 0, rfl⟩
  · exact ⟨_, _, rfl⟩

theorem StrsAt.lt {w : World} {g o n c : Nat} {L : List ByteArray} (h : StrsAt w (.slice (some ⟨g, o, none⟩) n c) L) (h0 : 0 < L.length) : g < w.heap.size := by
  obtain ⟨g', o', e, hc⟩ := h.at_ 0 _ (List.getElem?_eq_getElem h0)
  cases e
  exact cell_lt hc

theorem push_strs (P : List ByteArray) (x : ByteArray) : strsV P ++ [.string x] = strsV (P ++ [x]) := by simp [strsV]
theorem lit_one (w : World) (x : ByteArray) : ∀ j u, [Value.string x][j]? = some u → (w.alloc (.cells #[.string x] 9)).cell? ((⟨w.heap.size, 0, none⟩ : Addr).add j) = some u := by
  intro j u hj
  cases j with
  | zero =>
    simp at hj
    subst hj
    exact cell_of (heap_alloc_at _ _ _ rfl) 0
  | succ j => simp at hj
end Go.Proofs.YtgaenpbdfelhhaaDoor

namespace Go.Proofs.YtgaenpbdfelhhaaDoor
open Go.RowKit Go.Maps
attribute [local irreducible] shaL

/-- a node of bytes, of which the first is this one -/
def beginsB (s : ByteArray) (m : UInt8) : Bool := decide (s.size = 17) && (headB s == m)
end Go.Proofs.YtgaenpbdfelhhaaDoor

namespace Go.Proofs.YtgaenpbdfelhhaaDoor
open Go.RowKit

set_option maxRecDepth 100000 in
set_option maxHeartbeats 8000000 in
theorem round5 {w wr : World} {bk bh A k j at' : Nat} {u : ByteArray} {blk : List UInt8} {L : List Nat} {x_1 x_2 x_3 x_4 x_5 x_6 x_11 x_12 x_13 x_14 x_15 x_16 x_17 x_18 x_19 x_20 x_21 x_22 x_23 x_24 x_25 x_26 x_27 x_28 x_29 x_30 x_31 x_32 x_33 x_34 x_35 x_36 x_37 x_38 x_39 x_40 x_41 x_42 x_43 x_44 x_45 x_46 x_47 x_48 x_49 x_50 x_51 x_52 x_53 x_54 x_55 x_56 x_57 x_58 x_59 x_60 x_61 x_62 x_63 x_64 x_65 x_66 x_67 x_68 x_69 x_70 x_71 x_72 x_73 x_74 x_75 x_76 x_77 x_78 x_79 x_80 x_81 x_82 x_83 x_84 x_85 x_86 x_87 x_88 x_89 x_90 x_91 x_92 x_93 x_94 x_95 x_96 x_97 x_98 x_99 x_100 x_101 x_102 x_103 x_104 x_105 x_106 x_107 x_108 x_109 x_110 x_111 x_112 x_113 x_114 x_115 x_116 x_117 x_118 x_119 x_120 x_121 x_122 x_123 x_124 x_125 x_126 x_127 x_128 x_129 x_130 x_131 x_132 x_133 x_134 x_135 x_136 x_137 x_138 x_139 x_140 x_141 x_142 x_143 x_144 x_145 x_146 x_147 x_148 x_149 x_150 x_151 x_152 x_153 x_154 x_155 x_156 x_157 x_158 x_159 x_160 x_161 x_162 x_163 x_164 x_165 x_166 x_167 x_168 x_169 x_170 x_171 x_172 x_173 x_174 x_175 x_176 x_177 x_178 x_179 x_180 x_181 x_182 x_183 x_184 x_185 x_186 x_187 x_188 x_189 x_190 x_191 x_192 x_193 x_194 x_195 x_196 x_197 x_198 x_199 x_200 x_201 x_202 x_203 x_204 x_205 x_206 x_207 x_208 x_209 x_210 x_211 x_212 x_213 x_214 x_215 x_216 x_217 x_218 x_219 x_220 x_221 x_222 x_223 x_224 x_225 x_226 x_227 x_228 x_229 x_230 x_231 x_232 x_233 x_234 x_235 x_236 x_237 x_238 x_239 x_240 x_241 x_242 x_243 x_244 x_245 x_246 x_247 x_248 x_249 x_250 x_251 x_252 x_253 x_254 x_255 x_256 x_257 x_258 x_259 x_260 x_261 x_262 x_263 x_264 x_265 x_266 x_267 x_268 x_269 x_270 x_271 x_272 x_273 x_274 x_275 x_276 x_277 x_278 x_279 x_280 x_281 x_282 x_283 x_284 x_285 x_286 x_287 x_288 x_289 x_290 x_291 x_292 x_293 x_294 x_295 x_296 x_297 x_298 x_299 x_300 x_301 x_302 x_303 x_304 x_305 x_306 x_307 x_308 x_309 : Value} {K : Act → World → Prop} {Q0 : Exit → Act → World → Prop}
    (hlt : k < 16) (hjl : j < 4) (hb64 : at' + 64 ≤ u.size) (hul2 : u.size ≤ 1000200) (HBYT : Hid (∀ i (hi : i < 64), (u[at' + i]'(by omega)).toNat = (blk.getD i 0).toNat)) (HB : Hid (BW w wr bk bh A L ((wordsZ blk k).set k (part blk k j))))
    (HX : Hid (∀ (y_63 y_64 y_65 y_66 y_67 y_68 y_69 y_70 y_71 y_72 y_73 y_74 y_75 y_76 y_77 y_78 y_79 y_80 y_81 y_82 y_83 y_84 : Value) (w2 : World), Hid (BW w w2 bk bh A L ((wordsZ blk k).set k (part blk k (j + 1)))) →
      K ⟨List.toArray (.string u :: x_1 :: x_2 :: x_3 :: x_4 :: x_5 :: x_6 :: .int .i64 at' :: .slice (some ⟨A, 0, none⟩) 64 64 :: .int .i64 k :: .int .i64 ((j : Int) + 1) :: x_11 :: x_12 :: x_13 :: x_14 :: x_15 :: x_16 :: x_17 :: x_18 :: x_19 :: x_20 :: x_21 :: x_22 :: x_23 :: x_24 :: x_25 :: x_26 :: x_27 :: x_28 :: x_29 :: x_30 :: x_31 :: x_32 :: x_33 :: x_34 :: x_35 :: x_36 :: x_37 :: x_38 :: x_39 :: x_40 :: x_41 :: x_42 :: x_43 :: x_44 :: x_45 :: x_46 :: x_47 :: x_48 :: x_49 :: x_50 :: x_51 :: x_52 :: x_53 :: x_54 :: x_55 :: x_56 :: x_57 :: x_58 :: x_59 :: x_60 :: x_61 :: x_62 :: y_63 :: y_64 :: y_65 :: y_66 :: y_67 :: y_68 :: y_69 :: y_70 :: y_71 :: y_72 :: y_73 :: y_74 :: y_75 :: y_76 :: y_77 :: y_78 :: y_79 :: y_80 :: y_81 :: y_82 :: y_83 :: y_84 :: x_85 :: x_86 :: x_87 :: x_88 :: x_89 :: x_90 :: x_91 :: x_92 :: x_93 :: x_94 :: x_95 :: x_96 :: x_97 :: x_98 :: x_99 :: x_100 :: x_101 :: x_102 :: x_103 :: x_104 :: x_105 :: x_106 :: x_107 :: x_108 :: x_109 :: x_110 :: x_111 :: x_112 :: x_113 :: x_114 :: x_115 :: x_116 :: x_117 :: x_118 :: x_119 :: x_120 :: x_121 :: x_122 :: x_123 :: x_124 :: x_125 :: x_126 :: x_127 :: x_128 :: x_129 :: x_130 :: x_131 :: x_132 :: x_133 :: x_134 :: x_135 :: x_136 :: x_137 :: x_138 :: x_139 :: x_140 :: x_141 :: x_142 :: x_143 :: x_144 :: x_145 :: x_146 :: x_147 :: x_148 :: x_149 :: x_150 :: x_151 :: x_152 :: x_153 :: x_154 :: x_155 :: x_156 :: x_157 :: x_158 :: x_159 :: x_160 :: x_161 :: x_162 :: x_163 :: x_164 :: x_165 :: x_166 :: x_167 :: x_168 :: x_169 :: x_170 :: x_171 :: x_172 :: x_173 :: x_174 :: x_175 :: x_176 :: x_177 :: x_178 :: x_179 :: x_180 :: x_181 :: x_182 :: x_183 :: x_184 :: x_185 :: x_186 :: x_187 :: x_188 :: x_189 :: x_190 :: x_191 :: x_192 :: x_193 :: x_194 :: x_195 :: x_196 :: x_197 :: x_198 :: x_199 :: x_200 :: x_201 :: x_202 :: x_203 :: x_204 :: x_205 :: x_206 :: x_207 :: x_208 :: x_209 :: x_210 :: x_211 :: x_212 :: x_213 :: x_214 :: x_215 :: x_216 :: x_217 :: x_218 :: x_219 :: x_220 :: x_221 :: x_222 :: x_223 :: x_224 :: x_225 :: x_226 :: x_227 :: x_228 :: x_229 :: x_230 :: x_231 :: x_232 :: x_233 :: x_234 :: x_235 :: x_236 :: x_237 :: x_238 :: x_239 :: x_240 :: x_241 :: x_242 :: x_243 :: x_244 :: x_245 :: x_246 :: x_247 :: x_248 :: x_249 :: x_250 :: x_251 :: x_252 :: x_253 :: x_254 :: x_255 :: x_256 :: x_257 :: x_258 :: x_259 :: x_260 :: x_261 :: x_262 :: x_263 :: x_264 :: x_265 :: x_266 :: x_267 :: x_268 :: x_269 :: x_270 :: x_271 :: x_272 :: x_273 :: x_274 :: x_275 :: x_276 :: x_277 :: x_278 :: x_279 :: x_280 :: x_281 :: x_282 :: x_283 :: x_284 :: x_285 :: x_286 :: x_287 :: x_288 :: x_289 :: x_290 :: x_291 :: x_292 :: x_293 :: x_294 :: x_295 :: x_296 :: x_297 :: x_298 :: x_299 :: x_300 :: x_301 :: x_302 :: x_303 :: x_304 :: x_305 :: x_306 :: x_307 :: x_308 :: x_309 :: []), []⟩ w2)) :
    Code.wp Tryd.prog (loopBody Tryd.f47 4) (Exit.then K Q0) ⟨List.toArray (.string u :: x_1 :: x_2 :: x_3 :: x_4 :: x_5 :: x_6 :: .int .i64 at' :: .slice (some ⟨A, 0, none⟩) 64 64 :: .int .i64 k :: .int .i64 j :: x_11 :: x_12 :: x_13 :: x_14 :: x_15 :: x_16 :: x_17 :: x_18 :: x_19 :: x_20 :: x_21 :: x_22 :: x_23 :: x_24 :: x_25 :: x_26 :: x_27 :: x_28 :: x_29 :: x_30 :: x_31 :: x_32 :: x_33 :: x_34 :: x_35 :: x_36 :: x_37 :: x_38 :: x_39 :: x_40 :: x_41 :: x_42 :: x_43 :: x_44 :: x_45 :: x_46 :: x_47 :: x_48 :: x_49 :: x_50 :: x_51 :: x_52 :: x_53 :: x_54 :: x_55 :: x_56 :: x_57 :: x_58 :: x_59 :: x_60 :: x_61 :: x_62 :: x_63 :: x_64 :: x_65 :: x_66 :: x_67 :: x_68 :: x_69 :: x_70 :: x_71 :: x_72 :: x_73 :: x_74 :: x_75 :: x_76 :: x_77 :: x_78 :: x_79 :: x_80 :: x_81 :: x_82 :: x_83 :: x_84 :: x_85 :: x_86 :: x_87 :: x_88 :: x_89 :: x_90 :: x_91 :: x_92 :: x_93 :: x_94 :: x_95 :: x_96 :: x_97 :: x_98 :: x_99 :: x_100 :: x_101 :: x_102 :: x_103 :: x_104 :: x_105 :: x_106 :: x_107 :: x_108 :: x_109 :: x_110 :: x_111 :: x_112 :: x_113 :: x_114 :: x_115 :: x_116 :: x_117 :: x_118 :: x_119 :: x_120 :: x_121 :: x_122 :: x_123 :: x_124 :: x_125 :: x_126 :: x_127 :: x_128 :: x_129 :: x_130 :: x_131 :: x_132 :: x_133 :: x_134 :: x_135 :: x_136 :: x_137 :: x_138 :: x_139 :: x_140 :: x_141 :: x_142 :: x_143 :: x_144 :: x_145 :: x_146 :: x_147 :: x_148 :: x_149 :: x_150 :: x_151 :: x_152 :: x_153 :: x_154 :: x_155 :: x_156 :: x_157 :: x_158 :: x_159 :: x_160 :: x_161 :: x_162 :: x_163 :: x_164 :: x_165 :: x_166 :: x_167 :: x_168 :: x_169 :: x_170 :: x_171 :: x_172 :: x_173 :: x_174 :: x_175 :: x_176 :: x_177 :: x_178 :: x_179 :: x_180 :: x_181 :: x_182 :: x_183 :: x_184 :: x_185 :: x_186 :: x_187 :: x_188 :: x_189 :: x_190 :: x_191 :: x_192 :: x_193 :: x_194 :: x_195 :: x_196 :: x_197 :: x_198 :: x_199 :: x_200 :: x_201 :: x_202 :: x_203 :: x_204 :: x_205 :: x_206 :: x_207 :: x_208 :: x_209 :: x_210 :: x_211 :: x_212 :: x_213 :: x_214 :: x_215 :: x_216 :: x_217 :: x_218 :: x_219 :: x_220 :: x_221 :: x_222 :: x_223 :: x_224 :: x_225 :: x_226 :: x_227 :: x_228 :: x_229 :: x_230 :: x_231 :: x_232 :: x_233 :: x_234 :: x_235 :: x_236 :: x_237 :: x_238 :: x_239 :: x_240 :: x_241 :: x_242 :: x_243 :: x_244 :: x_245 :: x_246 :: x_247 :: x_248 :: x_249 :: x_250 :: x_251 :: x_252 :: x_253 :: x_254 :: x_255 :: x_256 :: x_257 :: x_258 :: x_259 :: x_260 :: x_261 :: x_262 :: x_263 :: x_264 :: x_265 :: x_266 :: x_267 :: x_268 :: x_269 :: x_270 :: x_271 :: x_272 :: x_273 :: x_274 :: x_275 :: x_276 :: x_277 :: x_278 :: x_279 :: x_280 :: x_281 :: x_282 :: x_283 :: x_284 :: x_285 :: x_286 :: x_287 :: x_288 :: x_289 :: x_290 :: x_291 :: x_292 :: x_293 :: x_294 :: x_295 :: x_296 :: x_297 :: x_298 :: x_299 :: x_300 :: x_301 :: x_302 :: x_303 :: x_304 :: x_305 :: x_306 :: x_307 :: x_308 :: x_309 :: []), []⟩ wr := by
  conv => arg 2; whnf
  have c1 : wr.cell? ⟨A, k, none⟩ = some (.int .u64 (part blk k j)) := by
    rw [HB.out.x.cell k (by rw [List.length_set, wordsZ_length _ _ (by omega)]; omega), List.getD_eq_getElem?_getD, List.getElem?_set_self (by rw [wordsZ_length _ _ (by omega)]; omega)]
    rfl
  have f1 : wr.frozen? ⟨A, k, none⟩ = false := free_of HB.out.x k
  have hby := HBYT.out (4 * k + j) (by omega)
  have hp : part blk k j < 16777216 := part_lt3 blk k j hjl
  have hv := (blk.getD (4 * k + j) 0).toNat_lt
  obtain ⟨p, hP⟩ : ∃ p, part blk k j = p := ⟨_, rfl⟩
  obtain ⟨v, hV⟩ : ∃ v, (blk.getD (4 * k + j) 0).toNat = v := ⟨_, rfl⟩
  rw [hP] at c1 hp
  rw [hV] at hby hv
  have HP := Lib.hid hP
  have HV := Lib.hid hV
  clear hP hV
  have b1 : (0 : Int) ≤ (k : Int) := by omega
  have b2 : (k : Int) < 64 := by omega
  have b3 : (0 : Int) ≤ (at' : Int) + 4 * (k : Int) + j := by omega
  have b4 : (at' : Int) + 4 * (k : Int) + j < u.size := by omega
  have b5 : IntKind.i64.wrap (4 * (k : Int)) = 4 * (k : Int) := IntWalk.i64_in _ (by omega)
  have b6 : IntKind.i64.wrap ((at' : Int) + 4 * (k : Int)) = (at' : Int) + 4 * (k : Int) := IntWalk.i64_in _ (by omega)
  have b10 : IntKind.i64.wrap ((at' : Int) + 4 * (k : Int) + j) = (at' : Int) + 4 * (k : Int) + j := IntWalk.i64_in _ (by omega)
  have b7 : ((at' : Int) + 4 * (k : Int) + j).toNat = at' + (4 * k + j) := by omega
  have b8 : IntKind.u64.wrap (256 * (p : Int)) = 256 * (p : Int) := by
    simp only [IntKind.wrap, IntKind.bits, IntKind.signed, IntKind.min, IntKind.max]; simp; omega
  have b9 : IntKind.u64.wrap (v : Int) = (v : Int) := by
    simp only [IntKind.wrap, IntKind.bits, IntKind.signed, IntKind.min, IntKind.max]; simp; omega
  have b11 : IntKind.u64.wrap (256 * (p : Int) + v) = 256 * (p : Int) + v := by
    simp only [IntKind.wrap, IntKind.bits, IntKind.signed, IntKind.min, IntKind.max]; simp; omega
  have q : ∀ wX : World, (Instr.index 9 (.string u) (.int .i64 ((at' : Int) + 4 * (k : Int) + j))).run Tryd.prog wX = .ok (.int .u8 v) wX := by
    intro wX
    rw [run_index_string _ _ _ _ _ (by kernel_rfl), dif_pos ⟨b3, b4⟩]
    congr 2
    simp only [b7]
    rw [hby]
  have HBY := Lib.hid hby
  clear hby
  go_wp2_with fail
  go_still_tail 17, (by kernel_rfl)
  go_wp2_with fail
  refine HX.out _ _ _ _ _ _ _ _ _ _ _ _ _ _ _ _ _ _ _ _ _ _ _ ?_
  have := HB.out.put k (256 * p + v)
  rw [List.set_set] at this
  rw [part, HP.out, HV.out, Nat.mul_comm]
  show BW _ _ _ _ _ _ _
  simpa using this.drew
end Go.Proofs.YtgaenpbdfelhhaaDoor

namespace Go.Proofs.YtgaenpbdfelhhaaDoor
open Go.RowKit

theorem row_string_w (w : World) (vs : List Value) (l : List UInt8) (hl : vs = u8s l) :
    (convert 72 9 (.slice (some ⟨w.heap.size, 0, none⟩) l.length l.length)).run Tryd.prog (w.alloc (.cells vs.toArray 5)) = .ok (.string (str l)) (w.alloc (.cells vs.toArray 5)) := by
  subst hl
  exact row_string (w := w.alloc (.cells (u8s l).toArray 5)) (g := w.heap.size) (t := 5) (heap_alloc_at _ _ _ rfl) _
theorem be4 (n : Nat) : be n 4 = [UInt8.ofNat (n / 256 ^ 3 % 256), UInt8.ofNat (n / 256 ^ 2 % 256), UInt8.ofNat (n / 256 ^ 1 % 256), UInt8.ofNat (n / 256 ^ 0 % 256)] := by
  simp [be, Nat.div_div_eq_div_mul]
theorem four_bytes (n : Nat) : [Value.int .u8 ((n : Int) / 16777216 % 256), .int .u8 ((n : Int) / 65536 % 256), .int .u8 ((n : Int) / 256 % 256), .int .u8 ((n : Int) % 256)] = u8s (be n 4) := by
  rw [be4]
  simp [u8s]
end Go.Proofs.YtgaenpbdfelhhaaDoor

namespace Go.Proofs.YtgaenpbdfelhhaaDoor
open Go.RowKit

theorem shift_at (n k : Nat) (c m : Int) (hc : (k : Int) = c) (hn : n ≤ 4294967295) (hk : k ≤ 64) (hm : ((2 ^ k : Nat) : Int) = m) (w : World) :
    Calls Tryd.prog 74 #[.int .u64 n, .int .i64 c] w fun e w' => e = .returned (.int .u64 ((n : Int) / m)) ∧ w = w' := by
  subst hc
  exact (shift_any n k (by omega) (by omega) w).mono fun _ _ h => ⟨by rw [h.1, ← hm]; simp, h.2⟩

set_option maxHeartbeats 400000 in
set_option maxRecDepth 100000 in
theorem four_any (n : Nat) (hn : n ≤ 4294967295) (w : World) :
    Calls Tryd.prog 46 #[.int .i64 n] w fun e w' => e = .returned (.string (str (be n 4))) ∧ w.grownBy w' none := by
  have hcv : (convert 72 9 (.slice (some ⟨w.heap.size, 0, none⟩) 4 4)).run Tryd.prog (w.alloc (.cells #[Value.int .u8 ((n : Int) / 16777216), .int .u8 ((n : Int) / 65536 % 256), .int .u8 ((n : Int) / 256 % 256), .int .u8 ((n : Int) % 256)] 5)) = .ok (.string (str (be n 4))) (w.alloc (.cells #[Value.int .u8 ((n : Int) / 16777216), .int .u8 ((n : Int) / 65536 % 256), .int .u8 ((n : Int) / 256 % 256), .int .u8 ((n : Int) % 256)] 5)) := by
    have := row_string_w w _ (be n 4) (four_bytes n)
    rw [be_length, show (n : Int) / 16777216 % 256 = (n : Int) / 16777216 from by omega] at this
    exact this
  have c1 := shift_at n 24 24 16777216 rfl hn (by omega) (by decide) w
  have c2 := shift_at n 16 16 65536 rfl hn (by omega) (by decide) w
  have c3 := shift_at n 8 8 256 rfl hn (by omega) (by decide) w
  have H1 := Lib.hid c1
  have H2 := Lib.hid c2
  have H3 := Lib.hid c3
  clear c1 c2 c3
  go_enter Tryd.func46, Tryd.ntmps46
  go_wp2_with fail
  refine H1.out.mono ?_
  rintro e w' ⟨rfl, rfl⟩
  go_wp2_with fail
  refine H2.out.mono ?_
  rintro e w' ⟨rfl, rfl⟩
  go_wp2_with fail
  refine H3.out.mono ?_
  rintro e w' ⟨rfl, rfl⟩
  go_wp2_with fail
  go_ret
  exact ⟨rfl, World.grownBy_alloc _ _ _⟩
end Go.Proofs.YtgaenpbdfelhhaaDoor

namespace Go.Proofs.YtgaenpbdfelhhaaDoor
open Go.RowKit Go.Maps
attribute [local irreducible] shaL

/-- a node that may be -/
def okN (n : ByteArray) : Bool := decide (n = emptyS) || (beginsB n 1 || beginsB n 2)
/-- a last one that may be -/
def endN (L : List ByteArray) (t : Bool) : Bool := match L.getLast? with | none => true | some l => beginsB l 2 || (t && !decide (l = emptyS))
def besideB (L : List ByteArray) (t : Bool) : Bool := L.all okN && endN L t
end Go.Proofs.YtgaenpbdfelhhaaDoor

namespace Go.Proofs.YtgaenpbdfelhhaaDoor
open Go.RowKit Go.Maps
attribute [local irreducible] shaL

def goodB (L : List ByteArray) (t : Bool) (pk pv key : ByteArray) (d : Nat) : Bool :=
  besideB L t && (if t then decide (pk.size = 16) && belowB pk key (d + L.length) else decide (pk.size = 0) && decide (pv.size = 0))
theorem is_nil (s : ByteArray) : (s.toList == []) = decide (s.size = 0) := by
  rw [ByteArray.toList_eq, Bool.eq_iff_iff, beq_iff_eq, decide_eq_true_iff]
  show s.data.toList = [] ↔ s.data.size = 0
  rw [← Array.length_toList, List.length_eq_zero_iff]
end Go.Proofs.YtgaenpbdfelhhaaDoor

namespace Go.Proofs.YtgaenpbdfelhhaaDoor
open Go.RowKit Go.Maps

theorem infoU8P : (Tryd.prog.info? 5).map (fun i => (i.zero, i.size, i.bytes)) = some (some (.int .u8 0), 1, 1) := by kernel_rfl
/-- a key of two small numbers -/
def keyL14 (a b : UInt8) : List UInt8 := [a, 0, b, 0, 0, 0, 0, 0, 0, 0, 0, 0, 0, 0, 0, 0]
def keyS14 (a b : UInt8) : ByteArray := str (keyL14 a b)
theorem keyS14_size (a b : UInt8) : (keyS14 a b).size = 16 := rfl
end Go.Proofs.YtgaenpbdfelhhaaDoor
