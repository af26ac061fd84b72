/- Plain functions for package wots: places, secrets, walks, public keys. No walk of the program. · A public key's and an entry's bytes: written, read, each of the other. No walk. · Plain functions for package label: a text's runes. Nothing here names the program. · The walks of label.Runes and label.Alphabets. · A Writer's calls at its block, at every state. · A Reader's calls at its block, at every state. · sha.Tagged of texts in a new block. · The walks of xmss's Public.Encode and DecodePublic. · The four bytes of a number. No walk. · Lists of texts in memory. No walk. · Slices of integers in memory. No walk. · The walks of an entry's Encode, Value, Name, Next. -/
import Derived.Test.YtioahjdojgcfdaaDoorShaCalls
import Derived.Test.YtioahjdojgcfdaaDoorRosterLaysB1
import Derived.WalkKit
import Derived.Lib.MapLaws
import Derived.Lib.ValidLaws
import Derived.Lib.TrimUEq
import Derived.Test.YtioahjdojgcfdaaDoorLabelInt
import Derived.Test.YtioahjdojgcfdaaDoorLay
import Derived.Laws.RangeAny
import Derived.Lib.OthersKept
import Derived.Deep.LoopGhost
import Derived.Handy
import Derived.Deep.DeepCutAuto
import Derived.Deep.RegionHeld3
namespace Go.Proofs.YtioahjdojgcfdaaDoor
attribute [local irreducible] shaL

/-- the short digest of a tag and texts -/
def tagS (tag : UInt8) (L : List ByteArray) : ByteArray := str ((shaL (tagB tag L)).take 16)
theorem tagS_size (tag : UInt8) (L : List ByteArray) : (tagS tag L).size = 16 := by
  unfold tagS
  rw [str_size, List.length_take, shaL_length]
  rfl
def placeL (leaf chain step : Nat) : List UInt8 := be leaf 4 ++ [UInt8.ofNat chain, UInt8.ofNat step]
def placeS (leaf chain step : Nat) : ByteArray := str (placeL leaf chain step)
theorem placeS_size (leaf chain step : Nat) : (placeS leaf chain step).size = 6 := by
  unfold placeS placeL
  rw [str_size, List.length_append, be_length]
  rfl
def openS (seed : ByteArray) : ByteArray := tagS 3 [seed]
def stepS (o : ByteArray) (leaf chain k : Nat) (x : ByteArray) : ByteArray := tagS 2 [o, placeS leaf chain k, x]
/-- n steps, from step a on -/
def walkS (o : ByteArray) (leaf chain a : Nat) : Nat → ByteArray → ByteArray
  | 0, x => x
  | n + 1, x => stepS o leaf chain (a + n) (walkS o leaf chain a n x)
theorem walkS_zero (o : ByteArray) (leaf chain a : Nat) (x : ByteArray) : walkS o leaf chain a 0 x = x := rfl
theorem walkS_succ (o : ByteArray) (leaf chain a n : Nat) (x : ByteArray) : walkS o leaf chain a (n + 1) x = stepS o leaf chain (a + n) (walkS o leaf chain a n x) := rfl
theorem walkS_add (o : ByteArray) (leaf chain a m n : Nat) (x : ByteArray) : walkS o leaf chain (a + m) n (walkS o leaf chain a m x) = walkS o leaf chain a (m + n) x := by
  induction n with
  | zero => rfl
  | succ n ih => rw [walkS_succ, ih, ← Nat.add_assoc, walkS_succ, Nat.add_assoc]
theorem walkS_size (o : ByteArray) (leaf chain a n : Nat) (x : ByteArray) (N : Nat) (h : x.size ≤ N) (h16 : 16 ≤ N) : (walkS o leaf chain a n x).size ≤ N := by
  cases n with
  | zero => exact h
  | succ n => rw [walkS_succ]; unfold stepS; rw [tagS_size]; exact h16
theorem walkS_16 (o : ByteArray) (leaf chain a n : Nat) (x : ByteArray) (h : x.size = 16) : (walkS o leaf chain a n x).size = 16 := by
  cases n with
  | zero => exact h
  | succ n => rw [walkS_succ]; unfold stepS; rw [tagS_size]
/-- from and to as they come: below 0 as 0, above 15 as 15 -/
def walkZ (o : ByteArray) (leaf chain : Nat) (a b : Int) (x : ByteArray) : ByteArray := walkS o leaf chain (max a 0).toNat (min b 15 - max a 0).toNat x
def secretS (seed : ByteArray) (leaf chain : Nat) : ByteArray := tagS 1 [seed, placeS leaf chain 0]
def publicOfS (o : ByteArray) (leaf : Nat) (ends : List ByteArray) : ByteArray := tagS 4 ([o, placeS leaf 0 0] ++ ends)
def endsS (seed : ByteArray) (leaf : Nat) : Nat → List ByteArray
  | 0 => []
  | c + 1 => endsS seed leaf c ++ [walkS (openS seed) leaf c 0 15 (secretS seed leaf c)]
def publicS (seed : ByteArray) (leaf : Nat) : ByteArray := publicOfS (openS seed) leaf (endsS seed leaf 35)
/-- a signature's first c texts -/
def sigS (seed : ByteArray) (leaf : Nat) (d : List Int) : Nat → List ByteArray
  | 0 => []
  | c + 1 => sigS seed leaf d c ++ [walkS (openS seed) leaf c 0 (d.getD c 0).toNat (secretS seed leaf c)]
/-- the first c ends of what a signature's texts are walked to -/
def recS (o : ByteArray) (leaf : Nat) (d : List Int) (sig : List ByteArray) : Nat → List ByteArray
  | 0 => []
  | c + 1 => recS o leaf d sig c ++ [walkS o leaf c (d.getD c 0).toNat (15 - d.getD c 0).toNat (sig.getD c ByteArray.empty)]
theorem endsS_length (seed : ByteArray) (leaf c : Nat) : (endsS seed leaf c).length = c := by
  induction c with
  | zero => rfl
  | succ c ih => simp [endsS, ih]
theorem sigS_length (seed : ByteArray) (leaf : Nat) (d : List Int) (c : Nat) : (sigS seed leaf d c).length = c := by
  induction c with
  | zero => rfl
  | succ c ih => simp [sigS, ih]
theorem recS_length (o : ByteArray) (leaf : Nat) (d : List Int) (sig : List ByteArray) (c : Nat) : (recS o leaf d sig c).length = c := by
  induction c with
  | zero => rfl
  | succ c ih => simp [recS, ih]
theorem sigS_at (seed : ByteArray) (leaf : Nat) (d : List Int) (c i : Nat) (h : i < c) : (sigS seed leaf d c)[i]? = some (walkS (openS seed) leaf i 0 (d.getD i 0).toNat (secretS seed leaf i)) := by
  induction c with
  | zero => omega
  | succ c ih =>
    rw [sigS]
    by_cases e : i = c
    · subst e
      rw [List.getElem?_append_right (by rw [sigS_length]; omega), sigS_length, Nat.sub_self]
      rfl
    · rw [List.getElem?_append_left (by rw [sigS_length]; omega), ih (by omega)]
theorem secretS_size (seed : ByteArray) (leaf chain : Nat) : (secretS seed leaf chain).size = 16 := tagS_size _ _
theorem openS_size (seed : ByteArray) : (openS seed).size = 16 := tagS_size _ _
theorem sigS_all (seed : ByteArray) (leaf : Nat) (d : List Int) (c : Nat) : ∀ s ∈ sigS seed leaf d c, s.size = 16 := by
  induction c with
  | zero => intro s h; cases h
  | succ c ih =>
    intro s h
    rw [sigS] at h
    rcases List.mem_append.1 h with h | h
    · exact ih s h
    · obtain rfl := List.mem_singleton.1 h
      exact walkS_16 _ _ _ _ _ _ (secretS_size _ _ _)
theorem endsS_all (seed : ByteArray) (leaf c : Nat) : ∀ s ∈ endsS seed leaf c, s.size = 16 := by
  induction c with
  | zero => intro s h; cases h
  | succ c ih =>
    intro s h
    rw [endsS] at h
    rcases List.mem_append.1 h with h | h
    · exact ih s h
    · obtain rfl := List.mem_singleton.1 h
      exact walkS_16 _ _ _ _ _ _ (secretS_size _ _ _)
theorem recS_all (o : ByteArray) (leaf : Nat) (d : List Int) (sig : List ByteArray) (hs : ∀ s ∈ sig, s.size = 16) (c : Nat) (hc : c ≤ sig.length) : ∀ s ∈ recS o leaf d sig c, s.size = 16 := by
  induction c with
  | zero => intro s h; cases h
  | succ c ih =>
    intro s h
    rw [recS] at h
    rcases List.mem_append.1 h with h | h
    · exact ih (by omega) s h
    · obtain rfl := List.mem_singleton.1 h
      refine walkS_16 _ _ _ _ _ _ (hs _ ?_)
      rw [List.getD_eq_getElem?_getD, List.getElem?_eq_getElem (by omega)]
      exact List.getElem_mem _
/-- P6.3: what a signature tells is the public key -/
theorem rec_sig (seed : ByteArray) (leaf : Nat) (d : List Int) (hd : ∀ x ∈ d, 0 ≤ x ∧ x ≤ 15) (n : Nat) (hn : n ≤ d.length) (c : Nat) (hc : c ≤ n) : recS (openS seed) leaf d (sigS seed leaf d n) c = endsS seed leaf c := by
  induction c with
  | zero => rfl
  | succ c ih =>
    rw [recS, endsS, ih (by omega)]
    have h1 := sigS_at seed leaf d n c (by omega)
    rw [List.getD_eq_getElem?_getD (l := sigS seed leaf d n), h1]
    have hx := hd (d.getD c 0) (by rw [List.getD_eq_getElem?_getD, List.getElem?_eq_getElem (by omega)]; exact List.getElem_mem _)
    simp only [Option.getD_some]
    have e := walkS_add (openS seed) leaf c 0 (d.getD c 0).toNat (15 - d.getD c 0).toNat (secretS seed leaf c)
    rw [Nat.zero_add] at e
    rw [e, show (d.getD c 0).toNat + (15 - d.getD c 0).toNat = 15 from by omega]
/-- a tagged text's length -/
theorem tagB_length (tag : UInt8) (L : List ByteArray) (N : Nat) (h : ∀ s ∈ L, s.size ≤ N) : (tagB tag L).length ≤ 1 + L.length * (4 + N) := by
  unfold tagB
  rw [List.length_cons]
  suffices (L.flatMap fun s => be s.size 4 ++ s.data.toList).length ≤ L.length * (4 + N) by omega
  induction L with
  | nil => simp
  | cons s L ih =>
    have := ih (fun t ht => h t (by simp [ht]))
    have hs := h s (by simp)
    rw [List.flatMap_cons, List.length_append, List.length_append, be_length, List.length_cons, Nat.succ_mul]
    have e : s.data.toList.length = s.size := rfl
    omega
end Go.Proofs.YtioahjdojgcfdaaDoor

namespace Go.Proofs.YtioahjdojgcfdaaDoor
attribute [local irreducible] shaL

theorem be_val_rev (l : List UInt8) : be (val l.reverse) l.length = l.reverse := by
  induction l with
  | nil => rfl
  | cons c l ih =>
    have hc := c.toNat_lt
    rw [List.reverse_cons, val_snoc, List.length_cons, be, show (256 * val l.reverse + c.toNat) / 256 = val l.reverse from by omega, show (256 * val l.reverse + c.toNat) % 256 = c.toNat from by omega, ih]
    simp
theorem be_val (l : List UInt8) (k : Nat) (h : l.length = k) : be (val l) k = l := by
  subst h
  have := be_val_rev l.reverse
  simpa using this
theorem val_pos (l : List UInt8) : val l = 0 ↔ l = List.replicate l.length 0 := by
  have hz : ∀ k, be 0 k = List.replicate k 0 := by
    intro k
    induction k with
    | zero => rfl
    | succ k ih => rw [be, ih, List.replicate_succ']; rfl
  constructor
  · intro h
    have := be_val l _ rfl
    rw [h, hz] at this
    exact this.symm
  · intro h
    rw [h, ← hz]
    exact val_be 0 _ (Nat.pow_pos (by decide))

/-! what a Reader does with a text -/
theorem rd_take (l : List UInt8) (k : Nat) (h : k ≤ l.length) : (⟨str l, 0⟩ : RSt).fixed k = (str (l.take k), ⟨str (l.drop k), 0⟩) := by
  have := fixed_str (l.take k) (l.drop k)
  rw [List.take_append_drop, List.length_take, Nat.min_eq_left h] at this
  exact this
theorem rd_less (l : List UInt8) (k : Nat) (h : l.length < k) : (⟨str l, 0⟩ : RSt).fixed k = (ByteArray.empty, ⟨str l, 3⟩) := by
  unfold RSt.fixed
  simp only
  rw [if_neg (by simp), if_neg (by omega), if_pos (by rw [str_size]; omega)]
  rfl
theorem rd_err (s : ByteArray) (e : Int) (he : e ≠ 0) (k : Int) : (⟨s, e⟩ : RSt).fixed k = (ByteArray.empty, ⟨s, e⟩) := by
  unfold RSt.fixed
  rw [if_pos he]
theorem num_of (s : RSt) (k : Nat) (h : 1 ≤ k ∧ k ≤ 8) : s.num k = (val (s.fixed k).1.data.toList, (s.fixed k).2) := by
  unfold RSt.num
  rw [if_pos (by omega)]

/-! a public key -/
def pubOk (o r : ByteArray) (h : Int) : Prop := (0 ≤ h ∧ h ≤ 6) ∧ o.size = 16 ∧ r.size = 16
instance (o r : ByteArray) (h : Int) : Decidable (pubOk o r h) := by unfold pubOk; infer_instance
def pubB (o r : ByteArray) (h : Int) : List UInt8 := o.data.toList ++ (r.data.toList ++ be h.toNat 1)
def pubErr (o r : ByteArray) (h : Int) : Int := if pubOk o r h then 0 else 10
def pubEnc (o r : ByteArray) (h : Int) : ByteArray := if pubOk o r h then str (pubB o r h) else ⟨#[]⟩
/-- what the Writer holds -/
def pubW (o r : ByteArray) (h : Nat) : WSt := (((⟨[], 0⟩ : WSt).fixed o 16).fixed r 16).num h 1
theorem wput_ok (ts : List ByteArray) (t : ByteArray) (k : Int) (h : (t.size : Int) = k) : (⟨ts, 0⟩ : WSt).fixed t k = ⟨t :: ts, 0⟩ := by
  unfold WSt.fixed
  rw [if_pos h]
  rfl
theorem wput_not (ts : List ByteArray) (t : ByteArray) (k : Int) (h : (t.size : Int) ≠ k) : (⟨ts, 0⟩ : WSt).fixed t k = ⟨ts, 10⟩ := by
  unfold WSt.fixed
  rw [if_neg h]
  rfl
theorem wput_err (s : WSt) (he : s.err ≠ 0) (t : ByteArray) (k : Int) : s.fixed t k = s := by
  unfold WSt.fixed WSt.put WSt.fail
  rw [if_neg he, if_neg he]
  split <;> rfl
theorem wnum_ok (ts : List ByteArray) (n : Nat) (k : Int) (h : 1 ≤ k ∧ k ≤ 8 ∧ n < 256 ^ k.toNat) : (⟨ts, 0⟩ : WSt).num n k = ⟨str (be n k.toNat) :: ts, 0⟩ := by
  unfold WSt.num
  rw [if_pos h]
  rfl
theorem wnum_err (s : WSt) (he : s.err ≠ 0) (n : Nat) (k : Int) : s.num n k = s := by
  unfold WSt.num WSt.put WSt.fail
  rw [if_neg he, if_neg he]
  split <;> rfl
theorem pubW_ok {o r : ByteArray} {h : Nat} (k : pubOk o r h) : pubW o r h = ⟨[str (be h 1), r, o], 0⟩ := by
  obtain ⟨⟨h1, h2⟩, h3, h4⟩ := k
  unfold pubW
  rw [wput_ok [] o 16 (by omega), wput_ok [o] r 16 (by omega), wnum_ok [r, o] h 1 ⟨by omega, by omega, by show h < 256; omega⟩]
  rfl
theorem pubW_not {o r : ByteArray} {h : Nat} (hh : h ≤ 6) (k : ¬ pubOk o r h) : (pubW o r h).err = 10 := by
  unfold pubW
  have hn : ¬ (o.size = 16 ∧ r.size = 16) := fun q => k ⟨by omega, q⟩
  by_cases h1 : o.size = 16
  · rw [wput_ok [] o 16 (by omega), wput_not [o] r 16 (by omega), wnum_err _ (by simp)]
  · rw [wput_not [] o 16 (by omega), wput_err _ (by simp), wnum_err _ (by simp)]
theorem total_fixed (s : WSt) (t : ByteArray) (k : Int) : total (s.fixed t k).ts ≤ t.size + total s.ts := by
  unfold WSt.fixed
  split
  · exact total_put s t
  · rw [total_fail]; omega
theorem total_num (s : WSt) (n : Nat) (k : Int) : total (s.num n k).ts ≤ 8 + total s.ts := by
  unfold WSt.num
  split
  · rename_i h
    have := total_put s (str (be n k.toNat))
    rw [str_size, be_length] at this
    omega
  · rw [total_fail]; omega
theorem pubW_total (o r : ByteArray) (h : Nat) : total (pubW o r h).ts ≤ 8 + (r.size + o.size) := by
  have h1 := total_num (((⟨[], 0⟩ : WSt).fixed o 16).fixed r 16) h 1
  have h2 := total_fixed ((⟨[], 0⟩ : WSt).fixed o 16) r 16
  have h3 := total_fixed (⟨[], 0⟩ : WSt) o 16
  have h4 : total (⟨[], 0⟩ : WSt).ts = 0 := rfl
  unfold pubW
  omega
/-- a Writer's answer -/
def WSt.ans (s : WSt) : ByteArray := if s.err = 0 then str (flat s.ts) else ⟨#[]⟩
theorem pubW_ans (o r : ByteArray) (h : Nat) (hh : h ≤ 6) : (pubW o r h).ans = pubEnc o r h ∧ (pubW o r h).err = pubErr o r h := by
  by_cases k : pubOk o r h
  · rw [pubW_ok k]
    unfold pubEnc pubErr WSt.ans
    rw [if_pos k, if_pos k, if_pos rfl]
    refine ⟨?_, rfl⟩
    simp [flat, pubB, str]
  · unfold pubEnc pubErr WSt.ans
    rw [pubW_not hh k, if_neg k, if_neg k]
    exact ⟨rfl, rfl⟩
/-- what is read of bytes, as a public key -/
structure DecP where
  o : ByteArray
  r : ByteArray
  h : Nat
  s : RSt
def decP (s : ByteArray) : DecP :=
  let a := (⟨s, 0⟩ : RSt).fixed 16
  let b := a.2.fixed 16
  let c := b.2.num 1
  ⟨a.1, b.1, c.1, c.2⟩
def DecP.err (d : DecP) : Int := if d.s.done ≠ 0 then d.s.done else if 6 < d.h then 4 else 0
theorem decP_h (s : ByteArray) : (decP s).h < 256 := by
  have h1 := num_of (((⟨s, 0⟩ : RSt).fixed 16).2.fixed 16).2 1 (by omega)
  have h2 : (decP s).h = ((((⟨s, 0⟩ : RSt).fixed 16).2.fixed 16).2.num (1 : Nat)).1 := rfl
  rw [h2, h1]
  have h3 := fixed_size (((⟨s, 0⟩ : RSt).fixed 16).2.fixed 16).2 1
  have h4 := val_lt (((((⟨s, 0⟩ : RSt).fixed 16).2.fixed 16).2.fixed (1 : Nat)).1.data.toList)
  have h5 : 256 ^ (((((⟨s, 0⟩ : RSt).fixed 16).2.fixed 16).2.fixed (1 : Nat)).1.data.toList).length ≤ 256 ^ 1 := Nat.pow_le_pow_right (by decide) (by rw [Array.length_toList]; exact h3)
  exact Nat.lt_of_lt_of_le h4 h5
theorem decP_33 (l : List UInt8) (hl : l.length = 33) : decP (str l) = ⟨str (l.take 16), str ((l.drop 16).take 16), val (l.drop 32), ⟨str [], 0⟩⟩ := by
  have h1 := rd_take l 16 (by omega)
  have h2 := rd_take (l.drop 16) 16 (by simp; omega)
  have h3 := num_of (⟨str ((l.drop 16).drop 16), 0⟩ : RSt) 1 (by omega)
  rw [rd_take _ 1 (by simp; omega)] at h3
  have h1' : (⟨str l, 0⟩ : RSt).fixed 16 = (str (l.take 16), ⟨str (l.drop 16), 0⟩) := h1
  have h2' : (⟨str (l.drop 16), 0⟩ : RSt).fixed 16 = (str ((l.drop 16).take 16), ⟨str ((l.drop 16).drop 16), 0⟩) := h2
  have h3' : (⟨str ((l.drop 16).drop 16), 0⟩ : RSt).num 1 = (val (str (((l.drop 16).drop 16).take 1)).data.toList, ⟨str (((l.drop 16).drop 16).drop 1), 0⟩) := h3
  have e1 : ((l.drop 16).drop 16).take 1 = l.drop 32 := by rw [List.drop_drop]; exact List.take_of_length_le (by simp; omega)
  have e2 : ((l.drop 16).drop 16).drop 1 = [] := by rw [List.drop_drop, List.drop_drop]; exact List.drop_of_length_le (by omega)
  rw [e1, e2] at h3'
  unfold decP
  rw [h1']
  simp only
  rw [h2']
  simp only
  rw [h3']
  rfl

/-! an entry -/
structure EntS where
  v : Nat
  o : ByteArray
  r : ByteArray
  h : Int
  p : ByteArray
def EntS.err (x : EntS) : Int := if x.v < 1 ∨ 4294967295 < x.v then 13 else if pubOk x.o x.r x.h ∧ x.p.size = 16 then 0 else 10
def EntS.bytes (x : EntS) : List UInt8 := be x.v 4 ++ (pubB x.o x.r x.h ++ x.p.data.toList)
def EntS.enc (x : EntS) : ByteArray := if x.err = 0 then str x.bytes else ⟨#[]⟩
def EntS.value (x : EntS) : ByteArray := if x.err = 0 then tagS 12 [str x.bytes] else ⟨#[]⟩
theorem EntS.fit {x : EntS} (h : x.err = 0) : (1 ≤ x.v ∧ x.v ≤ 4294967295) ∧ pubOk x.o x.r x.h ∧ x.p.size = 16 := by
  unfold EntS.err at h
  split at h
  · omega
  · split at h
    · exact ⟨by omega, by assumption⟩
    · omega
theorem EntS.of_fit {x : EntS} (h : (1 ≤ x.v ∧ x.v ≤ 4294967295) ∧ pubOk x.o x.r x.h ∧ x.p.size = 16) : x.err = 0 := by
  unfold EntS.err
  rw [if_neg (by omega), if_pos h.2]
/-- what the Writer holds, where the key has bytes -/
def entW (v : Nat) (k p : ByteArray) : WSt := (((⟨[], 0⟩ : WSt).num v 4).fixed k 33).fixed p 16
theorem pubB_len {o r : ByteArray} {h : Int} (k : pubOk o r h) : (pubB o r h).length = 33 := by
  obtain ⟨_, h1, h2⟩ := k
  unfold pubB
  rw [List.length_append, List.length_append, be_length, Array.length_toList, Array.length_toList]
  show o.size + (r.size + 1) = 33
  omega
theorem EntS.len {x : EntS} (h : x.err = 0) : x.bytes.length = 53 := by
  obtain ⟨_, h2, h3⟩ := EntS.fit h
  unfold EntS.bytes
  rw [List.length_append, List.length_append, be_length, pubB_len h2, Array.length_toList]
  show 4 + (33 + x.p.size) = 53
  omega
theorem entW_total (v : Nat) (k p : ByteArray) : total (entW v k p).ts ≤ p.size + (k.size + 8) := by
  have h1 := total_fixed (((⟨[], 0⟩ : WSt).num v 4).fixed k 33) p 16
  have h2 := total_fixed ((⟨[], 0⟩ : WSt).num v 4) k 33
  have h3 := total_num (⟨[], 0⟩ : WSt) v 4
  have h4 : total (⟨[], 0⟩ : WSt).ts = 0 := rfl
  unfold entW
  omega
theorem entW_ans (x : EntS) (hv : 1 ≤ x.v ∧ x.v ≤ 4294967295) (hk : pubOk x.o x.r x.h) : (entW x.v (str (pubB x.o x.r x.h)) x.p).ans = x.enc ∧ (entW x.v (str (pubB x.o x.r x.h)) x.p).err = x.err := by
  have hn : (⟨[], 0⟩ : WSt).num x.v 4 = ⟨[str (be x.v 4)], 0⟩ := by
    unfold WSt.num
    rw [if_pos ⟨by omega, by omega, by show x.v < 4294967296; omega⟩]
    rfl
  have hf : (⟨[str (be x.v 4)], 0⟩ : WSt).fixed (str (pubB x.o x.r x.h)) 33 = ⟨[str (pubB x.o x.r x.h), str (be x.v 4)], 0⟩ := by
    unfold WSt.fixed
    rw [str_size, pubB_len hk, if_pos (by rfl)]
    rfl
  unfold entW
  rw [hn, hf]
  by_cases hp : x.p.size = 16
  · have he : x.err = 0 := EntS.of_fit ⟨hv, hk, hp⟩
    unfold WSt.fixed EntS.enc
    rw [if_pos (by omega), he]
    refine ⟨?_, rfl⟩
    unfold WSt.ans
    simp only [WSt.put, if_true]
    simp [flat, EntS.bytes, str]
  · have he : x.err = 10 := by
      unfold EntS.err
      rw [if_neg (by omega), if_neg (fun q => hp q.2)]
    unfold WSt.fixed EntS.enc
    rw [if_neg (by omega), he]
    refine ⟨?_, rfl⟩
    unfold WSt.ans
    simp [WSt.fail]
theorem EntS.not_pub {x : EntS} (hv : 1 ≤ x.v ∧ x.v ≤ 4294967295) (hk : ¬ pubOk x.o x.r x.h) : x.err = 10 ∧ x.enc = ⟨#[]⟩ := by
  have he : x.err = 10 := by
    unfold EntS.err
    rw [if_neg (by omega), if_neg (fun q => hk q.1)]
  refine ⟨he, ?_⟩
  unfold EntS.enc
  rw [he]
  rfl
theorem EntS.not_ver {x : EntS} (hv : x.v < 1 ∨ 4294967295 < x.v) : x.err = 13 ∧ x.enc = ⟨#[]⟩ := by
  have he : x.err = 13 := by
    unfold EntS.err
    rw [if_pos hv]
  refine ⟨he, ?_⟩
  unfold EntS.enc
  rw [he]
  rfl
theorem EntS.value_size {x : EntS} (h : x.err = 0) : x.value.size = 16 := by
  unfold EntS.value
  rw [if_pos h]
  exact tagS_size _ _
theorem EntS.value_empty (x : EntS) : x.value.size = 0 ↔ x.err ≠ 0 := by
  constructor
  · intro h e
    rw [EntS.value_size e] at h
    cases h
  · intro h
    unfold EntS.value
    rw [if_neg h]
    rfl
/-- may an entry follow another one? -/
def EntS.next (x y : EntS) : Int := if y.v = 0 ∨ y.v - 1 ≠ x.v then 13 else if x.err ≠ 0 ∨ y.p ≠ x.value then 15 else 0
def noughtsS : ByteArray := ⟨#[0, 0, 0, 0, 0, 0, 0, 0, 0, 0, 0, 0, 0, 0, 0, 0]⟩
/-- each one and the one behind it -/
def chainE : List EntS → Int
  | [] => 0
  | [_] => 0
  | x :: y :: l => if x.next y ≠ 0 then x.next y else chainE (y :: l)
def histE : List EntS → Int
  | [] => 20
  | x :: l => if x.v ≠ 1 then 13 else if x.p ≠ noughtsS then 15 else chainE (x :: l)

/-- what is read of bytes, as an entry -/
structure DecE where
  v : Nat
  k : ByteArray
  p : ByteArray
  s : RSt
def decE (s : ByteArray) : DecE :=
  let a := (⟨s, 0⟩ : RSt).num 4
  let b := a.2.fixed 33
  let c := b.2.fixed 16
  ⟨a.1, b.1, c.1, c.2⟩
def DecE.err (d : DecE) : Int := if d.s.done ≠ 0 then d.s.done else if (decP d.k).err ≠ 0 then (decP d.k).err else if d.v < 1 then 13 else 0
def DecE.ent (d : DecE) : EntS := if d.err = 0 then ⟨d.v, (decP d.k).o, (decP d.k).r, (decP d.k).h, d.p⟩ else ⟨0, ⟨#[]⟩, ⟨#[]⟩, 0, ⟨#[]⟩⟩
theorem decE_53 (l : List UInt8) (hl : l.length = 53) : decE (str l) = ⟨val (l.take 4), str ((l.drop 4).take 33), str (l.drop 37), ⟨str [], 0⟩⟩ := by
  have h1 := num_of (⟨str l, 0⟩ : RSt) 4 (by omega)
  rw [rd_take l 4 (by omega)] at h1
  have h2 := rd_take (l.drop 4) 33 (by simp; omega)
  have h3 := rd_take ((l.drop 4).drop 33) 16 (by simp; omega)
  have h1' : (⟨str l, 0⟩ : RSt).num 4 = (val (str (l.take 4)).data.toList, ⟨str (l.drop 4), 0⟩) := h1
  have h2' : (⟨str (l.drop 4), 0⟩ : RSt).fixed 33 = (str ((l.drop 4).take 33), ⟨str ((l.drop 4).drop 33), 0⟩) := h2
  have h3' : (⟨str ((l.drop 4).drop 33), 0⟩ : RSt).fixed 16 = (str (((l.drop 4).drop 33).take 16), ⟨str (((l.drop 4).drop 33).drop 16), 0⟩) := h3
  have e1 : ((l.drop 4).drop 33).take 16 = l.drop 37 := by rw [List.drop_drop]; exact List.take_of_length_le (by simp; omega)
  have e2 : ((l.drop 4).drop 33).drop 16 = [] := by rw [List.drop_drop, List.drop_drop]; exact List.drop_of_length_le (by omega)
  rw [e1, e2] at h3'
  unfold decE
  rw [h1']
  simp only
  rw [h2']
  simp only
  rw [h3']
  rfl
theorem decE_less (l : List UInt8) (hl : l.length < 53) : (decE (str l)).err = 3 := by
  have key : (decE (str l)).s.err = 3 := by
    have h1 := num_of (⟨str l, 0⟩ : RSt) 4 (by omega)
    have h1' : (⟨str l, 0⟩ : RSt).num 4 = (val ((⟨str l, 0⟩ : RSt).fixed (4 : Nat)).1.data.toList, ((⟨str l, 0⟩ : RSt).fixed (4 : Nat)).2) := h1
    unfold decE
    rw [h1']
    simp only
    by_cases c1 : l.length < 4
    · rw [rd_less l 4 c1]
      simp only
      rw [rd_err (str l) 3 (by decide)]
      simp only
      rw [rd_err (str l) 3 (by decide)]
    · rw [rd_take l 4 (by omega)]
      simp only
      by_cases c2 : l.length < 37
      · have h2 := rd_less (l.drop 4) 33 (by simp; omega)
        have h2' : (⟨str (l.drop 4), 0⟩ : RSt).fixed 33 = _ := h2
        rw [h2']
        simp only
        rw [rd_err _ _ (by decide)]
      · have h2 := rd_take (l.drop 4) 33 (by simp; omega)
        have h2' : (⟨str (l.drop 4), 0⟩ : RSt).fixed 33 = _ := h2
        have h3 := rd_less ((l.drop 4).drop 33) 16 (by simp; omega)
        have h3' : (⟨str ((l.drop 4).drop 33), 0⟩ : RSt).fixed 16 = _ := h3
        rw [h2']
        simp only
        rw [h3']
  have hd : (decE (str l)).s.done = 3 := by
    unfold RSt.done
    rw [key]
    rfl
  unfold DecE.err
  rw [hd]
  rfl
theorem decE_more (l : List UInt8) (hl : 53 < l.length) : (decE (str l)).err = 2 := by
  have h1 := num_of (⟨str l, 0⟩ : RSt) 4 (by omega)
  rw [rd_take l 4 (by omega)] at h1
  have h2 := rd_take (l.drop 4) 33 (by simp; omega)
  have h3 := rd_take ((l.drop 4).drop 33) 16 (by simp; omega)
  have h1' : (⟨str l, 0⟩ : RSt).num 4 = (val (str (l.take 4)).data.toList, ⟨str (l.drop 4), 0⟩) := h1
  have h2' : (⟨str (l.drop 4), 0⟩ : RSt).fixed 33 = (str ((l.drop 4).take 33), ⟨str ((l.drop 4).drop 33), 0⟩) := h2
  have h3' : (⟨str ((l.drop 4).drop 33), 0⟩ : RSt).fixed 16 = (str (((l.drop 4).drop 33).take 16), ⟨str (((l.drop 4).drop 33).drop 16), 0⟩) := h3
  have hd : (decE (str l)).s.done = 2 := by
    unfold decE
    rw [h1']
    simp only
    rw [h2']
    simp only
    rw [h3']
    unfold RSt.done
    rw [if_pos]
    refine ⟨rfl, ?_⟩
    show (((l.drop 4).drop 33).drop 16).length ≠ 0
    simp
    omega
  unfold DecE.err
  rw [hd]
  rfl
theorem done_nil : (⟨str [], 0⟩ : RSt).done = 0 := by
  unfold RSt.done
  rw [if_neg (fun q => q.2 rfl)]
/-- bytes of the right length -/
theorem decE_right (l : List UInt8) (hl : l.length = 53) : (decE (str l)).err = if 6 < val ((l.drop 36).take 1) then 4 else if val (l.take 4) < 1 then 13 else 0 := by
  unfold DecE.err
  rw [decE_53 l hl]
  simp only
  rw [done_nil, decP_33 _ (by simp; omega)]
  unfold DecP.err
  simp only
  rw [done_nil]
  have e : ((l.drop 4).take 33).drop 32 = (l.drop 36).take 1 := by rw [List.drop_take, List.drop_drop]
  rw [e]
  simp only [ne_eq, not_true_eq_false, if_false]
  split
  · simp
  · simp
theorem decE_back (l : List UInt8) (hl : l.length = 53) (he : (decE (str l)).err = 0) : (decE (str l)).ent.err = 0 ∧ (decE (str l)).ent.bytes = l := by
  have hr := decE_right l hl
  rw [he] at hr
  have hb := be_val ((l.drop 36).take 1) 1 (by simp; omega)
  have hv := be_val (l.take 4) 4 (by simp; omega)
  have h6 : ¬ 6 < val ((l.drop 36).take 1) := by intro h; rw [if_pos h] at hr; cases hr
  have h1 : ¬ val (l.take 4) < 1 := by intro h; rw [if_neg h6, if_pos h] at hr; cases hr
  have hlt : val (l.take 4) < 256 ^ 4 := by
    have := val_lt (l.take 4)
    rwa [List.length_take, Nat.min_eq_left (by omega)] at this
  have e : ((l.drop 4).take 33).drop 32 = (l.drop 36).take 1 := by rw [List.drop_take, List.drop_drop]
  unfold DecE.ent
  rw [if_pos he, decE_53 l hl]
  simp only
  rw [decP_33 _ (by simp; omega), e]
  have q1 : (((l.drop 4).take 33).take 16).length = 16 := by simp; omega
  have q2 : ((((l.drop 4).take 33).drop 16).take 16).length = 16 := by simp; omega
  refine ⟨EntS.of_fit ⟨⟨by show 1 ≤ val (l.take 4); omega, by show val (l.take 4) ≤ 4294967295; omega⟩, ⟨⟨by show (0 : Int) ≤ ((val ((l.drop 36).take 1) : Nat) : Int); omega, by show ((val ((l.drop 36).take 1) : Nat) : Int) ≤ 6; omega⟩, q1, q2⟩, ?_⟩, ?_⟩
  · show (l.drop 37).length = 16
    simp
    omega
  · show be (val (l.take 4)) 4 ++ ((((l.drop 4).take 33).take 16 ++ ((((l.drop 4).take 33).drop 16).take 16 ++ be (val ((l.drop 36).take 1)) 1)) ++ l.drop 37) = l
    rw [hb, hv]
    have t1 : ((l.drop 4).take 33).take 16 ++ ((((l.drop 4).take 33).drop 16).take 16 ++ (l.drop 36).take 1) = (l.drop 4).take 33 := by
      rw [← e]
      have : ((l.drop 4).take 33).drop 32 = (((l.drop 4).take 33).drop 16).drop 16 := by rw [List.drop_drop]
      rw [this, List.take_append_drop, List.take_append_drop]
    rw [t1]
    have t2 : (l.drop 4).drop 33 = l.drop 37 := by rw [List.drop_drop]
    rw [← t2, List.take_append_drop, List.take_append_drop]
theorem str_inj {a b : List UInt8} (h : str a = str b) : a = b := by
  have := congrArg (fun x : ByteArray => x.data.toList) h
  simpa [str] using this
theorem text_str (t : ByteArray) : str t.data.toList = t := by apply ByteArray.ext; simp [str]
theorem be_inj {a b k : Nat} (ha : a < 256 ^ k) (hb : b < 256 ^ k) (h : be a k = be b k) : a = b := by
  rw [← val_be a k ha, h, val_be b k hb]
/-- an entry that was written is read -/
theorem decE_enc (x : EntS) (h : x.err = 0) : (decE x.enc).err = 0 ∧ (decE x.enc).ent = x := by
  have hl := EntS.len h
  have hx : x.enc = str x.bytes := by unfold EntS.enc; rw [if_pos h]
  obtain ⟨⟨v1, v2⟩, ⟨⟨k1, k2⟩, k3, k4⟩, k5⟩ := EntS.fit h
  have hb3 : x.bytes = be x.v 4 ++ (x.o.data.toList ++ (x.r.data.toList ++ (be x.h.toNat 1 ++ x.p.data.toList))) := by unfold EntS.bytes pubB; simp only [List.append_assoc]
  have lo : x.o.data.toList.length = 16 := by rw [Array.length_toList]; exact k3
  have lr : x.r.data.toList.length = 16 := by rw [Array.length_toList]; exact k4
  have e1 : x.bytes.take 4 = be x.v 4 := by rw [hb3, List.take_append_of_le_length (by rw [be_length]; omega), List.take_of_length_le (by rw [be_length]; omega)]
  have d4 : x.bytes.drop 4 = x.o.data.toList ++ (x.r.data.toList ++ (be x.h.toNat 1 ++ x.p.data.toList)) := by rw [hb3]; exact List.drop_left' (be_length _ _)
  have d36 : x.bytes.drop 36 = be x.h.toNat 1 ++ x.p.data.toList := by
    have : x.bytes.drop 36 = ((x.bytes.drop 4).drop 16).drop 16 := by rw [List.drop_drop, List.drop_drop]
    rw [this, d4, List.drop_left' lo, List.drop_left' lr]
  have e2 : (x.bytes.drop 36).take 1 = be x.h.toNat 1 := by rw [d36, List.take_append_of_le_length (by rw [be_length]; omega), List.take_of_length_le (by rw [be_length]; omega)]
  have vv : val (be x.v 4) = x.v := val_be _ _ (by show x.v < 4294967296; omega)
  have vh : val (be x.h.toNat 1) = x.h.toNat := val_be _ _ (by show x.h.toNat < 256; omega)
  have he : (decE x.enc).err = 0 := by
    rw [hx, decE_right _ hl, e1, e2, vv, vh, if_neg (by omega), if_neg (by omega)]
  refine ⟨he, ?_⟩
  rw [hx] at he ⊢
  unfold DecE.ent
  rw [if_pos he, decE_53 _ hl]
  simp only
  rw [decP_33 _ (by simp; omega)]
  have e : ((x.bytes.drop 4).take 33).drop 32 = (x.bytes.drop 36).take 1 := by rw [List.drop_take, List.drop_drop]
  have eo : ((x.bytes.drop 4).take 33).take 16 = x.o.data.toList := by
    rw [List.take_take, d4, show min 16 33 = 16 from rfl, List.take_append_of_le_length (by omega), List.take_of_length_le (by omega)]
  have er : (((x.bytes.drop 4).take 33).drop 16).take 16 = x.r.data.toList := by
    rw [List.drop_take, List.take_take, d4, List.drop_left' lo, show min 16 (33 - 16) = 16 from rfl, List.take_append_of_le_length (by omega), List.take_of_length_le (by omega)]
  have ep : x.bytes.drop 37 = x.p.data.toList := by
    have : x.bytes.drop 37 = (x.bytes.drop 36).drop 1 := by rw [List.drop_drop]
    rw [this, d36]
    exact List.drop_left' (be_length _ _)
  simp only
  rw [e, e1, e2, vv, vh, eo, er, ep, text_str, text_str, text_str]
  have : ((x.h.toNat : Nat) : Int) = x.h := by omega
  rw [this]
end Go.Proofs.YtioahjdojgcfdaaDoor

namespace Go.Proofs.YtioahjdojgcfdaaDoor
open Go.Lib

/-- a text's runes, as a range over it gives them -/
def runesN : Nat → List UInt8 → List Nat
  | 0, _ => []
  | n + 1, l => if l = [] then [] else (decodeL l).1 :: runesN n (l.drop (decodeL l).2)
def runes (l : List UInt8) : List Nat := runesN l.length l

theorem runesN_more : ∀ (n m : Nat) (l : List UInt8), l.length ≤ n → l.length ≤ m → runesN n l = runesN m l
  | 0, 0, _, _, _ => rfl
  | 0, m + 1, l, h, _ => by
    have : l = [] := List.eq_nil_of_length_eq_zero (by omega)
    simp [runesN, this]
  | n + 1, 0, l, _, h => by
    have : l = [] := List.eq_nil_of_length_eq_zero (by omega)
    simp [runesN, this]
  | n + 1, m + 1, l, h1, h2 => by
    unfold runesN
    by_cases hl : l = []
    · simp [hl]
    · rw [if_neg hl, if_neg hl]
      have hw := decodeL_width l
      have hp : 0 < l.length := List.length_pos_iff.2 hl
      rw [runesN_more n m (l.drop (decodeL l).2) (by simp; omega) (by simp; omega)]
theorem runes_nil : runes [] = [] := rfl
theorem runes_step (l : List UInt8) (h : l ≠ []) : runes l = (decodeL l).1 :: runes (l.drop (decodeL l).2) := by
  have hp : 0 < l.length := List.length_pos_iff.2 h
  have hw := decodeL_width l
  obtain ⟨n, hn⟩ : ∃ n, l.length = n + 1 := ⟨l.length - 1, by omega⟩
  unfold runes
  rw [hn]
  conv => lhs; unfold runesN
  rw [if_neg h, runesN_more n (l.drop (decodeL l).2).length _ (by simp; omega) (Nat.le_refl _)]

/-- the document's next rune -/
def bad (l : List UInt8) : Prop := (decodeL l).1 = 65533 ∧ (decodeL l).2 = 1
instance (l : List UInt8) : Decidable (bad l) := by unfold bad; infer_instance
def refNextL (l : List UInt8) : Nat × Nat := if l = [] then (0, 0) else if bad l then (0, 0) else decodeL l

theorem validD_nil : validD [] = true := rfl
theorem runes_length_le : ∀ (n : Nat) (l : List UInt8), l.length ≤ n → (runes l).length ≤ l.length
  | 0, l, h => by
    have : l = [] := List.eq_nil_of_length_eq_zero (by omega)
    simp [this, runes_nil]
  | n + 1, l, h => by
    by_cases hl : l = []
    · simp [hl, runes_nil]
    · rw [runes_step l hl]
      have hw := decodeL_width l
      have hle := decodeL_le l hl
      have := runes_length_le n (l.drop (decodeL l).2) (by simp; omega)
      simp at this ⊢
      omega

/-- the document's next rune, by its bytes -/
def refB (n b0 b1 b2 b3 : Nat) : Nat × Nat :=
  if b0 < 128 then (b0, 1)
  else if 192 ≤ b0 ∧ b0 < 224 then
    (if n < 2 then (0, 0) else if b1 < 128 ∨ 192 ≤ b1 then (0, 0) else if (b0 - 192) * 64 + (b1 - 128) < 128 then (0, 0) else ((b0 - 192) * 64 + (b1 - 128), 2))
  else if 224 ≤ b0 ∧ b0 < 240 then
    (if n < 3 then (0, 0) else if b1 < 128 ∨ 192 ≤ b1 then (0, 0) else if b2 < 128 ∨ 192 ≤ b2 then (0, 0) else
      if (b0 - 224) * 4096 + (b1 - 128) * 64 + (b2 - 128) < 2048 ∨ (55296 ≤ (b0 - 224) * 4096 + (b1 - 128) * 64 + (b2 - 128) ∧ (b0 - 224) * 4096 + (b1 - 128) * 64 + (b2 - 128) < 57344) then (0, 0) else ((b0 - 224) * 4096 + (b1 - 128) * 64 + (b2 - 128), 3))
  else if 240 ≤ b0 ∧ b0 < 248 then
    (if n < 4 then (0, 0) else if b1 < 128 ∨ 192 ≤ b1 then (0, 0) else if b2 < 128 ∨ 192 ≤ b2 then (0, 0) else if b3 < 128 ∨ 192 ≤ b3 then (0, 0) else
      if (b0 - 240) * 262144 + (b1 - 128) * 4096 + (b2 - 128) * 64 + (b3 - 128) < 65536 ∨ 1114111 < (b0 - 240) * 262144 + (b1 - 128) * 4096 + (b2 - 128) * 64 + (b3 - 128) then (0, 0) else ((b0 - 240) * 262144 + (b1 - 128) * 4096 + (b2 - 128) * 64 + (b3 - 128), 4))
  else (0, 0)

theorem refB_eq (n b0 b1 b2 b3 : Nat) (h0 : b0 < 256) (h1 : b1 < 256) (h2 : b2 < 256) (h3 : b3 < 256) :
    refB n b0 b1 b2 b3 = if (decodeN n b0 b1 b2 b3).1 = 65533 ∧ (decodeN n b0 b1 b2 b3).2 = 1 then (0, 0) else decodeN n b0 b1 b2 b3 := by
  by_cases c0 : b0 < 128
  · have e : decodeN n b0 b1 b2 b3 = (b0, 1) := by unfold decodeN; rw [if_pos c0]
    have r : refB n b0 b1 b2 b3 = (b0, 1) := by unfold refB; rw [if_pos c0]
    rw [e, r, if_neg (by intro h; have := h.1; simp at this; omega)]
  · by_cases c2 : 192 ≤ b0 ∧ b0 < 224
    · have k2 : b0 / 32 = 6 := by omega
      have m2 : b0 % 32 = b0 - 192 := by omega
      by_cases d : n < 2 ∨ b1 < 128 ∨ 192 ≤ b1
      · have e : decodeN n b0 b1 b2 b3 = (65533, 1) := by
          unfold decodeN
          rw [if_neg c0, if_neg (by omega), if_neg (by omega), if_neg (by omega)]
        have r : refB n b0 b1 b2 b3 = (0, 0) := by
          unfold refB
          rw [if_neg c0, if_pos c2]
          by_cases hn : n < 2
          · rw [if_pos hn]
          · rw [if_neg hn, if_pos (by omega)]
        rw [e, r, if_pos ⟨rfl, rfl⟩]
      · have m1 : b1 % 64 = b1 - 128 := by omega
        have e : decodeN n b0 b1 b2 b3 = if (b0 - 192) * 64 + (b1 - 128) ≥ 128 then ((b0 - 192) * 64 + (b1 - 128), 2) else (65533, 1) := by
          unfold decodeN
          rw [if_neg c0, if_pos (by omega), m2, m1]
        have r : refB n b0 b1 b2 b3 = if (b0 - 192) * 64 + (b1 - 128) < 128 then (0, 0) else ((b0 - 192) * 64 + (b1 - 128), 2) := by
          unfold refB
          rw [if_neg c0, if_pos c2, if_neg (by omega), if_neg (by omega)]
        by_cases hv : (b0 - 192) * 64 + (b1 - 128) < 128
        · have e' : decodeN n b0 b1 b2 b3 = (65533, 1) := by rw [e, if_neg (by omega)]
          rw [e', r, if_pos hv, if_pos ⟨rfl, rfl⟩]
        · rw [if_pos (by omega)] at e
          rw [e, r, if_neg hv, if_neg (by intro h; have := h.2; simp at this)]
    · by_cases c3 : 224 ≤ b0 ∧ b0 < 240
      · have k3 : b0 / 16 = 14 := by omega
        have m2 : b0 % 16 = b0 - 224 := by omega
        by_cases d : n < 3 ∨ (b1 < 128 ∨ 192 ≤ b1) ∨ (b2 < 128 ∨ 192 ≤ b2)
        · have e : decodeN n b0 b1 b2 b3 = (65533, 1) := by
            unfold decodeN
            rw [if_neg c0, if_neg (by omega), if_neg (by omega), if_neg (by omega)]
          have r : refB n b0 b1 b2 b3 = (0, 0) := by
            unfold refB
            rw [if_neg c0, if_neg c2, if_pos c3]
            by_cases hn : n < 3
            · rw [if_pos hn]
            · rw [if_neg hn]
              by_cases h1' : b1 < 128 ∨ 192 ≤ b1
              · rw [if_pos h1']
              · rw [if_neg h1', if_pos (by omega)]
          rw [e, r, if_pos ⟨rfl, rfl⟩]
        · have m1 : b1 % 64 = b1 - 128 := by omega
          have m3 : b2 % 64 = b2 - 128 := by omega
          obtain ⟨v, hv⟩ : ∃ v, v = (b0 - 224) * 4096 + (b1 - 128) * 64 + (b2 - 128) := ⟨_, rfl⟩
          have e : decodeN n b0 b1 b2 b3 = if v ≥ 2048 ∧ (v < 55296 ∨ (57344 ≤ v ∧ v ≤ 1114111)) then (v, 3) else (65533, 1) := by
            unfold decodeN
            rw [if_neg c0, if_neg (by omega), if_pos (by omega), m2, m1, m3, ← hv]
          have r : refB n b0 b1 b2 b3 = if v < 2048 ∨ (55296 ≤ v ∧ v < 57344) then (0, 0) else (v, 3) := by
            unfold refB
            rw [if_neg c0, if_neg c2, if_pos c3, if_neg (by omega), if_neg (by omega), if_neg (by omega), ← hv]
          by_cases hw : v < 2048 ∨ (55296 ≤ v ∧ v < 57344)
          · have e' : decodeN n b0 b1 b2 b3 = (65533, 1) := by rw [e, if_neg (by omega)]
            rw [e', r, if_pos hw, if_pos ⟨rfl, rfl⟩]
          · rw [if_pos (by omega)] at e
            rw [e, r, if_neg hw, if_neg (by intro h; have := h.2; simp at this)]
      · by_cases c4 : 240 ≤ b0 ∧ b0 < 248
        · have k4 : b0 / 8 = 30 := by omega
          have m2 : b0 % 8 = b0 - 240 := by omega
          by_cases d : n < 4 ∨ (b1 < 128 ∨ 192 ≤ b1) ∨ (b2 < 128 ∨ 192 ≤ b2) ∨ (b3 < 128 ∨ 192 ≤ b3)
          · have e : decodeN n b0 b1 b2 b3 = (65533, 1) := by
              unfold decodeN
              rw [if_neg c0, if_neg (by omega), if_neg (by omega), if_neg (by omega)]
            have r : refB n b0 b1 b2 b3 = (0, 0) := by
              unfold refB
              rw [if_neg c0, if_neg c2, if_neg c3, if_pos c4]
              by_cases hn : n < 4
              · rw [if_pos hn]
              · rw [if_neg hn]
                by_cases h1' : b1 < 128 ∨ 192 ≤ b1
                · rw [if_pos h1']
                · rw [if_neg h1']
                  by_cases h2' : b2 < 128 ∨ 192 ≤ b2
                  · rw [if_pos h2']
                  · rw [if_neg h2', if_pos (by omega)]
            rw [e, r, if_pos ⟨rfl, rfl⟩]
          · have m1 : b1 % 64 = b1 - 128 := by omega
            have m3 : b2 % 64 = b2 - 128 := by omega
            have m4 : b3 % 64 = b3 - 128 := by omega
            obtain ⟨v, hv⟩ : ∃ v, v = (b0 - 240) * 262144 + (b1 - 128) * 4096 + (b2 - 128) * 64 + (b3 - 128) := ⟨_, rfl⟩
            have e : decodeN n b0 b1 b2 b3 = if v ≥ 65536 ∧ (v < 55296 ∨ (57344 ≤ v ∧ v ≤ 1114111)) then (v, 4) else (65533, 1) := by
              unfold decodeN
              rw [if_neg c0, if_neg (by omega), if_neg (by omega), if_pos (by omega), m2, m1, m3, m4, ← hv]
            have r : refB n b0 b1 b2 b3 = if v < 65536 ∨ 1114111 < v then (0, 0) else (v, 4) := by
              unfold refB
              rw [if_neg c0, if_neg c2, if_neg c3, if_pos c4, if_neg (by omega), if_neg (by omega), if_neg (by omega), if_neg (by omega), ← hv]
            by_cases hw : v < 65536 ∨ 1114111 < v
            · have e' : decodeN n b0 b1 b2 b3 = (65533, 1) := by rw [e, if_neg (by omega)]
              rw [e', r, if_pos hw, if_pos ⟨rfl, rfl⟩]
            · rw [if_pos (by omega)] at e
              rw [e, r, if_neg hw, if_neg (by intro h; have := h.2; simp at this)]
        · have e : decodeN n b0 b1 b2 b3 = (65533, 1) := by
            unfold decodeN
            rw [if_neg c0, if_neg (by omega), if_neg (by omega), if_neg (by omega)]
          have r : refB n b0 b1 b2 b3 = (0, 0) := by
            unfold refB
            rw [if_neg c0, if_neg c2, if_neg c3, if_neg c4]
          rw [e, r, if_pos ⟨rfl, rfl⟩]

theorem refNextL_eq (l : List UInt8) (h : l ≠ []) : refNextL l = refB l.length (l.getD 0 0).toNat (l.getD 1 0).toNat (l.getD 2 0).toNat (l.getD 3 0).toNat := by
  have hb : ∀ k, (l.getD k 0).toNat < 256 := fun k => (l.getD k 0).toNat_lt
  rw [refB_eq _ _ _ _ _ (hb 0) (hb 1) (hb 2) (hb 3), ← decodeL_N]
  unfold refNextL bad
  rw [if_neg h]
end Go.Proofs.YtioahjdojgcfdaaDoor

namespace Go.Proofs.YtioahjdojgcfdaaDoor
open Go.RowKit Go.Lib

/-- unicode/utf8's two tables -/
abbrev TabsAt (w : World) : Prop := Lib.Utf8Tabs (Tryd.laysValid_ren.g 3) (Tryd.laysValid_ren.g 4) w

set_option maxRecDepth 100000 in
set_option maxHeartbeats 1000000 in
theorem runes_bad (s : ByteArray) (w : World) (hs : s.size ≤ 4611686018427387904) (hT : TabsAt w) (hv : validD s.data.toList = false) :
    Calls Tryd.prog 130 #[.string s] w fun e w' => e = .returned (.tuple #[.int .i64 0, .bool false]) ∧ Below w.heap.size w w' := by
  have HT := Lib.hid hT
  have HV := Lib.hid hv
  clear hT hv
  go_enter Tryd.func130, Tryd.ntmps130
  go_wp2_with fail
  refine (Tryd.utf8_ValidString s _ (by omega) HT.out).mono ?_
  rintro e w1 ⟨rfl, hb⟩
  rw [HV.out]
  have HB := Lib.hid hb
  clear hb
  go_wp2
  go_ret2
  exact ⟨rfl, HB.out⟩

theorem pos_step (s : ByteArray) (pos : Nat) (h : pos < s.size) : 1 ≤ (Utf8.decode s pos).2 ∧ pos + (Utf8.decode s pos).2 ≤ s.size ∧ runes (s.data.toList.drop pos) = (Utf8.decode s pos).1 :: runes (s.data.toList.drop (pos + (Utf8.decode s pos).2)) := by
  have hne : s.data.toList.drop pos ≠ [] := by
    intro e
    have : (s.data.toList.drop pos).length = 0 := by rw [e]; rfl
    rw [List.length_drop] at this
    have h2 : s.data.toList.length = s.size := rfl
    omega
  have hd := decodeL_drop s pos
  have h1 := decodeL_width (s.data.toList.drop pos)
  have h2 := decodeL_le _ hne
  have h3 := runes_step _ hne
  rw [hd] at h1 h2 h3
  rw [List.length_drop] at h2
  have h4 : s.data.toList.length = s.size := rfl
  refine ⟨h1, by omega, ?_⟩
  rw [h3, List.drop_drop]

set_option maxRecDepth 100000 in
set_option maxHeartbeats 1000000 in
theorem runes_good (s : ByteArray) (w : World) (hs : s.size ≤ 4611686018427387904) (hT : TabsAt w) (hv : validD s.data.toList = true) :
    Calls Tryd.prog 130 #[.string s] w fun e w' => e = .returned (.tuple #[.int .i64 (runes s.data.toList).length, .bool true]) ∧ Below w.heap.size w w' := by
  have HT := Lib.hid hT
  have HV := Lib.hid hv
  clear hT hv
  go_enter Tryd.func130, Tryd.ntmps130
  go_wp2_with fail
  refine (Tryd.utf8_ValidString s _ (by omega) HT.out).mono ?_
  rintro e w1 ⟨rfl, hb⟩
  rw [HV.out]
  have HB := Lib.hid hb
  clear hb
  go_wp2_with fail
  go_loopw [4] (fun v wr => ∃ pos n : Nat, pos ≤ s.size ∧ n ≤ pos ∧ v = .int .i64 n ∧ Hid (n + (runes (s.data.toList.drop pos)).length = (runes s.data.toList).length) ∧ wr = w1.iter s pos) (fun _ wr => s.size - wr.iterPos w1.heap.size)
  case atStart => exact ⟨0, 0, Nat.zero_le _, Nat.le_refl _, rfl, by simp [Hid], rfl⟩
  case round =>
    obtain ⟨pos, n, hp, hn, rfl, HL, rfl⟩ := hrel
    by_cases hlt : pos < s.size
    · have hnx := fun ty => run_next_any (P := Tryd.prog) w1 s pos ty hlt
      obtain ⟨k1, k2, k3⟩ := pos_step s pos hlt
      have HS := Lib.hid (And.intro k1 (And.intro k2 k3))
      clear k1 k2 k3
      go_wp2
      go_roundw
      case rel =>
        refine ⟨pos + (Utf8.decode s pos).2, n + 1, HS.out.2.1, by have := HS.out.1; omega, by go_num, ?_, rfl⟩
        have := HL.out
        rw [HS.out.2.2, List.length_cons] at this
        show _ = _
        omega
      case measure =>
        have := HS.out.1
        simp
        omega
    · have hnx := fun ty => run_next_end (P := Tryd.prog) w1 s pos ty hlt
      go_wp2
      go_ret2
      have hd : s.data.toList.drop pos = [] := List.drop_eq_nil_of_le (by show s.size ≤ pos; omega)
      have := HL.out
      rw [hd, runes_nil] at this
      simp only [List.length_nil, Nat.add_zero] at this
      refine ⟨?_, (HB.out.alloc HB.out.size _ : Below _ _ (w1.iter s pos))⟩
      rw [← this]
      rfl

/-- the alphabets of some runes, one behind the other -/
def alphOf (a : Int) (l : List Nat) : Int := l.foldl (fun (a : Int) (r : Nat) => bits .or .i64 a (letterI (r : Int))) a

set_option maxRecDepth 100000 in
set_option maxHeartbeats 1000000 in
theorem alphabets_any (s : ByteArray) (w : World) (hs : s.size ≤ 4611686018427387904) (hA : AlphaAt w) (hG : 4 < w.heap.size) :
    Calls Tryd.prog 172 #[.string s] w fun e w' => e = .returned (.int .i64 (alphOf 0 (runes s.data.toList))) ∧ Below w.heap.size w w' := by
  have HA := Lib.hid hA
  clear hA
  go_enter Tryd.func172, Tryd.ntmps172
  go_wp2_with fail
  go_loopg [3, 5] s.size (fun g v _ wr => ∃ pos : Nat, ∃ a : Int, pos + g ≥ s.size ∧ pos ≤ s.size ∧ v = .int .i64 a ∧ Aside (alphOf a (runes (s.data.toList.drop pos)) = alphOf 0 (runes s.data.toList)) ∧ Hid (wr.heap[w.heap.size]? = some (.stringIter s pos)) ∧ Hid (Below w.heap.size w wr))
  case atStart => exact ⟨0, 0, by omega, Nat.zero_le _, rfl, by simp [Aside], w.iter_heap s 0, (Below.refl _ _).alloc (Nat.le_refl _) _⟩
  case round =>
    obtain ⟨pos, a, hg, hp, rfl, HL, HI, HB⟩ := hrel
    by_cases hlt : pos < s.size
    · have hnx := fun ty => run_next_any_at (P := Tryd.prog) wr w.heap.size s pos ty HI.out hlt
      obtain ⟨k1, k2, k3⟩ := pos_step s pos hlt
      have HS := Lib.hid (And.intro k1 (And.intro k2 k3))
      have hr : ((Utf8.decode s pos).1 : Int) ≤ 1114111 := by
        have := decodeL_rune (s.data.toList.drop pos)
        rw [decodeL_drop] at this
        omega
      clear k1 k2 k3
      have HB2 := Lib.hid (below_iterAt HB.out (Nat.le_refl _) s (pos + (Utf8.decode s pos).2))
      have HI2 := Lib.hid (iterAt_heap wr w.heap.size s pos (pos + (Utf8.decode s pos).2) HI.out)
      go_wp2_with fail
      refine (alphabetOf_any _ ⟨by omega, by omega⟩ _ (HA.out.below HB2.out hG) (Nat.lt_of_lt_of_le hG HB2.out.size)).mono ?_
      rintro e w2 ⟨rfl, hb2⟩
      have HB3 : Hid (Below w.heap.size w w2) := HB2.out.trans (hb2.mono HB2.out.size)
      have HI3 : Hid (w2.heap[w.heap.size]? = some (.stringIter s (pos + (Utf8.decode s pos).2))) := (hb2.block _ (Array.getElem?_eq_some_iff.1 HI2.out).1).trans HI2.out
      clear hb2 hnx
      go_wp2_with fail
      go_roundg (gk - 1)
      case measure => omega
      case rel =>
        refine ⟨pos + (Utf8.decode s pos).2, _, by have := HS.out.1; omega, HS.out.2.1, rfl, ?_, HI3, HB3⟩
        have := HL.out
        rw [HS.out.2.2] at this
        exact this
    · have hnx := fun ty => run_next_end_at (P := Tryd.prog) wr w.heap.size s pos ty HI.out hlt
      go_wp2
      go_ret
      have hd : s.data.toList.drop pos = [] := List.drop_eq_nil_of_le (by show s.size ≤ pos; omega)
      have := HL.out
      rw [hd, runes_nil] at this
      refine ⟨?_, HB.out⟩
      rw [← this]
      rfl
end Go.Proofs.YtioahjdojgcfdaaDoor

namespace Go.Proofs.YtioahjdojgcfdaaDoor
open Go.RowKit
attribute [local irreducible] shaL

theorem wr_numS {w : World} {b : Nat} {st : WSt} (n : Nat) (hn : n ≤ 18446744073709551615) (k : Int) (h : WrAt w b st) (hr : total st.ts ≤ 1000000000) :
    Calls Tryd.prog 83 #[.pointer (some ⟨b, 0, none⟩), .int .u64 n, .int .i64 k] w fun e w' => e = .returned (.pointer (some ⟨b, 0, none⟩)) ∧ WrAt w' b (st.num n k) ∧ w.grownBy w' (some b) := by
  refine (wnum_any n hn k w (some ⟨b, 0, none⟩) (some st) ⟨b, rfl, h⟩ (fun x e => by cases e; omega)).mono ?_
  rintro e w' ⟨rfl, hw, g⟩
  obtain ⟨b', e', hw⟩ := hw
  cases e'
  exact ⟨rfl, hw, g⟩
theorem wr_fixedS {w : World} {b : Nat} {st : WSt} (s : ByteArray) (k : Int) (h : WrAt w b st) (hr : s.size + total st.ts ≤ 1000000000) :
    Calls Tryd.prog 60 #[.pointer (some ⟨b, 0, none⟩), .string s, .int .i64 k] w fun e w' => e = .returned (.pointer (some ⟨b, 0, none⟩)) ∧ WrAt w' b (st.fixed s k) ∧ w.grownBy w' (some b) := by
  refine (wfixed_any s k w (some ⟨b, 0, none⟩) (some st) ⟨b, rfl, h⟩ (fun x e => by cases e; omega)).mono ?_
  rintro e w' ⟨rfl, hw, g⟩
  obtain ⟨b', e', hw⟩ := hw
  cases e'
  exact ⟨rfl, hw, g⟩
theorem wr_bytesS {w : World} {b : Nat} {st : WSt} (h : WrAt w b st) (hr : total st.ts ≤ 1000000000) :
    Calls Tryd.prog 62 #[.pointer (some ⟨b, 0, none⟩)] w fun e w' => e = .returned (.tuple #[.string st.ans, .int .i64 st.err]) ∧ w.grownBy w' none := by
  by_cases he : st.err = 0
  · obtain ⟨ts, err⟩ := st
    have he' : err = 0 := he
    subst he'
    exact bytes_ok w b ts h (Nat.le_trans hr (by decide))
  · refine (bytes_err w b st h he).mono ?_
    rintro e w' ⟨rfl, g⟩
    refine ⟨?_, g⟩
    unfold WSt.ans
    rw [if_neg he]
    rfl
end Go.Proofs.YtioahjdojgcfdaaDoor

namespace Go.Proofs.YtioahjdojgcfdaaDoor
open Go.RowKit

theorem rd_numS {w : World} {b : Nat} {s : RSt} (k : Int) (h : RdAt w b s.rest s.err) (hm : s.rest.size ≤ maxLen) :
    Calls Tryd.prog 64 #[.pointer (some ⟨b, 0, none⟩), .int .i64 k] w fun e w' => e = .returned (.int .u64 (s.num k).1) ∧ RdAt w' b (s.num k).2.rest (s.num k).2.err ∧ w.grownBy w' (some b) := by
  refine (rnum_any k w (some ⟨b, 0, none⟩) (some s) ⟨b, rfl, h⟩ (by rintro x ⟨⟩; exact hm)).mono ?_
  rintro e w' ⟨rfl, hw, g⟩
  obtain ⟨b', e', hw⟩ := hw
  cases e'
  exact ⟨rfl, hw, g⟩
theorem rd_fixedS {w : World} {b : Nat} {s : RSt} (k : Int) (h : RdAt w b s.rest s.err) (hm : s.rest.size ≤ maxLen) :
    Calls Tryd.prog 65 #[.pointer (some ⟨b, 0, none⟩), .int .i64 k] w fun e w' => e = .returned (.string (s.fixed k).1) ∧ RdAt w' b (s.fixed k).2.rest (s.fixed k).2.err ∧ w.grownBy w' (some b) := by
  refine (rfixed_any k w (some ⟨b, 0, none⟩) (some s) ⟨b, rfl, h⟩ (by rintro x ⟨⟩; exact hm)).mono ?_
  rintro e w' ⟨rfl, hw, g⟩
  obtain ⟨b', e', hw⟩ := hw
  cases e'
  exact ⟨rfl, hw, g⟩
theorem rd_endS {w : World} {b : Nat} {s : RSt} (h : RdAt w b s.rest s.err) :
    Calls Tryd.prog 67 #[.pointer (some ⟨b, 0, none⟩)] w fun e w' => e = .returned (.int .i64 s.done) ∧ w = w' :=
  end_any w (some ⟨b, 0, none⟩) (some s) ⟨b, rfl, h⟩
end Go.Proofs.YtioahjdojgcfdaaDoor

namespace Go.Proofs.YtioahjdojgcfdaaDoor
open Go.RowKit
attribute [local irreducible] shaL

theorem grown_row {a b c : World} {row : Option Nat} (h : a.grownBy b none) (k : b.grownBy c row) (hn : ∀ g, row = some g → a.heap.size ≤ g) : a.grownBy c none :=
  ⟨k.os.trans h.os, k.tape.trans h.tape, k.output.trans h.output, Nat.le_trans h.size k.size, fun i hi hne => (k.block i (Nat.lt_of_lt_of_le hi h.size) (by intro e; have := hn i e.symm; omega)).trans (h.block i hi hne)⟩
theorem ShaReady.grown {w w' : World} (h : ShaReady w) (hg : w.grownBy w' none) : ShaReady w' := h.kept hg (by simp) (by simp)

/-- sha.Tagged of texts in a new block -/
theorem tagged_new (w : World) (tag : UInt8) (L : List ByteArray) (vs : List Value) (n : Nat) (tg : Int) (hv : vs = L.map Value.string) (hn : n = L.length) (ht : (tag.toNat : Int) = tg) (hr : ShaReady w) (hN : L.length ≤ 1000) (hs : ∀ s ∈ L, s.size ≤ 1000000000000) :
    Calls Tryd.prog 46 #[.int .u8 tg, .slice (some ⟨w.heap.size, 0, none⟩) n n] (w.alloc (.cells vs.toArray 9)) fun e w' => e = .returned (.string (tagS tag L)) ∧ w.grownBy w' none := by
  subst hv
  subst ht
  refine (tagged_any _ tag _ L (strs_new w L 9 n hn) (hr.grown (World.grownBy_alloc _ _ _)) (by unfold maxLen; omega) ?_).mono fun e w' h => ⟨h.1, grownBy_trans (World.grownBy_alloc _ _ _) h.2⟩
  have := tagB_length tag L _ hs
  have h2 : L.length * (4 + 1000000000000) ≤ 1000 * (4 + 1000000000000) := Nat.mul_le_mul_right _ hN
  omega

end Go.Proofs.YtioahjdojgcfdaaDoor

namespace Go.Proofs.YtioahjdojgcfdaaDoor
open Go.RowKit
attribute [local irreducible] shaL

theorem hmb_any (h : Int) (w : World) :
    Calls Tryd.prog 82 #[.int .i64 h] w fun e w' => e = .returned (.bool (decide (0 ≤ h ∧ h ≤ 6))) ∧ w = w' := by
  by_cases h1 : 0 ≤ h
  · by_cases h2 : h ≤ 6
    · rw [decide_eq_true (show 0 ≤ h ∧ h ≤ 6 from ⟨h1, h2⟩)]
      go_enter Tryd.func82, Tryd.ntmps82
      go_wp2_with fail
      go_ret
      exact ⟨rfl, rfl⟩
    · rw [decide_eq_false (show ¬ (0 ≤ h ∧ h ≤ 6) from fun q => h2 q.2)]
      go_enter Tryd.func82, Tryd.ntmps82
      go_wp2_with fail
      go_ret
      exact ⟨rfl, rfl⟩
  · rw [decide_eq_false (show ¬ (0 ≤ h ∧ h ≤ 6) from fun q => h1 q.1)]
    go_enter Tryd.func82, Tryd.ntmps82
    go_wp2_with fail
    go_ret
    exact ⟨rfl, rfl⟩

def pubZ (o r : ByteArray) (h : Int) : Value := .agg #[.string o, .string r, .int .i64 h]
theorem pubErr_out {o r : ByteArray} {h : Int} (k : ¬ (0 ≤ h ∧ h ≤ 6)) : pubErr o r h = 10 ∧ pubEnc o r h = ⟨#[]⟩ := by
  have : ¬ pubOk o r h := fun q => k q.1
  unfold pubErr pubEnc
  rw [if_neg this, if_neg this]
  exact ⟨rfl, rfl⟩
/-- a struct of three cells in a block: its cells -/
theorem cells3 {w : World} {b : Nat} {t : TypeId} {a0 a1 a2 : Value} (h : w.heap[b]? = some (.cells #[a0, a1, a2] t (0, 0))) : w.cell? ⟨b, 0, none⟩ = some a0 ∧ w.cell? ⟨b, 1, none⟩ = some a1 ∧ w.cell? ⟨b, 2, none⟩ = some a2 := by
  refine ⟨?_, ?_, ?_⟩ <;> rw [cell_of h] <;> rfl
set_option maxRecDepth 100000 in
set_option maxHeartbeats 1600000 in
theorem pencode_any (o r : ByteArray) (h : Int) (ho : o.size ≤ 100000) (hr : r.size ≤ 100000) (w : World) :
    Calls Tryd.prog 39 #[pubZ o r h] w fun e w' => e = .returned (.tuple #[.string (pubEnc o r h), .int .i64 (pubErr o r h)]) ∧ w.grownBy w' none := by
  unfold pubZ
  have hb0 := heap_alloc_at w (.cells #[.string o, .string r, .int .i64 h] 50) _ rfl
  have hg0 : w.grownBy (w.alloc (.cells #[.string o, .string r, .int .i64 h] 50)) none := World.grownBy_alloc _ _ _
  obtain ⟨W0, hW0⟩ : ∃ W0, w.alloc (.cells #[.string o, .string r, .int .i64 h] 50) = W0 := ⟨_, rfl⟩
  rw [hW0] at hb0 hg0
  obtain ⟨x0, x1, x2⟩ := cells3 hb0
  have HB0 := Lib.hid hb0
  have HG0 := Lib.hid hg0
  have HW0 := Lib.hid hW0
  clear hb0 hg0 hW0
  by_cases hh : 0 ≤ h ∧ h ≤ 6
  · obtain ⟨k, rfl⟩ := Int.eq_ofNat_of_zero_le hh.1
    have hk : k ≤ 6 := by omega
    have HM : Hid (∀ w0 : World, Calls Tryd.prog 82 #[.int .i64 k] w0 fun e w' => e = .returned (.bool true) ∧ w0 = w') := fun w0 => by
      have := hmb_any k w0
      rwa [decide_eq_true hh] at this
    have HA := Lib.hid (pubW_ans o r k hk)
    have HSZ := Lib.hid (And.intro ho hr)
    have c1 : IntKind.u64.wrap (k : Int) = (k : Int) := wrap_u64 k (by omega)
    clear hh ho hr
    go_enter Tryd.func39, Tryd.ntmps39
    go_wp2_with (rw [HW0.out])
    refine (HM.out _).mono ?_
    rintro e w1 ⟨rfl, hw1⟩
    subst hw1
    have hWB : WrAt (W0.alloc (.cells #[.pointer none, .int .i64 0, .int .i64 0] 114)) W0.heap.size ⟨[], 0⟩ := ⟨.pointer none, heap_alloc_at W0 _ _ rfl, rfl⟩
    have hg1 : W0.grownBy (W0.alloc (.cells #[.pointer none, .int .i64 0, .int .i64 0] 114)) none := World.grownBy_alloc _ _ _
    have hb1 := hg1.heap HB0.out (by simp)
    obtain ⟨XB, hXB⟩ : ∃ XB, w.heap.size = XB := ⟨_, rfl⟩
    obtain ⟨WB, hWBn⟩ : ∃ WB, W0.heap.size = WB := ⟨_, rfl⟩
    obtain ⟨W1, hW1⟩ : ∃ W1, W0.alloc (.cells #[.pointer none, .int .i64 0, .int .i64 0] 114) = W1 := ⟨_, rfl⟩
    have hlt : w.heap.size < W0.heap.size := (Array.getElem?_eq_some_iff.1 HB0.out).1
    rw [hW1] at hWB hg1 hb1
    rw [hWBn] at hWB hlt
    rw [hXB] at hb1 hlt x0 x1 x2 ⊢
    have HLT := Lib.hid hlt
    have HX := Lib.hid hXB
    have HG1 := Lib.hid (grownBy_trans HG0.out hg1)
    have HWBn := Lib.hid hWBn
    have HW1 := Lib.hid hW1
    have HWR := Lib.hid hWB
    obtain ⟨y0, y1, y2⟩ := cells3 hb1
    have hne2 : ∀ (w' w'' : World) (o : Nat) (u : Value), w'.grownBy w'' (some WB) → w'.cell? ⟨XB, o, none⟩ = some u → w''.cell? ⟨XB, o, none⟩ = some u := fun w' w'' o u g h => g.cell h (fun e => by have := HLT.out; simp at e; omega)
    have HNE := Lib.hid hne2
    have hnew : ∀ g, some WB = some g → w.heap.size ≤ g := fun g e => by cases e; have := HLT.out; have := HX.out; omega
    have HNEW := Lib.hid hnew
    have t0 : total (⟨[], 0⟩ : WSt).ts = 0 := rfl
    have t1 := total_fixed (⟨[], 0⟩ : WSt) o 16
    have t2 := total_fixed ((⟨[], 0⟩ : WSt).fixed o 16) r 16
    have t3 := pubW_total o r k
    have hF1 := fun (w' : World) (q : WrAt w' WB ⟨[], 0⟩) => wr_fixedS o 16 q (by have := HSZ.out; omega)
    have hF2 := fun (w' : World) (q : WrAt w' WB ((⟨[], 0⟩ : WSt).fixed o 16)) => wr_fixedS r 16 q (by have := HSZ.out; omega)
    have hN := fun (w' : World) (q : WrAt w' WB (((⟨[], 0⟩ : WSt).fixed o 16).fixed r 16)) => wr_numS k (by omega) 1 q (by have := HSZ.out; omega)
    have hBY := fun (w' : World) (q : WrAt w' WB (pubW o r k)) => wr_bytesS q (by have := HSZ.out; omega)
    have hpw : (((⟨[], 0⟩ : WSt).fixed o 16).fixed r 16).num k 1 = pubW o r k := rfl
    rw [hpw] at hN
    have HF1 := Lib.hid hF1
    have HF2 := Lib.hid hF2
    have HN := Lib.hid hN
    rw [HA.out.1, HA.out.2] at hBY
    have HBY := Lib.hid hBY
    clear hWB hg1 hb1 hXB hWBn hW1 hlt hne2 hnew t0 t1 t2 t3 hF1 hF2 hN hBY hpw x0 x1 x2
    go_wp2_with (rw [HW1.out, HWBn.out])
    have hdw : WrAt W1.drew WB ⟨[], 0⟩ := HWR.out.grown (grownBy_drew (World.grownBy.refl _ _))
    go_region_held3 (fun w' => w'.cell? ⟨XB, 0, none⟩ = some (.string o) ∧ w'.cell? ⟨XB, 1, none⟩ = some (.string r)) (first | exact ck | exact ⟨y0, y1⟩)
      (first
      | (go_at_call 60; (with_reducible refine (HF1.out _ hdw).mono ?_); rintro e w3 ⟨rfl, hw3, g3⟩; have ck := And.intro (HNE.out _ _ _ _ g3 y0) (HNE.out _ _ _ _ g3 y1))
      | (go_at_call 60; (with_reducible refine (HF2.out _ hw3).mono ?_); rintro e w4 ⟨rfl, hw4, g4⟩; have ck := And.intro (HNE.out _ _ _ _ g4 ck.1) (HNE.out _ _ _ _ g4 ck.2)))
    have z2 := HNE.out _ _ _ _ g4 (HNE.out _ _ _ _ g3 y2)
    have HG4 := Lib.hid (grown_row (grown_row (grownBy_drew HG1.out) g3 HNEW.out) g4 HNEW.out)
    have HW4 := Lib.hid hw4
    clear ck g3 g4 hw3 hw4
    go_wp2_with fail
    refine (HN.out _ HW4.out).mono ?_
    rintro e w5 ⟨rfl, hw5, g5⟩
    have HW5 := Lib.hid hw5
    have HG5 := Lib.hid (grown_row HG4.out g5 HNEW.out)
    clear hw5 g5
    go_wp2_with fail
    refine (HBY.out _ HW5.out).mono ?_
    rintro e w6 ⟨rfl, g6⟩
    have HG6 := Lib.hid (grownBy_trans HG5.out g6)
    clear g6
    go_wp2_with fail
    go_returns
    exact ⟨rfl, HG6.out⟩
  · have HM : Hid (∀ w0 : World, Calls Tryd.prog 82 #[.int .i64 h] w0 fun e w' => e = .returned (.bool false) ∧ w0 = w') := fun w0 => by
      have := hmb_any h w0
      rwa [decide_eq_false hh] at this
    obtain ⟨h1, h2⟩ := pubErr_out (o := o) (r := r) hh
    rw [h1, h2]
    clear h1 h2 hh ho hr x0 x1
    go_enter Tryd.func39, Tryd.ntmps39
    go_wp2_with (rw [HW0.out])
    refine (HM.out _).mono ?_
    rintro e w1 ⟨rfl, hw1⟩
    subst hw1
    go_wp2_with fail
    go_returns
    exact ⟨rfl, HG0.out⟩

/-! DecodePublic -/
theorem heap3 {w : World} {n : Nat} {a0 a1 a2 : Value} {t : TypeId} (h : w.heap[n]? = some (.cells #[a0, a1, a2] t (0, 0))) (v0 v1 v2 : Value) :
    (((w.setCell ⟨n, 0, none⟩ v0).setCell ⟨n, 1, none⟩ v1).setCell ⟨n, 2, none⟩ v2).heap[n]? = some (.cells #[v0, v1, v2] t (0, 0)) :=
  (heap_setCell (heap_setCell (heap_setCell h 0 v0) 1 v1) 2 v2).trans rfl
theorem grown3 (w : World) (n : Nat) (v0 v1 v2 : Value) : w.grownBy (((w.setCell ⟨n, 0, none⟩ v0).setCell ⟨n, 1, none⟩ v1).setCell ⟨n, 2, none⟩ v2) (some n) :=
  grownBy_setCell (grownBy_setCell (grownBy_setCell (World.grownBy.refl w _) 0 _) 1 _) 2 _
/-- what is told of bytes, as a public key -/
def DecP.val (d : DecP) : Value := if d.err = 0 then pubZ d.o d.r d.h else pubZ ⟨#[]⟩ ⟨#[]⟩ 0
end Go.Proofs.YtioahjdojgcfdaaDoor

namespace Go.Proofs.YtioahjdojgcfdaaDoor
open Go.RowKit

theorem row_string_w (w : World) (vs : List Value) (l : List UInt8) (hl : vs = u8s l) :
    (convert 57 9 (.slice (some ⟨w.heap.size, 0, none⟩) l.length l.length)).run Tryd.prog (w.alloc (.cells vs.toArray 5)) = .ok (.string (str l)) (w.alloc (.cells vs.toArray 5)) := by
  subst hl
  exact row_string (w := w.alloc (.cells (u8s l).toArray 5)) (g := w.heap.size) (t := 5) (heap_alloc_at _ _ _ rfl) _
theorem be4 (n : Nat) : be n 4 = [UInt8.ofNat (n / 256 ^ 3 % 256), UInt8.ofNat (n / 256 ^ 2 % 256), UInt8.ofNat (n / 256 ^ 1 % 256), UInt8.ofNat (n / 256 ^ 0 % 256)] := by
  simp [be, Nat.div_div_eq_div_mul]
theorem four_bytes (n : Nat) : [Value.int .u8 ((n : Int) / 16777216 % 256), .int .u8 ((n : Int) / 65536 % 256), .int .u8 ((n : Int) / 256 % 256), .int .u8 ((n : Int) % 256)] = u8s (be n 4) := by
  rw [be4]
  simp [u8s]
end Go.Proofs.YtioahjdojgcfdaaDoor

namespace Go.Proofs.YtioahjdojgcfdaaDoor
open Go.RowKit

def strsV (L : List ByteArray) : List Value := L.map Value.string
theorem strsV_length (L : List ByteArray) : (strsV L).length = L.length := by simp [strsV]
theorem infoStrW : (Tryd.prog.info? 9).map (fun i => (i.zero, i.size, i.bytes)) = some (some (.string ⟨#[]⟩), 1, 16) := by kernel_rfl
theorem strs_own {w : World} {B n : Nat} {a : Option Addr} {cap : Nat} {L : List ByteArray} (h : w.ownsRow B 9 1 (.slice a n cap) n (strsV L)) : StrsAt w (.slice a n cap) L := by
  have hl := h.1
  simp [strsV] at hl
  subst hl
  refine ⟨a, cap, rfl, fun i hi => ?_⟩
  rcases h.2 with ⟨_, h0⟩ | ⟨g, cap', cur, he, hB, hg, hnc, hm, hcs, htake⟩
  · omega
  · cases he
    refine ⟨g, 0, rfl, ?_⟩
    rw [Nat.zero_add, cell_of hg]
    have : (strsV L)[i]? = some (.string L[i]) := by simp [strsV, List.getElem?_eq_getElem hi]
    rw [← htake, List.getElem?_take, if_pos (by omega)] at this
    simpa using this
theorem StrsAt.grown {w w' : World} {v : Value} {L : List ByteArray} (h : StrsAt w v L) (hg : w.grownBy w' none) : StrsAt w' v L := h.kept (below_grownBy hg)
theorem StrsAt.form {w : World} {v : Value} {L : List ByteArray} (h : StrsAt w v L) : ∃ a cap, v = .slice a L.length cap := by
  obtain ⟨a, cap, rfl, _⟩ := h
  exact ⟨a, cap, rfl⟩
theorem StrsAt.at_ {w : World} {a : Option Addr} {n cap : Nat} {L : List ByteArray} (h : StrsAt w (.slice a n cap) L) (i : Nat) (x : ByteArray) (hx : L[i]? = some x) : ∃ g o, a = some ⟨g, o, none⟩ ∧ w.cell? ⟨g, o + i, none⟩ = some (.string x) := by
  obtain ⟨a', cap', he, hc⟩ := h
  cases he
  obtain ⟨hi, rfl⟩ := List.getElem?_eq_some_iff.1 hx
  exact hc i hi
theorem made_strs (n : Nat) : (madeCells #[Value.string ⟨#[]⟩] n).toList = strsV (List.replicate n ⟨#[]⟩) := by
  apply List.ext_getElem?
  intro i
  simp [madeCells, strsV, List.getElem?_replicate]
  by_cases h : i < n <;> simp [h, Nat.mod_one]
/-- a list being filled: what is done, then empty texts -/
def fillS (L : List ByteArray) (n : Nat) : List ByteArray := L ++ List.replicate (n - L.length) ⟨#[]⟩
theorem fillS_put (L : List ByteArray) (n : Nat) (x : ByteArray) (h : L.length < n) : (strsV (fillS L n)).set L.length (.string x) = strsV (fillS (L ++ [x]) n) := by
  have e : strsV (fillS L n) = strsV L ++ (.string ⟨#[]⟩) :: strsV (List.replicate (n - (L.length + 1)) ⟨#[]⟩) := by
    rw [fillS, show n - L.length = (n - (L.length + 1)) + 1 from by omega, List.replicate_succ]
    simp [strsV]
  have hl := strsV_length L
  rw [e, List.set_append_right _ _ (by omega), hl, Nat.sub_self, List.set_cons_zero]
  simp [strsV, fillS]
theorem fillS_at (L : List ByteArray) (n : Nat) (h : L.length < n) : (strsV (fillS L n))[L.length]? = some (.string ⟨#[]⟩) := by
  have hl := strsV_length L
  rw [fillS, show n - L.length = (n - (L.length + 1)) + 1 from by omega, List.replicate_succ]
  simp only [strsV, List.map_append, List.map_cons]
  rw [List.getElem?_append_right (by simp), List.length_map, Nat.sub_self]
  rfl
theorem fillS_full (L : List ByteArray) (n : Nat) (h : L.length = n) : fillS L n = L := by
  rw [fillS, h, Nat.sub_self]
  simp

theorem StrsAt.news {w : World} {g o n cap : Nat} {L : List ByteArray} (h : StrsAt w (.slice (some ⟨g, o, none⟩) n cap) L) : ∀ j u, (strsV L)[j]? = some u → w.cell? ((⟨g, o, none⟩ : Addr).add j) = some u := by
  intro j u hj
  have hj' : j < L.length := by have := (List.getElem?_eq_some_iff.1 hj).1; rwa [strsV_length] at this
  obtain ⟨g', o', he, hc⟩ := h.at_ j _ (List.getElem?_eq_getElem hj')
  cases he
  rw [show Addr.add ⟨g, o, none⟩ j = (⟨g, o + j, none⟩ : Addr) from by simp [Addr.add], hc, ← hj]
  simp [strsV, List.getElem?_eq_getElem hj']
theorem strsV_one (L : List ByteArray) : ∀ u ∈ strsV L, u.oneCell' = true := by
  intro u hu
  obtain ⟨x, _, rfl⟩ := List.mem_map.1 hu
  rfl
theorem slice_own' {w : World} {B n : Nat} {t : TypeId} {v : Value} {xs : List Value} (h : w.ownsRow B t 1 v n xs) : ∃ a cap, v = .slice a n cap := by
  rcases h.2 with ⟨rfl, rfl⟩ | ⟨g, cap, cur, rfl, _⟩
  · exact ⟨none, 0, rfl⟩
  · exact ⟨_, _, rfl⟩

theorem StrsAt.lt {w : World} {g o n c : Nat} {L : List ByteArray} (h : StrsAt w (.slice (some ⟨g, o, none⟩) n c) L) (h0 : 0 < L.length) : g < w.heap.size := by
  obtain ⟨g', o', e, hc⟩ := h.at_ 0 _ (List.getElem?_eq_getElem h0)
  cases e
  exact cell_lt hc

theorem push_strs (P : List ByteArray) (x : ByteArray) : strsV P ++ [.string x] = strsV (P ++ [x]) := by simp [strsV]
theorem lit_one (w : World) (x : ByteArray) : ∀ j u, [Value.string x][j]? = some u → (w.alloc (.cells #[.string x] 9)).cell? ((⟨w.heap.size, 0, none⟩ : Addr).add j) = some u := by
  intro j u hj
  cases j with
  | zero =>
    simp at hj
    subst hj
    exact cell_of (heap_alloc_at _ _ _ rfl) 0
  | succ j => simp at hj
end Go.Proofs.YtioahjdojgcfdaaDoor

namespace Go.Proofs.YtioahjdojgcfdaaDoor
open Go.RowKit

def ints (L : List Int) : List Value := L.map (Value.int .i64)
theorem ints_length (L : List Int) : (ints L).length = L.length := by simp [ints]
theorem ints_append (L M : List Int) : ints (L ++ M) = ints L ++ ints M := by simp [ints]
theorem ints_at (L : List Int) (i : Nat) (h : i < L.length) : (ints L)[i]? = some (.int .i64 L[i]) := by simp [ints, List.getElem?_eq_getElem h]
/-- a slice that holds these numbers -/
def IntsAt (w : World) (v : Value) (L : List Int) : Prop :=
  ∃ a cap, v = .slice a L.length cap ∧ ∀ i (h : i < L.length), ∃ g o, a = some ⟨g, o, none⟩ ∧ w.cell? ⟨g, o + i, none⟩ = some (.int .i64 L[i])
theorem IntsAt.kept {w w' : World} {v : Value} {L : List Int} (h : IntsAt w v L) (hb : w.grownBy w' none) : IntsAt w' v L := by
  obtain ⟨a, cap, rfl, hc⟩ := h
  refine ⟨a, cap, rfl, fun i hi => ?_⟩
  obtain ⟨g, o, ha, hcell⟩ := hc i hi
  exact ⟨g, o, ha, hb.cell hcell (by simp)⟩
theorem IntsAt.nil (w : World) (a : Option Addr) (cap : Nat) : IntsAt w (.slice a 0 cap) [] := ⟨a, cap, rfl, fun i h => absurd h (by simp)⟩
theorem ints_of_own {w : World} {B n : Nat} {t : TypeId} {a : Option Addr} {cap : Nat} {L : List Int} (h : w.ownsRow B t 1 (.slice a n cap) n (ints L)) : IntsAt w (.slice a n cap) L := by
  have hl := h.1
  simp [ints] at hl
  subst hl
  refine ⟨a, cap, rfl, fun i hi => ?_⟩
  rcases h.2 with ⟨_, h0⟩ | ⟨g, cap', cur, he, hB, hg, hnc, hm, hcs, htake⟩
  · omega
  · cases he
    refine ⟨g, 0, rfl, ?_⟩
    rw [Nat.zero_add, cell_of hg]
    have : (ints L)[i]? = some (.int .i64 L[i]) := ints_at L i hi
    rw [← htake, List.getElem?_take, if_pos (by omega)] at this
    simpa using this
theorem own_kept {w w' : World} {B n : Nat} {t : TypeId} {v : Value} {xs : List Value} (h : w.ownsRow B t 1 v n xs) (hg : w.grownBy w' none) : w'.ownsRow B t 1 v n xs := by
  obtain ⟨hl, h⟩ := h
  refine ⟨hl, ?_⟩
  rcases h with h' | ⟨g, cap, cur, rfl, a, hgg, r⟩
  · exact .inl h'
  · refine .inr ⟨g, cap, cur, rfl, a, ?_, r⟩
    rw [hg.block g (Array.getElem?_eq_some_iff.1 hgg).1 (by simp)]
    exact hgg
end Go.Proofs.YtioahjdojgcfdaaDoor

namespace Go.Proofs.YtioahjdojgcfdaaDoor
open Go.RowKit
attribute [local irreducible] shaL

structure EntS.small (x : EntS) : Prop where
  v : x.v ≤ 18446744073709551615
  o : x.o.size ≤ 100000
  r : x.r.size ≤ 100000
  p : x.p.size ≤ 100000
def EntS.val (x : EntS) : Value := .agg #[.int .u64 x.v, .string x.o, .string x.r, .int .i64 x.h, .string x.p]
def EntS.cells (x : EntS) : List Value := [.int .u64 x.v, .string x.o, .string x.r, .int .i64 x.h, .string x.p]
theorem cells5 {w : World} {b : Nat} {t : TypeId} {a0 a1 a2 a3 a4 : Value} (h : w.heap[b]? = some (.cells #[a0, a1, a2, a3, a4] t (0, 0))) :
    w.cell? ⟨b, 0, none⟩ = some a0 ∧ w.cell? ⟨b, 1, none⟩ = some a1 ∧ w.cell? ⟨b, 2, none⟩ = some a2 ∧ w.cell? ⟨b, 3, none⟩ = some a3 ∧ w.cell? ⟨b, 4, none⟩ = some a4 := by
  refine ⟨?_, ?_, ?_, ?_, ?_⟩ <;> rw [cell_of h] <;> rfl
end Go.Proofs.YtioahjdojgcfdaaDoor
