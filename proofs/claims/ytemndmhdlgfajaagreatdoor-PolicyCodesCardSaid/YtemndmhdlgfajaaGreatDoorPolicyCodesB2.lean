/- Plain functions for package wots: places, secrets, walks, public keys. No walk of the program. · A public key's and an entry's bytes: written, read, each of the other. No walk. · A Writer's calls at its block, at every state. · A Reader's calls at its block, at every state. · sha.Tagged of texts in a new block. · The walks of xmss's Public.Encode and DecodePublic. · Plain words: texts of 16 bytes one behind another, a signature's bytes, an update's bytes. No walk. · Lists of texts in memory. No walk. · The four bytes of a number. No walk. · Slices of integers in memory. No walk. -/
import Derived.Test.YtemndmhdlgfajaaGreatDoorShaCalls
import Derived.Test.YtemndmhdlgfajaaGreatDoorPolicyCodesB1
import Derived.Handy
import Derived.Deep.DeepCutAuto
import Derived.Deep.RegionHeld3
namespace Go.Proofs.YtemndmhdlgfajaaGreatDoor
attribute [local irreducible] shaL

/-- the short digest of a tag and texts -/
def tagS (tag : UInt8) (L : List ByteArray) : ByteArray := str ((shaL (tagB tag L)).take 16)
theorem tagS_size (tag : UInt8) (L : List ByteArray) : (tagS tag L).size = 16 := by
  unfold tagS
  rw [str_size, List.length_take, shaL_length]
  rfl
def placeL (leaf chain step : Nat) : List UInt8 := be leaf 4 ++ [UInt8.ofNat chain, UInt8.ofNat step]
def placeS (leaf chain step : Nat) : ByteArray := str (placeL leaf chain step)
theorem placeS_size (leaf chain step : Nat) : (placeS leaf chain step).size = 6 := by
  unfold placeS placeL
  rw [str_size, List.length_append, be_length]
  rfl
def openS (seed : ByteArray) : ByteArray := tagS 3 [seed]
def stepS (o : ByteArray) (leaf chain k : Nat) (x : ByteArray) : ByteArray := tagS 2 [o, placeS leaf chain k, x]
/-- n steps, from step a on -/
def walkS (o : ByteArray) (leaf chain a : Nat) : Nat → ByteArray → ByteArray
  | 0, x => x
  | n + 1, x => stepS o leaf chain (a + n) (walkS o leaf chain a n x)
theorem walkS_zero (o : ByteArray) (leaf chain a : Nat) (x : ByteArray) : walkS o leaf chain a 0 x = x := rfl
theorem walkS_succ (o : ByteArray) (leaf chain a n : Nat) (x : ByteArray) : walkS o leaf chain a (n + 1) x = stepS o leaf chain (a + n) (walkS o leaf chain a n x) := rfl
theorem walkS_add (o : ByteArray) (leaf chain a m n : Nat) (x : ByteArray) : walkS o leaf chain (a + m) n (walkS o leaf chain a m x) = walkS o leaf chain a (m + n) x := by
  induction n with
  | zero => rfl
  | succ n ih => rw [walkS_succ, ih, ← Nat.add_assoc, walkS_succ, Nat.add_assoc]
theorem walkS_size (o : ByteArray) (leaf chain a n : Nat) (x : ByteArray) (N : Nat) (h : x.size ≤ N) (h16 : 16 ≤ N) : (walkS o leaf chain a n x).size ≤ N := by
  cases n with
  | zero => exact h
  | succ n => rw [walkS_succ]; unfold stepS; rw [tagS_size]; exact h16
theorem walkS_16 (o : ByteArray) (leaf chain a n : Nat) (x : ByteArray) (h : x.size = 16) : (walkS o leaf chain a n x).size = 16 := by
  cases n with
  | zero => exact h
  | succ n => rw [walkS_succ]; unfold stepS; rw [tagS_size]
/-- from and to as they come: below 0 as 0, above 15 as 15 -/
def walkZ (o : ByteArray) (leaf chain : Nat) (a b : Int) (x : ByteArray) : ByteArray := walkS o leaf chain (max a 0).toNat (min b 15 - max a 0).toNat x
def secretS (seed : ByteArray) (leaf chain : Nat) : ByteArray := tagS 1 [seed, placeS leaf chain 0]
def publicOfS (o : ByteArray) (leaf : Nat) (ends : List ByteArray) : ByteArray := tagS 4 ([o, placeS leaf 0 0] ++ ends)
def endsS (seed : ByteArray) (leaf : Nat) : Nat → List ByteArray
  | 0 => []
  | c + 1 => endsS seed leaf c ++ [walkS (openS seed) leaf c 0 15 (secretS seed leaf c)]
def publicS (seed : ByteArray) (leaf : Nat) : ByteArray := publicOfS (openS seed) leaf (endsS seed leaf 35)
/-- a signature's first c texts -/
def sigS (seed : ByteArray) (leaf : Nat) (d : List Int) : Nat → List ByteArray
  | 0 => []
  | c + 1 => sigS seed leaf d c ++ [walkS (openS seed) leaf c 0 (d.getD c 0).toNat (secretS seed leaf c)]
/-- the first c ends of what a signature's texts are walked to -/
def recS (o : ByteArray) (leaf : Nat) (d : List Int) (sig : List ByteArray) : Nat → List ByteArray
  | 0 => []
  | c + 1 => recS o leaf d sig c ++ [walkS o leaf c (d.getD c 0).toNat (15 - d.getD c 0).toNat (sig.getD c ByteArray.empty)]
theorem endsS_length (seed : ByteArray) (leaf c : Nat) : (endsS seed leaf c).length = c := by
  induction c with
  | zero => rfl
  | succ c ih => simp [endsS, ih]
theorem sigS_length (seed : ByteArray) (leaf : Nat) (d : List Int) (c : Nat) : (sigS seed leaf d c).length = c := by
  induction c with
  | zero => rfl
  | succ c ih => simp [sigS, ih]
theorem recS_length (o : ByteArray) (leaf : Nat) (d : List Int) (sig : List ByteArray) (c : Nat) : (recS o leaf d sig c).length = c := by
  induction c with
  | zero => rfl
  | succ c ih => simp [recS, ih]
theorem sigS_at (seed : ByteArray) (leaf : Nat) (d : List Int) (c i : Nat) (h : i < c) : (sigS seed leaf d c)[i]? = some (walkS (openS seed) leaf i 0 (d.getD i 0).toNat (secretS seed leaf i)) := by
  induction c with
  | zero => omega
  | succ c ih =>
    rw [sigS]
    by_cases e : i = c
    · subst e
      rw [List.getElem?_append_right (by rw [sigS_length]; omega), sigS_length, Nat.sub_self]
      rfl
    · rw [List.getElem?_append_left (by rw [sigS_length]; omega), ih (by omega)]
theorem secretS_size (seed : ByteArray) (leaf chain : Nat) : (secretS seed leaf chain).size = 16 := tagS_size _ _
theorem openS_size (seed : ByteArray) : (openS seed).size = 16 := tagS_size _ _
theorem sigS_all (seed : ByteArray) (leaf : Nat) (d : List Int) (c : Nat) : ∀ s ∈ sigS seed leaf d c, s.size = 16 := by
  induction c with
  | zero => intro s h; cases h
  | succ c ih =>
    intro s h
    rw [sigS] at h
    rcases List.mem_append.1 h with h | h
    · exact ih s h
    · obtain rfl := List.mem_singleton.1 h
      exact walkS_16 _ _ _ _ _ _ (secretS_size _ _ _)
theorem endsS_all (seed : ByteArray) (leaf c : Nat) : ∀ s ∈ endsS seed leaf c, s.size = 16 := by
  induction c with
  | zero => intro s h; cases h
  | succ c ih =>
    intro s h
    rw [endsS] at h
    rcases List.mem_append.1 h with h | h
    · exact ih s h
    · obtain rfl := List.mem_singleton.1 h
      exact walkS_16 _ _ _ _ _ _ (secretS_size _ _ _)
theorem recS_all (o : ByteArray) (leaf : Nat) (d : List Int) (sig : List ByteArray) (hs : ∀ s ∈ sig, s.size = 16) (c : Nat) (hc : c ≤ sig.length) : ∀ s ∈ recS o leaf d sig c, s.size = 16 := by
  induction c with
  | zero => intro s h; cases h
  | succ c ih =>
    intro s h
    rw [recS] at h
    rcases List.mem_append.1 h with h | h
    · exact ih (by omega) s h
    · obtain rfl := List.mem_singleton.1 h
      refine walkS_16 _ _ _ _ _ _ (hs _ ?_)
      rw [List.getD_eq_getElem?_getD, List.getElem?_eq_getElem (by omega)]
      exact List.getElem_mem _
/-- P6.3: what a signature tells is the public key -/
theorem rec_sig (seed : ByteArray) (leaf : Nat) (d : List Int) (hd : ∀ x ∈ d, 0 ≤ x ∧ x ≤ 15) (n : Nat) (hn : n ≤ d.length) (c : Nat) (hc : c ≤ n) : recS (openS seed) leaf d (sigS seed leaf d n) c = endsS seed leaf c := by
  induction c with
  | zero => rfl
  | succ c ih =>
    rw [recS, endsS, ih (by omega)]
    have h1 := sigS_at seed leaf d n c (by omega)
    rw [List.getD_eq_getElem?_getD (l := sigS seed leaf d n), h1]
    have hx := hd (d.getD c 0) (by rw [List.getD_eq_getElem?_getD, List.getElem?_eq_getElem (by omega)]; exact List.getElem_mem _)
    simp only [Option.getD_some]
    have e := walkS_add (openS seed) leaf c 0 (d.getD c 0).toNat (15 - d.getD c 0).toNat (secretS seed leaf c)
    rw [Nat.zero_add] at e
    rw [e, show (d.getD c 0).toNat + (15 - d.getD c 0).toNat = 15 from by omega]
/-- a tagged text's length -/
theorem tagB_length (tag : UInt8) (L : List ByteArray) (N : Nat) (h : ∀ s ∈ L, s.size ≤ N) : (tagB tag L).length ≤ 1 + L.length * (4 + N) := by
  unfold tagB
  rw [List.length_cons]
  suffices (L.flatMap fun s => be s.size 4 ++ s.data.toList).length ≤ L.length * (4 + N) by omega
  induction L with
  | nil => simp
  | cons s L ih =>
    have := ih (fun t ht => h t (by simp [ht]))
    have hs := h s (by simp)
    rw [List.flatMap_cons, List.length_append, List.length_append, be_length, List.length_cons, Nat.succ_mul]
    have e : s.data.toList.length = s.size := rfl
    omega
end Go.Proofs.YtemndmhdlgfajaaGreatDoor

namespace Go.Proofs.YtemndmhdlgfajaaGreatDoor
attribute [local irreducible] shaL

theorem be_val_rev (l : List UInt8) : be (val l.reverse) l.length = l.reverse := by
  induction l with
  | nil => rfl
  | cons c l ih =>
    have hc := c.toNat_lt
    rw [List.reverse_cons, val_snoc, List.length_cons, be, show (256 * val l.reverse + c.toNat) / 256 = val l.reverse from by omega, show (256 * val l.reverse + c.toNat) % 256 = c.toNat from by omega, ih]
    simp
theorem be_val (l : List UInt8) (k : Nat) (h : l.length = k) : be (val l) k = l := by
  subst h
  have := be_val_rev l.reverse
  simpa using this
theorem val_pos (l : List UInt8) : val l = 0 ↔ l = List.replicate l.length 0 := by
  have hz : ∀ k, be 0 k = List.replicate k 0 := by
    intro k
    induction k with
    | zero => rfl
    | succ k ih => rw [be, ih, List.replicate_succ']; rfl
  constructor
  · intro h
    have := be_val l _ rfl
    rw [h, hz] at this
    exact this.symm
  · intro h
    rw [h, ← hz]
    exact val_be 0 _ (Nat.pow_pos (by decide))

/-! what a Reader does with a text -/
theorem rd_take (l : List UInt8) (k : Nat) (h : k ≤ l.length) : (⟨str l, 0⟩ : RSt).fixed k = (str (l.take k), ⟨str (l.drop k), 0⟩) := by
  have := fixed_str (l.take k) (l.drop k)
  rw [List.take_append_drop, List.length_take, Nat.min_eq_left h] at this
  exact this
theorem rd_less (l : List UInt8) (k : Nat) (h : l.length < k) : (⟨str l, 0⟩ : RSt).fixed k = (ByteArray.empty, ⟨str l, 3⟩) := by
  unfold RSt.fixed
  simp only
  rw [if_neg (by simp), if_neg (by omega), if_pos (by rw [str_size]; omega)]
  rfl
theorem rd_err (s : ByteArray) (e : Int) (he : e ≠ 0) (k : Int) : (⟨s, e⟩ : RSt).fixed k = (ByteArray.empty, ⟨s, e⟩) := by
  unfold RSt.fixed
  rw [if_pos he]
theorem num_of (s : RSt) (k : Nat) (h : 1 ≤ k ∧ k ≤ 8) : s.num k = (val (s.fixed k).1.data.toList, (s.fixed k).2) := by
  unfold RSt.num
  rw [if_pos (by omega)]

/-! a public key -/
def pubOk (o r : ByteArray) (h : Int) : Prop := (0 ≤ h ∧ h ≤ 6) ∧ o.size = 16 ∧ r.size = 16
instance (o r : ByteArray) (h : Int) : Decidable (pubOk o r h) := by unfold pubOk; infer_instance
def pubB (o r : ByteArray) (h : Int) : List UInt8 := o.data.toList ++ (r.data.toList ++ be h.toNat 1)
def pubErr (o r : ByteArray) (h : Int) : Int := if pubOk o r h then 0 else 10
def pubEnc (o r : ByteArray) (h : Int) : ByteArray := if pubOk o r h then str (pubB o r h) else ⟨#[]⟩
/-- what the Writer holds -/
def pubW (o r : ByteArray) (h : Nat) : WSt := (((⟨[], 0⟩ : WSt).fixed o 16).fixed r 16).num h 1
theorem wput_ok (ts : List ByteArray) (t : ByteArray) (k : Int) (h : (t.size : Int) = k) : (⟨ts, 0⟩ : WSt).fixed t k = ⟨t :: ts, 0⟩ := by
  unfold WSt.fixed
  rw [if_pos h]
  rfl
theorem wput_not (ts : List ByteArray) (t : ByteArray) (k : Int) (h : (t.size : Int) ≠ k) : (⟨ts, 0⟩ : WSt).fixed t k = ⟨ts, 10⟩ := by
  unfold WSt.fixed
  rw [if_neg h]
  rfl
theorem wput_err (s : WSt) (he : s.err ≠ 0) (t : ByteArray) (k : Int) : s.fixed t k = s := by
  unfold WSt.fixed WSt.put WSt.fail
  rw [if_neg he, if_neg he]
  split <;> rfl
theorem wnum_ok (ts : List ByteArray) (n : Nat) (k : Int) (h : 1 ≤ k ∧ k ≤ 8 ∧ n < 256 ^ k.toNat) : (⟨ts, 0⟩ : WSt).num n k = ⟨str (be n k.toNat) :: ts, 0⟩ := by
  unfold WSt.num
  rw [if_pos h]
  rfl
theorem wnum_err (s : WSt) (he : s.err ≠ 0) (n : Nat) (k : Int) : s.num n k = s := by
  unfold WSt.num WSt.put WSt.fail
  rw [if_neg he, if_neg he]
  split <;> rfl
theorem pubW_ok {o r : ByteArray} {h : Nat} (k : pubOk o r h) : pubW o r h = ⟨[str (be h 1), r, o], 0⟩ := by
  obtain ⟨⟨h1, h2⟩, h3, h4⟩ := k
  unfold pubW
  rw [wput_ok [] o 16 (by omega), wput_ok [o] r 16 (by omega), wnum_ok [r, o] h 1 ⟨by omega, by omega, by show h < 256; omega⟩]
  rfl
theorem pubW_not {o r : ByteArray} {h : Nat} (hh : h ≤ 6) (k : ¬ pubOk o r h) : (pubW o r h).err = 10 := by
  unfold pubW
  have hn : ¬ (o.size = 16 ∧ r.size = 16) := fun q => k ⟨by omega, q⟩
  by_cases h1 : o.size = 16
  · rw [wput_ok [] o 16 (by omega), wput_not [o] r 16 (by omega), wnum_err _ (by simp)]
  · rw [wput_not [] o 16 (by omega), wput_err _ (by simp), wnum_err _ (by simp)]
theorem total_fixed (s : WSt) (t : ByteArray) (k : Int) : total (s.fixed t k).ts ≤ t.size + total s.ts := by
  unfold WSt.fixed
  split
  · exact total_put s t
  · rw [total_fail]; omega
theorem total_num (s : WSt) (n : Nat) (k : Int) : total (s.num n k).ts ≤ 8 + total s.ts := by
  unfold WSt.num
  split
  · rename_i h
    have := total_put s (str (be n k.toNat))
    rw [str_size, be_length] at this
    omega
  · rw [total_fail]; omega
theorem pubW_total (o r : ByteArray) (h : Nat) : total (pubW o r h).ts ≤ 8 + (r.size + o.size) := by
  have h1 := total_num (((⟨[], 0⟩ : WSt).fixed o 16).fixed r 16) h 1
  have h2 := total_fixed ((⟨[], 0⟩ : WSt).fixed o 16) r 16
  have h3 := total_fixed (⟨[], 0⟩ : WSt) o 16
  have h4 : total (⟨[], 0⟩ : WSt).ts = 0 := rfl
  unfold pubW
  omega
/-- a Writer's answer -/
def WSt.ans (s : WSt) : ByteArray := if s.err = 0 then str (flat s.ts) else ⟨#[]⟩
theorem pubW_ans (o r : ByteArray) (h : Nat) (hh : h ≤ 6) : (pubW o r h).ans = pubEnc o r h ∧ (pubW o r h).err = pubErr o r h := by
  by_cases k : pubOk o r h
  · rw [pubW_ok k]
    unfold pubEnc pubErr WSt.ans
    rw [if_pos k, if_pos k, if_pos rfl]
    refine ⟨?_, rfl⟩
    simp [flat, pubB, str]
  · unfold pubEnc pubErr WSt.ans
    rw [pubW_not hh k, if_neg k, if_neg k]
    exact ⟨rfl, rfl⟩
/-- what is read of bytes, as a public key -/
structure DecP where
  o : ByteArray
  r : ByteArray
  h : Nat
  s : RSt
def decP (s : ByteArray) : DecP :=
  let a := (⟨s, 0⟩ : RSt).fixed 16
  let b := a.2.fixed 16
  let c := b.2.num 1
  ⟨a.1, b.1, c.1, c.2⟩
def DecP.err (d : DecP) : Int := if d.s.done ≠ 0 then d.s.done else if 6 < d.h then 4 else 0
theorem decP_h (s : ByteArray) : (decP s).h < 256 := by
  have h1 := num_of (((⟨s, 0⟩ : RSt).fixed 16).2.fixed 16).2 1 (by omega)
  have h2 : (decP s).h = ((((⟨s, 0⟩ : RSt).fixed 16).2.fixed 16).2.num (1 : Nat)).1 := rfl
  rw [h2, h1]
  have h3 := fixed_size (((⟨s, 0⟩ : RSt).fixed 16).2.fixed 16).2 1
  have h4 := val_lt (((((⟨s, 0⟩ : RSt).fixed 16).2.fixed 16).2.fixed (1 : Nat)).1.data.toList)
  have h5 : 256 ^ (((((⟨s, 0⟩ : RSt).fixed 16).2.fixed 16).2.fixed (1 : Nat)).1.data.toList).length ≤ 256 ^ 1 := Nat.pow_le_pow_right (by decide) (by rw [Array.length_toList]; exact h3)
  exact Nat.lt_of_lt_of_le h4 h5
theorem decP_33 (l : List UInt8) (hl : l.length = 33) : decP (str l) = ⟨str (l.take 16), str ((l.drop 16).take 16), val (l.drop 32), ⟨str [], 0⟩⟩ := by
  have h1 := rd_take l 16 (by omega)
  have h2 := rd_take (l.drop 16) 16 (by simp; omega)
  have h3 := num_of (⟨str ((l.drop 16).drop 16), 0⟩ : RSt) 1 (by omega)
  rw [rd_take _ 1 (by simp; omega)] at h3
  have h1' : (⟨str l, 0⟩ : RSt).fixed 16 = (str (l.take 16), ⟨str (l.drop 16), 0⟩) := h1
  have h2' : (⟨str (l.drop 16), 0⟩ : RSt).fixed 16 = (str ((l.drop 16).take 16), ⟨str ((l.drop 16).drop 16), 0⟩) := h2
  have h3' : (⟨str ((l.drop 16).drop 16), 0⟩ : RSt).num 1 = (val (str (((l.drop 16).drop 16).take 1)).data.toList, ⟨str (((l.drop 16).drop 16).drop 1), 0⟩) := h3
  have e1 : ((l.drop 16).drop 16).take 1 = l.drop 32 := by rw [List.drop_drop]; exact List.take_of_length_le (by simp; omega)
  have e2 : ((l.drop 16).drop 16).drop 1 = [] := by rw [List.drop_drop, List.drop_drop]; exact List.drop_of_length_le (by omega)
  rw [e1, e2] at h3'
  unfold decP
  rw [h1']
  simp only
  rw [h2']
  simp only
  rw [h3']
  rfl

/-! an entry -/
structure EntS where
  v : Nat
  o : ByteArray
  r : ByteArray
  h : Int
  p : ByteArray
def EntS.err (x : EntS) : Int := if x.v < 1 ∨ 4294967295 < x.v then 13 else if pubOk x.o x.r x.h ∧ x.p.size = 16 then 0 else 10
def EntS.bytes (x : EntS) : List UInt8 := be x.v 4 ++ (pubB x.o x.r x.h ++ x.p.data.toList)
def EntS.enc (x : EntS) : ByteArray := if x.err = 0 then str x.bytes else ⟨#[]⟩
def EntS.value (x : EntS) : ByteArray := if x.err = 0 then tagS 12 [str x.bytes] else ⟨#[]⟩
theorem EntS.fit {x : EntS} (h : x.err = 0) : (1 ≤ x.v ∧ x.v ≤ 4294967295) ∧ pubOk x.o x.r x.h ∧ x.p.size = 16 := by
  unfold EntS.err at h
  split at h
  · omega
  · split at h
    · exact ⟨by omega, by assumption⟩
    · omega
theorem EntS.of_fit {x : EntS} (h : (1 ≤ x.v ∧ x.v ≤ 4294967295) ∧ pubOk x.o x.r x.h ∧ x.p.size = 16) : x.err = 0 := by
  unfold EntS.err
  rw [if_neg (by omega), if_pos h.2]
/-- what the Writer holds, where the key has bytes -/
def entW (v : Nat) (k p : ByteArray) : WSt := (((⟨[], 0⟩ : WSt).num v 4).fixed k 33).fixed p 16
theorem pubB_len {o r : ByteArray} {h : Int} (k : pubOk o r h) : (pubB o r h).length = 33 := by
  obtain ⟨_, h1, h2⟩ := k
  unfold pubB
  rw [List.length_append, List.length_append, be_length, Array.length_toList, Array.length_toList]
  show o.size + (r.size + 1) = 33
  omega
theorem EntS.len {x : EntS} (h : x.err = 0) : x.bytes.length = 53 := by
  obtain ⟨_, h2, h3⟩ := EntS.fit h
  unfold EntS.bytes
  rw [List.length_append, List.length_append, be_length, pubB_len h2, Array.length_toList]
  show 4 + (33 + x.p.size) = 53
  omega
theorem entW_total (v : Nat) (k p : ByteArray) : total (entW v k p).ts ≤ p.size + (k.size + 8) := by
  have h1 := total_fixed (((⟨[], 0⟩ : WSt).num v 4).fixed k 33) p 16
  have h2 := total_fixed ((⟨[], 0⟩ : WSt).num v 4) k 33
  have h3 := total_num (⟨[], 0⟩ : WSt) v 4
  have h4 : total (⟨[], 0⟩ : WSt).ts = 0 := rfl
  unfold entW
  omega
theorem entW_ans (x : EntS) (hv : 1 ≤ x.v ∧ x.v ≤ 4294967295) (hk : pubOk x.o x.r x.h) : (entW x.v (str (pubB x.o x.r x.h)) x.p).ans = x.enc ∧ (entW x.v (str (pubB x.o x.r x.h)) x.p).err = x.err := by
  have hn : (⟨[], 0⟩ : WSt).num x.v 4 = ⟨[str (be x.v 4)], 0⟩ := by
    unfold WSt.num
    rw [if_pos ⟨by omega, by omega, by show x.v < 4294967296; omega⟩]
    rfl
  have hf : (⟨[str (be x.v 4)], 0⟩ : WSt).fixed (str (pubB x.o x.r x.h)) 33 = ⟨[str (pubB x.o x.r x.h), str (be x.v 4)], 0⟩ := by
    unfold WSt.fixed
    rw [str_size, pubB_len hk, if_pos (by rfl)]
    rfl
  unfold entW
  rw [hn, hf]
  by_cases hp : x.p.size = 16
  · have he : x.err = 0 := EntS.of_fit ⟨hv, hk, hp⟩
    unfold WSt.fixed EntS.enc
    rw [if_pos (by omega), he]
    refine ⟨?_, rfl⟩
    unfold WSt.ans
    simp only [WSt.put, if_true]
    simp [flat, EntS.bytes, str]
  · have he : x.err = 10 := by
      unfold EntS.err
      rw [if_neg (by omega), if_neg (fun q => hp q.2)]
    unfold WSt.fixed EntS.enc
    rw [if_neg (by omega), he]
    refine ⟨?_, rfl⟩
    unfold WSt.ans
    simp [WSt.fail]
theorem EntS.not_pub {x : EntS} (hv : 1 ≤ x.v ∧ x.v ≤ 4294967295) (hk : ¬ pubOk x.o x.r x.h) : x.err = 10 ∧ x.enc = ⟨#[]⟩ := by
  have he : x.err = 10 := by
    unfold EntS.err
    rw [if_neg (by omega), if_neg (fun q => hk q.1)]
  refine ⟨he, ?_⟩
  unfold EntS.enc
  rw [he]
  rfl
theorem EntS.not_ver {x : EntS} (hv : x.v < 1 ∨ 4294967295 < x.v) : x.err = 13 ∧ x.enc = ⟨#[]⟩ := by
  have he : x.err = 13 := by
    unfold EntS.err
    rw [if_pos hv]
  refine ⟨he, ?_⟩
  unfold EntS.enc
  rw [he]
  rfl
theorem EntS.value_size {x : EntS} (h : x.err = 0) : x.value.size = 16 := by
  unfold EntS.value
  rw [if_pos h]
  exact tagS_size _ _
theorem EntS.value_empty (x : EntS) : x.value.size = 0 ↔ x.err ≠ 0 := by
  constructor
  · intro h e
    rw [EntS.value_size e] at h
    cases h
  · intro h
    unfold EntS.value
    rw [if_neg h]
    rfl
/-- may an entry follow another one? -/
def EntS.next (x y : EntS) : Int := if y.v = 0 ∨ y.v - 1 ≠ x.v then 13 else if x.err ≠ 0 ∨ y.p ≠ x.value then 15 else 0
def noughtsS : ByteArray := ⟨#[0, 0, 0, 0, 0, 0, 0, 0, 0, 0, 0, 0, 0, 0, 0, 0]⟩
/-- each one and the one behind it -/
def chainE : List EntS → Int
  | [] => 0
  | [_] => 0
  | x :: y :: l => if x.next y ≠ 0 then x.next y else chainE (y :: l)
def histE : List EntS → Int
  | [] => 20
  | x :: l => if x.v ≠ 1 then 13 else if x.p ≠ noughtsS then 15 else chainE (x :: l)

/-- what is read of bytes, as an entry -/
structure DecE where
  v : Nat
  k : ByteArray
  p : ByteArray
  s : RSt
def decE (s : ByteArray) : DecE :=
  let a := (⟨s, 0⟩ : RSt).num 4
  let b := a.2.fixed 33
  let c := b.2.fixed 16
  ⟨a.1, b.1, c.1, c.2⟩
def DecE.err (d : DecE) : Int := if d.s.done ≠ 0 then d.s.done else if (decP d.k).err ≠ 0 then (decP d.k).err else if d.v < 1 then 13 else 0
def DecE.ent (d : DecE) : EntS := if d.err = 0 then ⟨d.v, (decP d.k).o, (decP d.k).r, (decP d.k).h, d.p⟩ else ⟨0, ⟨#[]⟩, ⟨#[]⟩, 0, ⟨#[]⟩⟩
theorem decE_53 (l : List UInt8) (hl : l.length = 53) : decE (str l) = ⟨val (l.take 4), str ((l.drop 4).take 33), str (l.drop 37), ⟨str [], 0⟩⟩ := by
  have h1 := num_of (⟨str l, 0⟩ : RSt) 4 (by omega)
  rw [rd_take l 4 (by omega)] at h1
  have h2 := rd_take (l.drop 4) 33 (by simp; omega)
  have h3 := rd_take ((l.drop 4).drop 33) 16 (by simp; omega)
  have h1' : (⟨str l, 0⟩ : RSt).num 4 = (val (str (l.take 4)).data.toList, ⟨str (l.drop 4), 0⟩) := h1
  have h2' : (⟨str (l.drop 4), 0⟩ : RSt).fixed 33 = (str ((l.drop 4).take 33), ⟨str ((l.drop 4).drop 33), 0⟩) := h2
  have h3' : (⟨str ((l.drop 4).drop 33), 0⟩ : RSt).fixed 16 = (str (((l.drop 4).drop 33).take 16), ⟨str (((l.drop 4).drop 33).drop 16), 0⟩) := h3
  have e1 : ((l.drop 4).drop 33).take 16 = l.drop 37 := by rw [List.drop_drop]; exact List.take_of_length_le (by simp; omega)
  have e2 : ((l.drop 4).drop 33).drop 16 = [] := by rw [List.drop_drop, List.drop_drop]; exact List.drop_of_length_le (by omega)
  rw [e1, e2] at h3'
  unfold decE
  rw [h1']
  simp only
  rw [h2']
  simp only
  rw [h3']
  rfl
theorem decE_less (l : List UInt8) (hl : l.length < 53) : (decE (str l)).err = 3 := by
  have key : (decE (str l)).s.err = 3 := by
    have h1 := num_of (⟨str l, 0⟩ : RSt) 4 (by omega)
    have h1' : (⟨str l, 0⟩ : RSt).num 4 = (val ((⟨str l, 0⟩ : RSt).fixed (4 : Nat)).1.data.toList, ((⟨str l, 0⟩ : RSt).fixed (4 : Nat)).2) := h1
    unfold decE
    rw [h1']
    simp only
    by_cases c1 : l.length < 4
    · rw [rd_less l 4 c1]
      simp only
      rw [rd_err (str l) 3 (by decide)]
      simp only
      rw [rd_err (str l) 3 (by decide)]
    · rw [rd_take l 4 (by omega)]
      simp only
      by_cases c2 : l.length < 37
      · have h2 := rd_less (l.drop 4) 33 (by simp; omega)
        have h2' : (⟨str (l.drop 4), 0⟩ : RSt).fixed 33 = _ := h2
        rw [h2']
        simp only
        rw [rd_err _ _ (by decide)]
      · have h2 := rd_take (l.drop 4) 33 (by simp; omega)
        have h2' : (⟨str (l.drop 4), 0⟩ : RSt).fixed 33 = _ := h2
        have h3 := rd_less ((l.drop 4).drop 33) 16 (by simp; omega)
        have h3' : (⟨str ((l.drop 4).drop 33), 0⟩ : RSt).fixed 16 = _ := h3
        rw [h2']
        simp only
        rw [h3']
  have hd : (decE (str l)).s.done = 3 := by
    unfold RSt.done
    rw [key]
    rfl
  unfold DecE.err
  rw [hd]
  rfl
theorem decE_more (l : List UInt8) (hl : 53 < l.length) : (decE (str l)).err = 2 := by
  have h1 := num_of (⟨str l, 0⟩ : RSt) 4 (by omega)
  rw [rd_take l 4 (by omega)] at h1
  have h2 := rd_take (l.drop 4) 33 (by simp; omega)
  have h3 := rd_take ((l.drop 4).drop 33) 16 (by simp; omega)
  have h1' : (⟨str l, 0⟩ : RSt).num 4 = (val (str (l.take 4)).data.toList, ⟨str (l.drop 4), 0⟩) := h1
  have h2' : (⟨str (l.drop 4), 0⟩ : RSt).fixed 33 = (str ((l.drop 4).take 33), ⟨str ((l.drop 4).drop 33), 0⟩) := h2
  have h3' : (⟨str ((l.drop 4).drop 33), 0⟩ : RSt).fixed 16 = (str (((l.drop 4).drop 33).take 16), ⟨str (((l.drop 4).drop 33).drop 16), 0⟩) := h3
  have hd : (decE (str l)).s.done = 2 := by
    unfold decE
    rw [h1']
    simp only
    rw [h2']
    simp only
    rw [h3']
    unfold RSt.done
    rw [if_pos]
    refine ⟨rfl, ?_⟩
    show (((l.drop 4).drop 33).drop 16).length ≠ 0
    simp
    omega
  unfold DecE.err
  rw [hd]
  rfl
theorem done_nil : (⟨str [], 0⟩ : RSt).done = 0 := by
  unfold RSt.done
  rw [if_neg (fun q => q.2 rfl)]
/-- bytes of the right length -/
theorem decE_right (l : List UInt8) (hl : l.length = 53) : (decE (str l)).err = if 6 < val ((l.drop 36).take 1) then 4 else if val (l.take 4) < 1 then 13 else 0 := by
  unfold DecE.err
  rw [decE_53 l hl]
  simp only
  rw [done_nil, decP_33 _ (by simp; omega)]
  unfold DecP.err
  simp only
  rw [done_nil]
  have e : ((l.drop 4).take 33).drop 32 = (l.drop 36).take 1 := by rw [List.drop_take, List.drop_drop]
  rw [e]
  simp only [ne_eq, not_true_eq_false, if_false]
  split
  · simp
  · simp
theorem decE_back (l : List UInt8) (hl : l.length = 53) (he : (decE (str l)).err = 0) : (decE (str l)).ent.err = 0 ∧ (decE (str l)).ent.bytes = l := by
  have hr := decE_right l hl
  rw [he] at hr
  have hb := be_val ((l.drop 36).take 1) 1 (by simp; omega)
  have hv := be_val (l.take 4) 4 (by simp; omega)
  have h6 : ¬ 6 < val ((l.drop 36).take 1) := by intro h; rw [if_pos h] at hr; cases hr
  have h1 : ¬ val (l.take 4) < 1 := by intro h; rw [if_neg h6, if_pos h] at hr; cases hr
  have hlt : val (l.take 4) < 256 ^ 4 := by
    have := val_lt (l.take 4)
    rwa [List.length_take, Nat.min_eq_left (by omega)] at this
  have e : ((l.drop 4).take 33).drop 32 = (l.drop 36).take 1 := by rw [List.drop_take, List.drop_drop]
  unfold DecE.ent
  rw [if_pos he, decE_53 l hl]
  simp only
  rw [decP_33 _ (by simp; omega), e]
  have q1 : (((l.drop 4).take 33).take 16).length = 16 := by simp; omega
  have q2 : ((((l.drop 4).take 33).drop 16).take 16).length = 16 := by simp; omega
  refine ⟨EntS.of_fit ⟨⟨by show 1 ≤ val (l.take 4); omega, by show val (l.take 4) ≤ 4294967295; omega⟩, ⟨⟨by show (0 : Int) ≤ ((val ((l.drop 36).take 1) : Nat) : Int); omega, by show ((val ((l.drop 36).take 1) : Nat) : Int) ≤ 6; omega⟩, q1, q2⟩, ?_⟩, ?_⟩
  · show (l.drop 37).length = 16
    simp
    omega
  · show be (val (l.take 4)) 4 ++ ((((l.drop 4).take 33).take 16 ++ ((((l.drop 4).take 33).drop 16).take 16 ++ be (val ((l.drop 36).take 1)) 1)) ++ l.drop 37) = l
    rw [hb, hv]
    have t1 : ((l.drop 4).take 33).take 16 ++ ((((l.drop 4).take 33).drop 16).take 16 ++ (l.drop 36).take 1) = (l.drop 4).take 33 := by
      rw [← e]
      have : ((l.drop 4).take 33).drop 32 = (((l.drop 4).take 33).drop 16).drop 16 := by rw [List.drop_drop]
      rw [this, List.take_append_drop, List.take_append_drop]
    rw [t1]
    have t2 : (l.drop 4).drop 33 = l.drop 37 := by rw [List.drop_drop]
    rw [← t2, List.take_append_drop, List.take_append_drop]
theorem str_inj {a b : List UInt8} (h : str a = str b) : a = b := by
  have := congrArg (fun x : ByteArray => x.data.toList) h
  simpa [str] using this
theorem text_str (t : ByteArray) : str t.data.toList = t := by apply ByteArray.ext; simp [str]
theorem be_inj {a b k : Nat} (ha : a < 256 ^ k) (hb : b < 256 ^ k) (h : be a k = be b k) : a = b := by
  rw [← val_be a k ha, h, val_be b k hb]
/-- an entry that was written is read -/
theorem decE_enc (x : EntS) (h : x.err = 0) : (decE x.enc).err = 0 ∧ (decE x.enc).ent = x := by
  have hl := EntS.len h
  have hx : x.enc = str x.bytes := by unfold EntS.enc; rw [if_pos h]
  obtain ⟨⟨v1, v2⟩, ⟨⟨k1, k2⟩, k3, k4⟩, k5⟩ := EntS.fit h
  have hb3 : x.bytes = be x.v 4 ++ (x.o.data.toList ++ (x.r.data.toList ++ (be x.h.toNat 1 ++ x.p.data.toList))) := by unfold EntS.bytes pubB; simp only [List.append_assoc]
  have lo : x.o.data.toList.length = 16 := by rw [Array.length_toList]; exact k3
  have lr : x.r.data.toList.length = 16 := by rw [Array.length_toList]; exact k4
  have e1 : x.bytes.take 4 = be x.v 4 := by rw [hb3, List.take_append_of_le_length (by rw [be_length]; omega), List.take_of_length_le (by rw [be_length]; omega)]
  have d4 : x.bytes.drop 4 = x.o.data.toList ++ (x.r.data.toList ++ (be x.h.toNat 1 ++ x.p.data.toList)) := by rw [hb3]; exact List.drop_left' (be_length _ _)
  have d36 : x.bytes.drop 36 = be x.h.toNat 1 ++ x.p.data.toList := by
    have : x.bytes.drop 36 = ((x.bytes.drop 4).drop 16).drop 16 := by rw [List.drop_drop, List.drop_drop]
    rw [this, d4, List.drop_left' lo, List.drop_left' lr]
  have e2 : (x.bytes.drop 36).take 1 = be x.h.toNat 1 := by rw [d36, List.take_append_of_le_length (by rw [be_length]; omega), List.take_of_length_le (by rw [be_length]; omega)]
  have vv : val (be x.v 4) = x.v := val_be _ _ (by show x.v < 4294967296; omega)
  have vh : val (be x.h.toNat 1) = x.h.toNat := val_be _ _ (by show x.h.toNat < 256; omega)
  have he : (decE x.enc).err = 0 := by
    rw [hx, decE_right _ hl, e1, e2, vv, vh, if_neg (by omega), if_neg (by omega)]
  refine ⟨he, ?_⟩
  rw [hx] at he ⊢
  unfold DecE.ent
  rw [if_pos he, decE_53 _ hl]
  simp only
  rw [decP_33 _ (by simp; omega)]
  have e : ((x.bytes.drop 4).take 33).drop 32 = (x.bytes.drop 36).take 1 := by rw [List.drop_take, List.drop_drop]
  have eo : ((x.bytes.drop 4).take 33).take 16 = x.o.data.toList := by
    rw [List.take_take, d4, show min 16 33 = 16 from rfl, List.take_append_of_le_length (by omega), List.take_of_length_le (by omega)]
  have er : (((x.bytes.drop 4).take 33).drop 16).take 16 = x.r.data.toList := by
    rw [List.drop_take, List.take_take, d4, List.drop_left' lo, show min 16 (33 - 16) = 16 from rfl, List.take_append_of_le_length (by omega), List.take_of_length_le (by omega)]
  have ep : x.bytes.drop 37 = x.p.data.toList := by
    have : x.bytes.drop 37 = (x.bytes.drop 36).drop 1 := by rw [List.drop_drop]
    rw [this, d36]
    exact List.drop_left' (be_length _ _)
  simp only
  rw [e, e1, e2, vv, vh, eo, er, ep, text_str, text_str, text_str]
  have : ((x.h.toNat : Nat) : Int) = x.h := by omega
  rw [this]
end Go.Proofs.YtemndmhdlgfajaaGreatDoor

namespace Go.Proofs.YtemndmhdlgfajaaGreatDoor
open Go.RowKit
attribute [local irreducible] shaL

theorem wr_numS {w : World} {b : Nat} {st : WSt} (n : Nat) (hn : n ≤ 18446744073709551615) (k : Int) (h : WrAt w b st) (hr : total st.ts ≤ 1000000000) :
    Calls Tryz.prog 85 #[.pointer (some ⟨b, 0, none⟩), .int .u64 n, .int .i64 k] w fun e w' => e = .returned (.pointer (some ⟨b, 0, none⟩)) ∧ WrAt w' b (st.num n k) ∧ w.grownBy w' (some b) := by
  refine (wnum_any n hn k w (some ⟨b, 0, none⟩) (some st) ⟨b, rfl, h⟩ (fun x e => by cases e; omega)).mono ?_
  rintro e w' ⟨rfl, hw, g⟩
  obtain ⟨b', e', hw⟩ := hw
  cases e'
  exact ⟨rfl, hw, g⟩
theorem wr_fixedS {w : World} {b : Nat} {st : WSt} (s : ByteArray) (k : Int) (h : WrAt w b st) (hr : s.size + total st.ts ≤ 1000000000) :
    Calls Tryz.prog 86 #[.pointer (some ⟨b, 0, none⟩), .string s, .int .i64 k] w fun e w' => e = .returned (.pointer (some ⟨b, 0, none⟩)) ∧ WrAt w' b (st.fixed s k) ∧ w.grownBy w' (some b) := by
  refine (wfixed_any s k w (some ⟨b, 0, none⟩) (some st) ⟨b, rfl, h⟩ (fun x e => by cases e; omega)).mono ?_
  rintro e w' ⟨rfl, hw, g⟩
  obtain ⟨b', e', hw⟩ := hw
  cases e'
  exact ⟨rfl, hw, g⟩
theorem wr_bytesS {w : World} {b : Nat} {st : WSt} (h : WrAt w b st) (hr : total st.ts ≤ 1000000000) :
    Calls Tryz.prog 39 #[.pointer (some ⟨b, 0, none⟩)] w fun e w' => e = .returned (.tuple #[.string st.ans, .int .i64 st.err]) ∧ w.grownBy w' none := by
  by_cases he : st.err = 0
  · obtain ⟨ts, err⟩ := st
    have he' : err = 0 := he
    subst he'
    exact bytes_ok w b ts h (Nat.le_trans hr (by decide))
  · refine (bytes_err w b st h he).mono ?_
    rintro e w' ⟨rfl, g⟩
    refine ⟨?_, g⟩
    unfold WSt.ans
    rw [if_neg he]
    rfl
end Go.Proofs.YtemndmhdlgfajaaGreatDoor

namespace Go.Proofs.YtemndmhdlgfajaaGreatDoor
open Go.RowKit

theorem rd_numS {w : World} {b : Nat} {s : RSt} (k : Int) (h : RdAt w b s.rest s.err) (hm : s.rest.size ≤ maxLen) :
    Calls Tryz.prog 94 #[.pointer (some ⟨b, 0, none⟩), .int .i64 k] w fun e w' => e = .returned (.int .u64 (s.num k).1) ∧ RdAt w' b (s.num k).2.rest (s.num k).2.err ∧ w.grownBy w' (some b) := by
  refine (rnum_any k w (some ⟨b, 0, none⟩) (some s) ⟨b, rfl, h⟩ (by rintro x ⟨⟩; exact hm)).mono ?_
  rintro e w' ⟨rfl, hw, g⟩
  obtain ⟨b', e', hw⟩ := hw
  cases e'
  exact ⟨rfl, hw, g⟩
theorem rd_fixedS {w : World} {b : Nat} {s : RSt} (k : Int) (h : RdAt w b s.rest s.err) (hm : s.rest.size ≤ maxLen) :
    Calls Tryz.prog 96 #[.pointer (some ⟨b, 0, none⟩), .int .i64 k] w fun e w' => e = .returned (.string (s.fixed k).1) ∧ RdAt w' b (s.fixed k).2.rest (s.fixed k).2.err ∧ w.grownBy w' (some b) := by
  refine (rfixed_any k w (some ⟨b, 0, none⟩) (some s) ⟨b, rfl, h⟩ (by rintro x ⟨⟩; exact hm)).mono ?_
  rintro e w' ⟨rfl, hw, g⟩
  obtain ⟨b', e', hw⟩ := hw
  cases e'
  exact ⟨rfl, hw, g⟩
theorem rd_endS {w : World} {b : Nat} {s : RSt} (h : RdAt w b s.rest s.err) :
    Calls Tryz.prog 42 #[.pointer (some ⟨b, 0, none⟩)] w fun e w' => e = .returned (.int .i64 s.done) ∧ w = w' :=
  end_any w (some ⟨b, 0, none⟩) (some s) ⟨b, rfl, h⟩
end Go.Proofs.YtemndmhdlgfajaaGreatDoor

namespace Go.Proofs.YtemndmhdlgfajaaGreatDoor
open Go.RowKit
attribute [local irreducible] shaL

theorem grown_row {a b c : World} {row : Option Nat} (h : a.grownBy b none) (k : b.grownBy c row) (hn : ∀ g, row = some g → a.heap.size ≤ g) : a.grownBy c none :=
  ⟨k.os.trans h.os, k.tape.trans h.tape, k.output.trans h.output, Nat.le_trans h.size k.size, fun i hi hne => (k.block i (Nat.lt_of_lt_of_le hi h.size) (by intro e; have := hn i e.symm; omega)).trans (h.block i hi hne)⟩
theorem ShaReady.grown {w w' : World} (h : ShaReady w) (hg : w.grownBy w' none) : ShaReady w' := h.kept hg (by simp) (by simp)

/-- sha.Tagged of texts in a new block -/
theorem tagged_new (w : World) (tag : UInt8) (L : List ByteArray) (vs : List Value) (n : Nat) (tg : Int) (hv : vs = L.map Value.string) (hn : n = L.length) (ht : (tag.toNat : Int) = tg) (hr : ShaReady w) (hN : L.length ≤ 1000) (hs : ∀ s ∈ L, s.size ≤ 1000000000000) :
    Calls Tryz.prog 16 #[.int .u8 tg, .slice (some ⟨w.heap.size, 0, none⟩) n n] (w.alloc (.cells vs.toArray 9)) fun e w' => e = .returned (.string (tagS tag L)) ∧ w.grownBy w' none := by
  subst hv
  subst ht
  refine (tagged_any _ tag _ L (strs_new w L 9 n hn) (hr.grown (World.grownBy_alloc _ _ _)) (by unfold maxLen; omega) ?_).mono fun e w' h => ⟨h.1, grownBy_trans (World.grownBy_alloc _ _ _) h.2⟩
  have := tagB_length tag L _ hs
  have h2 : L.length * (4 + 1000000000000) ≤ 1000 * (4 + 1000000000000) := Nat.mul_le_mul_right _ hN
  omega

end Go.Proofs.YtemndmhdlgfajaaGreatDoor

namespace Go.Proofs.YtemndmhdlgfajaaGreatDoor
open Go.RowKit
attribute [local irreducible] shaL

theorem hmb_any (h : Int) (w : World) :
    Calls Tryz.prog 31 #[.int .i64 h] w fun e w' => e = .returned (.bool (decide (0 ≤ h ∧ h ≤ 6))) ∧ w = w' := by
  by_cases h1 : 0 ≤ h
  · by_cases h2 : h ≤ 6
    · rw [decide_eq_true (show 0 ≤ h ∧ h ≤ 6 from ⟨h1, h2⟩)]
      go_enter Tryz.func31, Tryz.ntmps31
      go_wp2_with fail
      go_ret
      exact ⟨rfl, rfl⟩
    · rw [decide_eq_false (show ¬ (0 ≤ h ∧ h ≤ 6) from fun q => h2 q.2)]
      go_enter Tryz.func31, Tryz.ntmps31
      go_wp2_with fail
      go_ret
      exact ⟨rfl, rfl⟩
  · rw [decide_eq_false (show ¬ (0 ≤ h ∧ h ≤ 6) from fun q => h1 q.1)]
    go_enter Tryz.func31, Tryz.ntmps31
    go_wp2_with fail
    go_ret
    exact ⟨rfl, rfl⟩

def pubZ (o r : ByteArray) (h : Int) : Value := .agg #[.string o, .string r, .int .i64 h]
theorem pubErr_out {o r : ByteArray} {h : Int} (k : ¬ (0 ≤ h ∧ h ≤ 6)) : pubErr o r h = 10 ∧ pubEnc o r h = ⟨#[]⟩ := by
  have : ¬ pubOk o r h := fun q => k q.1
  unfold pubErr pubEnc
  rw [if_neg this, if_neg this]
  exact ⟨rfl, rfl⟩
/-- a struct of three cells in a block: its cells -/
theorem cells3 {w : World} {b : Nat} {t : TypeId} {a0 a1 a2 : Value} (h : w.heap[b]? = some (.cells #[a0, a1, a2] t (0, 0))) : w.cell? ⟨b, 0, none⟩ = some a0 ∧ w.cell? ⟨b, 1, none⟩ = some a1 ∧ w.cell? ⟨b, 2, none⟩ = some a2 := by
  refine ⟨?_, ?_, ?_⟩ <;> rw [cell_of h] <;> rfl
set_option maxRecDepth 100000 in
set_option maxHeartbeats 1600000 in
theorem pencode_any (o r : ByteArray) (h : Int) (ho : o.size ≤ 100000) (hr : r.size ≤ 100000) (w : World) :
    Calls Tryz.prog 84 #[pubZ o r h] w fun e w' => e = .returned (.tuple #[.string (pubEnc o r h), .int .i64 (pubErr o r h)]) ∧ w.grownBy w' none := by
  unfold pubZ
  have hb0 := heap_alloc_at w (.cells #[.string o, .string r, .int .i64 h] 31) _ rfl
  have hg0 : w.grownBy (w.alloc (.cells #[.string o, .string r, .int .i64 h] 31)) none := World.grownBy_alloc _ _ _
  obtain ⟨W0, hW0⟩ : ∃ W0, w.alloc (.cells #[.string o, .string r, .int .i64 h] 31) = W0 := ⟨_, rfl⟩
  rw [hW0] at hb0 hg0
  obtain ⟨x0, x1, x2⟩ := cells3 hb0
  have HB0 := Lib.hid hb0
  have HG0 := Lib.hid hg0
  have HW0 := Lib.hid hW0
  clear hb0 hg0 hW0
  by_cases hh : 0 ≤ h ∧ h ≤ 6
  · obtain ⟨k, rfl⟩ := Int.eq_ofNat_of_zero_le hh.1
    have hk : k ≤ 6 := by omega
    have HM : Hid (∀ w0 : World, Calls Tryz.prog 31 #[.int .i64 k] w0 fun e w' => e = .returned (.bool true) ∧ w0 = w') := fun w0 => by
      have := hmb_any k w0
      rwa [decide_eq_true hh] at this
    have HA := Lib.hid (pubW_ans o r k hk)
    have HSZ := Lib.hid (And.intro ho hr)
    have c1 : IntKind.u64.wrap (k : Int) = (k : Int) := wrap_u64 k (by omega)
    clear hh ho hr
    go_enter Tryz.func84, Tryz.ntmps84
    go_wp2_with (rw [HW0.out])
    refine (HM.out _).mono ?_
    rintro e w1 ⟨rfl, hw1⟩
    subst hw1
    have hWB : WrAt (W0.alloc (.cells #[.pointer none, .int .i64 0, .int .i64 0] 90)) W0.heap.size ⟨[], 0⟩ := ⟨.pointer none, heap_alloc_at W0 _ _ rfl, rfl⟩
    have hg1 : W0.grownBy (W0.alloc (.cells #[.pointer none, .int .i64 0, .int .i64 0] 90)) none := World.grownBy_alloc _ _ _
    have hb1 := hg1.heap HB0.out (by simp)
    obtain ⟨XB, hXB⟩ : ∃ XB, w.heap.size = XB := ⟨_, rfl⟩
    obtain ⟨WB, hWBn⟩ : ∃ WB, W0.heap.size = WB := ⟨_, rfl⟩
    obtain ⟨W1, hW1⟩ : ∃ W1, W0.alloc (.cells #[.pointer none, .int .i64 0, .int .i64 0] 90) = W1 := ⟨_, rfl⟩
    have hlt : w.heap.size < W0.heap.size := (Array.getElem?_eq_some_iff.1 HB0.out).1
    rw [hW1] at hWB hg1 hb1
    rw [hWBn] at hWB hlt
    rw [hXB] at hb1 hlt x0 x1 x2 ⊢
    have HLT := Lib.hid hlt
    have HX := Lib.hid hXB
    have HG1 := Lib.hid (grownBy_trans HG0.out hg1)
    have HWBn := Lib.hid hWBn
    have HW1 := Lib.hid hW1
    have HWR := Lib.hid hWB
    obtain ⟨y0, y1, y2⟩ := cells3 hb1
    have hne2 : ∀ (w' w'' : World) (o : Nat) (u : Value), w'.grownBy w'' (some WB) → w'.cell? ⟨XB, o, none⟩ = some u → w''.cell? ⟨XB, o, none⟩ = some u := fun w' w'' o u g h => g.cell h (fun e => by have := HLT.out; simp at e; omega)
    have HNE := Lib.hid hne2
    have hnew : ∀ g, some WB = some g → w.heap.size ≤ g := fun g e => by cases e; have := HLT.out; have := HX.out; omega
    have HNEW := Lib.hid hnew
    have t0 : total (⟨[], 0⟩ : WSt).ts = 0 := rfl
    have t1 := total_fixed (⟨[], 0⟩ : WSt) o 16
    have t2 := total_fixed ((⟨[], 0⟩ : WSt).fixed o 16) r 16
    have t3 := pubW_total o r k
    have hF1 := fun (w' : World) (q : WrAt w' WB ⟨[], 0⟩) => wr_fixedS o 16 q (by have := HSZ.out; omega)
    have hF2 := fun (w' : World) (q : WrAt w' WB ((⟨[], 0⟩ : WSt).fixed o 16)) => wr_fixedS r 16 q (by have := HSZ.out; omega)
    have hN := fun (w' : World) (q : WrAt w' WB (((⟨[], 0⟩ : WSt).fixed o 16).fixed r 16)) => wr_numS k (by omega) 1 q (by have := HSZ.out; omega)
    have hBY := fun (w' : World) (q : WrAt w' WB (pubW o r k)) => wr_bytesS q (by have := HSZ.out; omega)
    have hpw : (((⟨[], 0⟩ : WSt).fixed o 16).fixed r 16).num k 1 = pubW o r k := rfl
    rw [hpw] at hN
    have HF1 := Lib.hid hF1
    have HF2 := Lib.hid hF2
    have HN := Lib.hid hN
    rw [HA.out.1, HA.out.2] at hBY
    have HBY := Lib.hid hBY
    clear hWB hg1 hb1 hXB hWBn hW1 hlt hne2 hnew t0 t1 t2 t3 hF1 hF2 hN hBY hpw x0 x1 x2
    go_wp2_with (rw [HW1.out, HWBn.out])
    have hdw : WrAt W1.drew WB ⟨[], 0⟩ := HWR.out.grown (grownBy_drew (World.grownBy.refl _ _))
    go_region_held3 (fun w' => w'.cell? ⟨XB, 0, none⟩ = some (.string o) ∧ w'.cell? ⟨XB, 1, none⟩ = some (.string r)) (first | exact ck | exact ⟨y0, y1⟩)
      (first
      | (go_at_call 86; (with_reducible refine (HF1.out _ hdw).mono ?_); rintro e w3 ⟨rfl, hw3, g3⟩; have ck := And.intro (HNE.out _ _ _ _ g3 y0) (HNE.out _ _ _ _ g3 y1))
      | (go_at_call 86; (with_reducible refine (HF2.out _ hw3).mono ?_); rintro e w4 ⟨rfl, hw4, g4⟩; have ck := And.intro (HNE.out _ _ _ _ g4 ck.1) (HNE.out _ _ _ _ g4 ck.2)))
    have z2 := HNE.out _ _ _ _ g4 (HNE.out _ _ _ _ g3 y2)
    have HG4 := Lib.hid (grown_row (grown_row (grownBy_drew HG1.out) g3 HNEW.out) g4 HNEW.out)
    have HW4 := Lib.hid hw4
    clear ck g3 g4 hw3 hw4
    go_wp2_with fail
    refine (HN.out _ HW4.out).mono ?_
    rintro e w5 ⟨rfl, hw5, g5⟩
    have HW5 := Lib.hid hw5
    have HG5 := Lib.hid (grown_row HG4.out g5 HNEW.out)
    clear hw5 g5
    go_wp2_with fail
    refine (HBY.out _ HW5.out).mono ?_
    rintro e w6 ⟨rfl, g6⟩
    have HG6 := Lib.hid (grownBy_trans HG5.out g6)
    clear g6
    go_wp2_with fail
    go_returns
    exact ⟨rfl, HG6.out⟩
  · have HM : Hid (∀ w0 : World, Calls Tryz.prog 31 #[.int .i64 h] w0 fun e w' => e = .returned (.bool false) ∧ w0 = w') := fun w0 => by
      have := hmb_any h w0
      rwa [decide_eq_false hh] at this
    obtain ⟨h1, h2⟩ := pubErr_out (o := o) (r := r) hh
    rw [h1, h2]
    clear h1 h2 hh ho hr x0 x1
    go_enter Tryz.func84, Tryz.ntmps84
    go_wp2_with (rw [HW0.out])
    refine (HM.out _).mono ?_
    rintro e w1 ⟨rfl, hw1⟩
    subst hw1
    go_wp2_with fail
    go_returns
    exact ⟨rfl, HG0.out⟩

/-! DecodePublic -/
theorem heap3 {w : World} {n : Nat} {a0 a1 a2 : Value} {t : TypeId} (h : w.heap[n]? = some (.cells #[a0, a1, a2] t (0, 0))) (v0 v1 v2 : Value) :
    (((w.setCell ⟨n, 0, none⟩ v0).setCell ⟨n, 1, none⟩ v1).setCell ⟨n, 2, none⟩ v2).heap[n]? = some (.cells #[v0, v1, v2] t (0, 0)) :=
  (heap_setCell (heap_setCell (heap_setCell h 0 v0) 1 v1) 2 v2).trans rfl
theorem grown3 (w : World) (n : Nat) (v0 v1 v2 : Value) : w.grownBy (((w.setCell ⟨n, 0, none⟩ v0).setCell ⟨n, 1, none⟩ v1).setCell ⟨n, 2, none⟩ v2) (some n) :=
  grownBy_setCell (grownBy_setCell (grownBy_setCell (World.grownBy.refl w _) 0 _) 1 _) 2 _
theorem results_decodeP {n : Nat} {v0 v1 v2 : Value} {z : Int} {tmps : Array Value} {w : World} (h6 : tmps[2]? = some (.pointer (some ⟨n, 0, none⟩))) (h7 : tmps[3]? = some (.int .i64 z)) (hb : w.heap[n]? = some (.cells #[v0, v1, v2] 31 (0, 0))) :
    (results Tryz.f97 tmps).run Tryz.prog w = .ok (.tuple #[.agg #[v0, v1, v2], .int .i64 z]) w := by
  obtain ⟨c0, c1, c2⟩ := cells3 hb
  simp [results, Tryz.results97, go_sem, h6, h7, c0, c1, c2]
/-- what is told of bytes, as a public key -/
def DecP.val (d : DecP) : Value := if d.err = 0 then pubZ d.o d.r d.h else pubZ ⟨#[]⟩ ⟨#[]⟩ 0
set_option maxRecDepth 100000 in
set_option maxHeartbeats 1600000 in
theorem pdecode_any (s : ByteArray) (hs : s.size ≤ 1000000000) (w : World) :
    Calls Tryz.prog 97 #[.string s] w fun e w' => e = .returned (.tuple #[(decP s).val, .int .i64 (decP s).err]) ∧ w.grownBy w' none := by
  obtain ⟨n, hn⟩ : ∃ n, w.heap.size = n := ⟨_, rfl⟩
  have hr0 := heap_alloc_at w (.cells #[.string ⟨#[]⟩, .string ⟨#[]⟩, .int .i64 0] 31) n hn
  have hg0 : w.grownBy (w.alloc (.cells #[.string ⟨#[]⟩, .string ⟨#[]⟩, .int .i64 0] 31)) none := World.grownBy_alloc _ _ _
  obtain ⟨W0, hW0⟩ : ∃ W0, w.alloc (.cells #[.string ⟨#[]⟩, .string ⟨#[]⟩, .int .i64 0] 31) = W0 := ⟨_, rfl⟩
  rw [hW0] at hr0 hg0
  have hz0 : W0.heap.size = n + 1 := by rw [← hW0, World.size_alloc, hn]
  have hrd := read_any s W0
  rw [hz0] at hrd
  have HRD := Lib.hid hrd
  have HR0 := Lib.hid hr0
  have HG0 := Lib.hid hg0
  have HW0 := Lib.hid hW0
  have HN := Lib.hid hn
  have HH := Lib.hid (decP_h s)
  -- the states
  obtain ⟨s1, hs1⟩ : ∃ x, ((⟨s, 0⟩ : RSt).fixed 16) = x := ⟨_, rfl⟩
  obtain ⟨s2, hs2⟩ : ∃ x, (s1.2.fixed 16) = x := ⟨_, rfl⟩
  obtain ⟨s3, hs3⟩ : ∃ x, (s2.2.num 1) = x := ⟨_, rfl⟩
  have hD : decP s = ⟨s1.1, s2.1, s3.1, s3.2⟩ := by
    unfold decP
    simp only
    rw [hs1, hs2, hs3]
  have hz1 : s1.2.rest.size ≤ 1000000000 := by rw [← hs1]; exact Nat.le_trans (rest_le _ _).2 hs
  have hz2 : s2.2.rest.size ≤ 1000000000 := by rw [← hs2]; exact Nat.le_trans (rest_le _ _).2 hz1
  have HF1 : Hid (∀ w' : World, RdAt w' (n + 1) s 0 → Calls Tryz.prog 96 #[.pointer (some ⟨n + 1, 0, none⟩), .int .i64 16] w' fun e w'' => e = .returned (.string s1.1) ∧ RdAt w'' (n + 1) s1.2.rest s1.2.err ∧ w'.grownBy w'' (some (n + 1))) := fun w' q => by
    have := rd_fixedS (s := ⟨s, 0⟩) 16 q (by show s.size ≤ _; unfold maxLen; omega)
    rwa [hs1] at this
  have HF2 : Hid (∀ w' : World, RdAt w' (n + 1) s1.2.rest s1.2.err → Calls Tryz.prog 96 #[.pointer (some ⟨n + 1, 0, none⟩), .int .i64 16] w' fun e w'' => e = .returned (.string s2.1) ∧ RdAt w'' (n + 1) s2.2.rest s2.2.err ∧ w'.grownBy w'' (some (n + 1))) := fun w' q => by
    have := rd_fixedS (s := s1.2) 16 q (by unfold maxLen; omega)
    rwa [hs2] at this
  have HF3 : Hid (∀ w' : World, RdAt w' (n + 1) s2.2.rest s2.2.err → Calls Tryz.prog 94 #[.pointer (some ⟨n + 1, 0, none⟩), .int .i64 1] w' fun e w'' => e = .returned (.int .u64 s3.1) ∧ RdAt w'' (n + 1) s3.2.rest s3.2.err ∧ w'.grownBy w'' (some (n + 1))) := fun w' q => by
    have := rd_numS (s := s2.2) 1 q (by unfold maxLen; omega)
    rwa [hs3] at this
  have h256 := HH.out
  rw [hD] at h256 ⊢
  have h256 : s3.1 < 256 := h256
  have cv : IntKind.i64.wrap (s3.1 : Int) = (s3.1 : Int) := IntWalk.i64_in _ (by omega)
  obtain ⟨dn, hdn⟩ : ∃ dn, s3.2.done = dn := ⟨_, rfl⟩
  have HE : Hid (∀ w' : World, RdAt w' (n + 1) s3.2.rest s3.2.err → Calls Tryz.prog 42 #[.pointer (some ⟨n + 1, 0, none⟩)] w' fun e w'' => e = .returned (.int .i64 dn) ∧ w' = w'') := fun w' q => by
    have := rd_endS (s := s3.2) q
    rwa [hdn] at this
  have hnew : ∀ g, some (n + 1) = some g → w.heap.size ≤ g := fun g e => by cases e; omega
  have HNEW := Lib.hid hnew
  have HDN := Lib.hid hdn
  have hzero : ∀ (w' : World) (v0 v1 v2 : Value), w.grownBy w' none → w.grownBy (((w'.setCell ⟨n, 0, none⟩ v0).setCell ⟨n, 1, none⟩ v1).setCell ⟨n, 2, none⟩ v2) none := fun w' v0 v1 v2 q => grown_row q (grown3 w' n v0 v1 v2) (fun x e => by have e2 : n = x := Option.some.inj e; have := HN.out; omega)
  have HZERO := Lib.hid hzero
  clear hr0 hg0 hW0 hz0 hrd hn hs hs1 hs2 hs3 hD hz1 hz2 hdn hnew hzero HH
  go_enter Tryz.func97, Tryz.ntmps97
  go_wp2_with (rw [HW0.out, HN.out])
  refine HRD.out.mono ?_
  rintro e w1 ⟨rfl, hrd1, g1⟩
  have HR1 := Lib.hid hrd1
  have HS1 := Lib.hid (And.intro (grownBy_trans HG0.out g1) (g1.heap HR0.out (by simp)))
  clear hrd1 g1 HRD
  go_wp2_with fail
  refine (HF1.out _ HR1.out).mono ?_
  rintro e w2 ⟨rfl, hrd2, g2⟩
  have HR2 := Lib.hid hrd2
  have HS2 := Lib.hid (And.intro (grown_row HS1.out.1 g2 HNEW.out) (g2.heap HS1.out.2 (fun e => by have := Option.some.inj e; omega)))
  clear hrd2 g2 HR1 HS1
  go_wp2_with fail
  refine (HF2.out _ HR2.out).mono ?_
  rintro e w3 ⟨rfl, hrd3, g3⟩
  have HR3 := Lib.hid hrd3
  have HS3 := Lib.hid (And.intro (grown_row HS2.out.1 g3 HNEW.out) (g3.heap HS2.out.2 (fun e => by have := Option.some.inj e; omega)))
  clear hrd3 g3 HR2 HS2
  go_wp2_with fail
  refine (HF3.out _ HR3.out).mono ?_
  rintro e w4 ⟨rfl, hrd4, g4⟩
  have HR4 := Lib.hid hrd4
  have HS4 := Lib.hid (And.intro (grown_row HS3.out.1 g4 HNEW.out) (g4.heap HS3.out.2 (fun e => by have := Option.some.inj e; omega)))
  clear hrd4 g4 HR3 HS3
  go_wp2_with fail
  refine (HE.out _ HR4.out).mono ?_
  rintro e w5 ⟨rfl, hw5⟩
  subst hw5
  obtain ⟨u0, u1, u2⟩ := cells3 HS4.out.2
  have uf : ∀ j, w4.frozen? ⟨n, j, none⟩ = false := fun j => free_of HS4.out.2 j
  by_cases hz : dn = 0
  · have hzb : (dn != 0) = false := by simp [hz]
    have HDZ : Hid (s3.2.done = 0) := HDN.out.trans hz
    clear HDN
    by_cases h6 : s3.1 ≤ 6
    · have HM : Hid (∀ w0 : World, Calls Tryz.prog 31 #[.int .i64 s3.1] w0 fun e w' => e = .returned (.bool true) ∧ w0 = w') := fun w0 => by
        have := hmb_any s3.1 w0
        rwa [decide_eq_true (show (0 : Int) ≤ s3.1 ∧ (s3.1 : Int) ≤ 6 by omega)] at this
      have HER : Hid ((⟨s1.1, s2.1, s3.1, s3.2⟩ : DecP).err = 0) := by
        show (if s3.2.done ≠ 0 then _ else if 6 < s3.1 then (4 : Int) else 0) = 0
        rw [if_neg (by rw [HDZ.out]; simp), if_neg (by omega)]
      go_wp2_with fail
      refine (HM.out _).mono ?_
      rintro e w6 ⟨rfl, hw6⟩
      subst hw6
      go_wp2_with fail
      refine bodyPost_ret (results_decodeP (n := n) (v0 := .string s1.1) (v1 := .string s2.1) (v2 := .int .i64 s3.1) rfl rfl (heap3 HS4.out.2 _ _ _)) rfl ?_
      refine ⟨?_, HZERO.out _ _ _ _ HS4.out.1⟩
      unfold DecP.val
      rw [HER.out]
      rfl
    · have HM : Hid (∀ w0 : World, Calls Tryz.prog 31 #[.int .i64 s3.1] w0 fun e w' => e = .returned (.bool false) ∧ w0 = w') := fun w0 => by
        have := hmb_any s3.1 w0
        rwa [decide_eq_false (show ¬ ((0 : Int) ≤ s3.1 ∧ (s3.1 : Int) ≤ 6) by omega)] at this
      have HER : Hid ((⟨s1.1, s2.1, s3.1, s3.2⟩ : DecP).err = 4) := by
        show (if s3.2.done ≠ 0 then _ else if 6 < s3.1 then (4 : Int) else 0) = 4
        rw [if_neg (by rw [HDZ.out]; simp), if_pos (by omega)]
      go_wp2_with fail
      refine (HM.out _).mono ?_
      rintro e w6 ⟨rfl, hw6⟩
      subst hw6
      go_wp2_with fail
      refine bodyPost_ret (results_decodeP (n := n) (v0 := .string ⟨#[]⟩) (v1 := .string ⟨#[]⟩) (v2 := .int .i64 0) rfl rfl (heap3 HS4.out.2 _ _ _)) rfl ?_
      refine ⟨?_, HZERO.out _ _ _ _ HS4.out.1⟩
      unfold DecP.val
      rw [HER.out]
      rfl
  · have hzb : (dn != 0) = true := by simp [hz]
    have HER : Hid ((⟨s1.1, s2.1, s3.1, s3.2⟩ : DecP).err = dn) := by
      show (if s3.2.done ≠ 0 then _ else if 6 < s3.1 then (4 : Int) else 0) = dn
      rw [HDN.out, if_pos hz]
    have HNZ := Lib.hid hz
    go_wp2_with fail
    refine bodyPost_ret (results_decodeP (n := n) (v0 := .string ⟨#[]⟩) (v1 := .string ⟨#[]⟩) (v2 := .int .i64 0) rfl rfl (heap3 HS4.out.2 _ _ _)) rfl ?_
    refine ⟨?_, HZERO.out _ _ _ _ HS4.out.1⟩
    unfold DecP.val
    rw [HER.out, if_neg HNZ.out]
    rfl
end Go.Proofs.YtemndmhdlgfajaaGreatDoor

namespace Go.Proofs.YtemndmhdlgfajaaGreatDoor

def catS : List ByteArray → List UInt8
  | [] => []
  | t :: r => t.data.toList ++ catS r
theorem catS_append (a b : List ByteArray) : catS (a ++ b) = catS a ++ catS b := by
  induction a with
  | nil => rfl
  | cons t r ih =>
    show t.data.toList ++ catS (r ++ b) = (t.data.toList ++ catS r) ++ catS b
    rw [ih, List.append_assoc]
theorem text_len (t : ByteArray) : t.data.toList.length = t.size := by rw [Array.length_toList]; rfl
theorem catS_16 : ∀ (L : List ByteArray), (∀ t ∈ L, t.size = 16) → (catS L).length = 16 * L.length
  | [], _ => rfl
  | t :: r, h => by
    have h1 := catS_16 r (fun y hy => h y (List.mem_cons_of_mem _ hy))
    have h2 := h t List.mem_cons_self
    show (t.data.toList ++ catS r).length = _
    rw [List.length_append, h1, List.length_cons, text_len]
    omega
theorem flat_rev (L : List ByteArray) : ∀ ts, flat (L.reverse ++ ts) = flat ts ++ catS L := by
  induction L with
  | nil => intro ts; show flat ts = flat ts ++ []; rw [List.append_nil]
  | cons t r ih =>
    intro ts
    rw [List.reverse_cons, List.append_assoc, ih]
    show (flat ts ++ t.data.toList) ++ catS r = flat ts ++ (t.data.toList ++ catS r)
    rw [List.append_assoc]
theorem put16 (ts : List ByteArray) (t : ByteArray) (h : t.size = 16) : (⟨ts, 0⟩ : WSt).fixed t 16 = ⟨t :: ts, 0⟩ := wput_ok ts t 16 (by omega)
/-- the Reader behind n texts of 16 bytes, and these -/
def reads : Nat → RSt → List ByteArray × RSt
  | 0, s => ([], s)
  | n + 1, s => ((reads n s).1 ++ [((reads n s).2.fixed 16).1], ((reads n s).2.fixed 16).2)
theorem reads_len (s : RSt) : ∀ n, (reads n s).1.length = n
  | 0 => rfl
  | n + 1 => by show ((reads n s).1 ++ [_]).length = _; rw [List.length_append, reads_len s n]; rfl
theorem reads_rest (s : RSt) : ∀ n, (reads n s).2.rest.size ≤ s.rest.size
  | 0 => Nat.le_refl _
  | n + 1 => Nat.le_trans (rest_le _ _).2 (reads_rest s n)
theorem take_at {L : List ByteArray} {k : Nat} {t : ByteArray} (h : L[k]? = some t) : L.take (k + 1) = L.take k ++ [t] ∧ L.drop k = t :: L.drop (k + 1) := by
  obtain ⟨hk, rfl⟩ := List.getElem?_eq_some_iff.1 h
  exact ⟨by rw [List.take_add_one, List.getElem?_eq_getElem hk]; rfl, List.drop_eq_getElem_cons hk⟩
theorem reads_some (L : List ByteArray) (more : List UInt8) (h : ∀ t ∈ L, t.size = 16) : ∀ k, k ≤ L.length → reads k ⟨str (catS L ++ more), 0⟩ = (L.take k, ⟨str (catS (L.drop k) ++ more), 0⟩)
  | 0, _ => rfl
  | k + 1, hk => by
    obtain ⟨t, ht⟩ : ∃ t, L[k]? = some t := ⟨_, List.getElem?_eq_getElem (by omega)⟩
    have h16 := h t (List.mem_of_getElem? ht)
    obtain ⟨e1, e2⟩ := take_at ht
    have hf := rd_fixed t (catS (L.drop (k + 1)) ++ more)
    rw [h16] at hf
    show ((reads k _).1 ++ [((reads k _).2.fixed 16).1], ((reads k _).2.fixed 16).2) = _
    rw [reads_some L more h k (by omega), e1, e2]
    show (L.take k ++ [((⟨str ((t.data.toList ++ catS (L.drop (k + 1))) ++ more), 0⟩ : RSt).fixed 16).1], ((⟨str ((t.data.toList ++ catS (L.drop (k + 1))) ++ more), 0⟩ : RSt).fixed 16).2) = _
    rw [List.append_assoc]
    have hf : (⟨str (t.data.toList ++ (catS (L.drop (k + 1)) ++ more)), 0⟩ : RSt).fixed 16 = _ := hf
    rw [hf]
theorem reads_all (L : List ByteArray) (more : List UInt8) (h : ∀ t ∈ L, t.size = 16) (n : Nat) (hn : L.length = n) : reads n ⟨str (catS L ++ more), 0⟩ = (L, ⟨str more, 0⟩) := by
  rw [← hn, reads_some L more h L.length (Nat.le_refl _), List.take_of_length_le (Nat.le_refl _), List.drop_of_length_le (Nat.le_refl _)]
  rfl

/-! a signature -/
def sigB (i : Nat) (C P : List ByteArray) : List UInt8 := be i 1 ++ (catS C ++ (be P.length 1 ++ catS P))
theorem sigB_len (i : Nat) (C P : List ByteArray) (hC : C.length = 35) (h1 : ∀ t ∈ C, t.size = 16) (h2 : ∀ t ∈ P, t.size = 16) : (sigB i C P).length = 562 + 16 * P.length := by
  unfold sigB
  rw [List.length_append, List.length_append, List.length_append, be_length, be_length, catS_16 C h1, catS_16 P h2, hC]
  omega
structure DecG where
  i : Nat
  C : List ByteArray
  n : Nat
  P : List ByteArray
  s : RSt
def decG (s : ByteArray) : DecG :=
  ⟨((⟨s, 0⟩ : RSt).num 1).1, (reads 35 ((⟨s, 0⟩ : RSt).num 1).2).1, ((reads 35 ((⟨s, 0⟩ : RSt).num 1).2).2.num 1).1, (reads (min ((reads 35 ((⟨s, 0⟩ : RSt).num 1).2).2.num 1).1 6) ((reads 35 ((⟨s, 0⟩ : RSt).num 1).2).2.num 1).2).1, (reads (min ((reads 35 ((⟨s, 0⟩ : RSt).num 1).2).2.num 1).1 6) ((reads 35 ((⟨s, 0⟩ : RSt).num 1).2).2.num 1).2).2⟩
def DecG.err (d : DecG) : Int := if d.s.done ≠ 3 ∧ (63 < d.i ∨ 6 < d.n) then 4 else d.s.done
theorem decG_fine (i : Nat) (C P : List ByteArray) (hi : i ≤ 63) (hC : C.length = 35) (hP : P.length ≤ 6) (h1 : ∀ t ∈ C, t.size = 16) (h2 : ∀ t ∈ P, t.size = 16) : decG (str (sigB i C P)) = ⟨i, C, P.length, P, ⟨str [], 0⟩⟩ := by
  have e1 : (1 : Int).toNat = 1 := rfl
  have a1 := rd_num (n := i) (k := 1) ⟨by omega, by omega, by show i < 256; omega⟩ (catS C ++ (be P.length 1 ++ catS P))
  rw [e1] at a1
  have a2 := reads_all C (be P.length 1 ++ catS P) h1 35 hC
  have a3 := rd_num (n := P.length) (k := 1) ⟨by omega, by omega, by show P.length < 256; omega⟩ (catS P)
  rw [e1] at a3
  have a4 := reads_all P [] h2 (min P.length 6) (by omega)
  rw [List.append_nil] at a4
  unfold decG sigB
  rw [a1]
  simp only
  rw [a2]
  simp only
  rw [a3]
  simp only
  rw [a4]
theorem decG_ok (i : Nat) (C P : List ByteArray) (hi : i ≤ 63) (hP : P.length ≤ 6) : (⟨i, C, P.length, P, ⟨str [], 0⟩⟩ : DecG).err = 0 := by
  unfold DecG.err
  rw [done_nil, if_neg (by simp only; omega)]

/-! an update -/
def textU (t : ByteArray) : List UInt8 := be t.size 2 ++ t.data.toList
theorem textU_len (t : ByteArray) : (textU t).length = 2 + t.size := by unfold textU; rw [List.length_append, be_length, text_len]
def updB (l x s : ByteArray) : List UInt8 := textU l ++ (textU x ++ textU s)
structure DecU where
  l : ByteArray
  x : ByteArray
  g : ByteArray
  s : RSt
def decU (b : ByteArray) : DecU := ⟨(⟨b, 0⟩ : RSt).text.1, (⟨b, 0⟩ : RSt).text.2.text.1, (⟨b, 0⟩ : RSt).text.2.text.2.text.1, (⟨b, 0⟩ : RSt).text.2.text.2.text.2⟩
theorem decU_more (l x g : ByteArray) (y : List UInt8) (h1 : l.size ≤ 4096) (h2 : x.size ≤ 4096) (h3 : g.size ≤ 4096) : decU (str (updB l x g ++ y)) = ⟨l, x, g, ⟨str y, 0⟩⟩ := by
  have a1 := rd_text h1 (textU x ++ (textU g ++ y))
  have a2 := rd_text h2 (textU g ++ y)
  have a3 := rd_text h3 y
  have e : updB l x g ++ y = (be l.size 2 ++ l.data.toList) ++ (textU x ++ (textU g ++ y)) := by unfold updB textU; simp only [List.append_assoc]
  rw [e]
  unfold decU
  rw [a1]
  simp only
  rw [show textU x ++ (textU g ++ y) = (be x.size 2 ++ x.data.toList) ++ (textU g ++ y) from rfl, a2]
  simp only
  rw [show textU g ++ y = (be g.size 2 ++ g.data.toList) ++ y from rfl, a3]
theorem decU_fine (l x g : ByteArray) (h1 : l.size ≤ 4096) (h2 : x.size ≤ 4096) (h3 : g.size ≤ 4096) : decU (str (updB l x g)) = ⟨l, x, g, ⟨str [], 0⟩⟩ := by
  have := decU_more l x g [] h1 h2 h3
  rwa [List.append_nil] at this
/-- bytes that stop within a text -/
theorem text_less (t : ByteArray) (ht : t.size ≤ 4096) (k : Nat) (hk : k < 2 + t.size) : (⟨str ((textU t).take k), 0⟩ : RSt).text.2.err = 3 := by
  by_cases h2 : k < 2
  · have hl : ((textU t).take k).length = k := by rw [List.length_take, textU_len]; omega
    have hf : (⟨str ((textU t).take k), 0⟩ : RSt).fixed ((2 : Nat) : Int) = _ := rd_less ((textU t).take k) 2 (by omega)
    have hn := num_of (⟨str ((textU t).take k), 0⟩ : RSt) 2 (by decide)
    rw [hf] at hn
    have hn : (⟨str ((textU t).take k), 0⟩ : RSt).num 2 = (0, ⟨str ((textU t).take k), 3⟩) := hn
    unfold RSt.text
    rw [hn]
    simp only
    rw [if_neg (by decide)]
    have := rd_err (str ((textU t).take k)) 3 (by decide) ((0 : Nat) : Int)
    rw [this]
  · have hs : (textU t).take k = be t.size 2 ++ t.data.toList.take (k - 2) := by
      unfold textU
      rw [List.take_append, be_length, List.take_of_length_le (by rw [be_length]; omega)]
    have hn := rd_num (n := t.size) (k := 2) ⟨by omega, by omega, by show t.size < 65536; omega⟩ (t.data.toList.take (k - 2))
    have e2 : (2 : Int).toNat = 2 := rfl
    rw [e2] at hn
    rw [hs]
    unfold RSt.text
    rw [hn]
    simp only
    rw [if_neg (by omega), rd_less _ t.size (by rw [List.length_take, text_len]; omega)]
theorem fixed_errP {s : RSt} (h : s.err ≠ 0) (k : Int) : s.fixed k = (ByteArray.empty, s) := by
  obtain ⟨r, e⟩ := s
  exact rd_err r e h k
theorem text_errP {s : RSt} (h : s.err ≠ 0) : s.text.2.err = s.err := by
  have hn := num_of s 2 (by decide)
  have hf : s.fixed ((2 : Nat) : Int) = _ := fixed_errP h 2
  rw [hf] at hn
  have hn : s.num 2 = (0, s) := hn
  unfold RSt.text
  rw [hn]
  simp only
  rw [if_neg (by decide), fixed_errP h]
theorem done_err {s : RSt} (h : s.err = 3) : s.done = 3 := by
  unfold RSt.done
  rw [if_neg (by rw [h]; simp), h]
theorem decU_less (l x g : ByteArray) (k : Nat) (h1 : l.size ≤ 4096) (h2 : x.size ≤ 4096) (h3 : g.size ≤ 4096) (hk : k < (updB l x g).length) : (decU (str ((updB l x g).take k))).s.done = 3 := by
  refine done_err ?_
  show (⟨str ((updB l x g).take k), 0⟩ : RSt).text.2.text.2.text.2.err = 3
  have hlen : (updB l x g).length = (2 + l.size) + ((2 + x.size) + (2 + g.size)) := by unfold updB; rw [List.length_append, List.length_append, textU_len, textU_len, textU_len]
  by_cases k1 : k < 2 + l.size
  · have e : (updB l x g).take k = (textU l).take k := by
      unfold updB
      rw [List.take_append, show k - (textU l).length = 0 from by rw [textU_len]; omega, List.take_zero, List.append_nil]
    rw [e]
    have a := text_less l h1 k k1
    have b := text_errP (s := (⟨str ((textU l).take k), 0⟩ : RSt).text.2) (by rw [a]; decide)
    rw [a] at b
    have c := text_errP (s := (⟨str ((textU l).take k), 0⟩ : RSt).text.2.text.2) (by rw [b]; decide)
    rw [c, b]
  · have e : (updB l x g).take k = textU l ++ (textU x ++ textU g).take (k - (2 + l.size)) := by
      unfold updB
      rw [List.take_append, textU_len, List.take_of_length_le (by rw [textU_len]; omega)]
    rw [e, show textU l ++ (textU x ++ textU g).take (k - (2 + l.size)) = (be l.size 2 ++ l.data.toList) ++ (textU x ++ textU g).take (k - (2 + l.size)) from rfl, rd_text h1]
    simp only
    by_cases k2 : k - (2 + l.size) < 2 + x.size
    · have e : (textU x ++ textU g).take (k - (2 + l.size)) = (textU x).take (k - (2 + l.size)) := by
        rw [List.take_append, show k - (2 + l.size) - (textU x).length = 0 from by rw [textU_len]; omega, List.take_zero, List.append_nil]
      rw [e]
      have a := text_less x h2 _ k2
      have b := text_errP (s := (⟨str ((textU x).take (k - (2 + l.size))), 0⟩ : RSt).text.2) (by rw [a]; decide)
      rw [b, a]
    · have e : (textU x ++ textU g).take (k - (2 + l.size)) = textU x ++ (textU g).take (k - (2 + l.size) - (2 + x.size)) := by
        rw [List.take_append, textU_len, List.take_of_length_le (by rw [textU_len]; omega)]
      rw [e, show textU x ++ (textU g).take (k - (2 + l.size) - (2 + x.size)) = (be x.size 2 ++ x.data.toList) ++ (textU g).take (k - (2 + l.size) - (2 + x.size)) from rfl, rd_text h2]
      exact text_less g h3 _ (by omega)
end Go.Proofs.YtemndmhdlgfajaaGreatDoor

namespace Go.Proofs.YtemndmhdlgfajaaGreatDoor
open Go.RowKit

def strsV (L : List ByteArray) : List Value := L.map Value.string
theorem strsV_length (L : List ByteArray) : (strsV L).length = L.length := by simp [strsV]
theorem infoStrW : (Tryz.prog.info? 9).map (fun i => (i.zero, i.size, i.bytes)) = some (some (.string ⟨#[]⟩), 1, 16) := by kernel_rfl
theorem strs_own {w : World} {B n : Nat} {a : Option Addr} {cap : Nat} {L : List ByteArray} (h : w.ownsRow B 9 1 (.slice a n cap) n (strsV L)) : StrsAt w (.slice a n cap) L := by
  have hl := h.1
  simp [strsV] at hl
  subst hl
  refine ⟨a, cap, rfl, fun i hi => ?_⟩
  rcases h.2 with ⟨_, h0⟩ | ⟨g, cap', cur, he, hB, hg, hnc, hm, hcs, htake⟩
  · omega
  · cases he
    refine ⟨g, 0, rfl, ?_⟩
    rw [Nat.zero_add, cell_of hg]
    have : (strsV L)[i]? = some (.string L[i]) := by simp [strsV, List.getElem?_eq_getElem hi]
    rw [← htake, List.getElem?_take, if_pos (by omega)] at this
    simpa using this
theorem StrsAt.grown {w w' : World} {v : Value} {L : List ByteArray} (h : StrsAt w v L) (hg : w.grownBy w' none) : StrsAt w' v L := h.kept (below_grownBy hg)
theorem StrsAt.form {w : World} {v : Value} {L : List ByteArray} (h : StrsAt w v L) : ∃ a cap, v = .slice a L.length cap := by
  obtain ⟨a, cap, rfl, _⟩ := h
  exact ⟨a, cap, rfl⟩
theorem StrsAt.at_ {w : World} {a : Option Addr} {n cap : Nat} {L : List ByteArray} (h : StrsAt w (.slice a n cap) L) (i : Nat) (x : ByteArray) (hx : L[i]? = some x) : ∃ g o, a = some ⟨g, o, none⟩ ∧ w.cell? ⟨g, o + i, none⟩ = some (.string x) := by
  obtain ⟨a', cap', he, hc⟩ := h
  cases he
  obtain ⟨hi, rfl⟩ := List.getElem?_eq_some_iff.1 hx
  exact hc i hi
theorem made_strs (n : Nat) : (madeCells #[Value.string ⟨#[]⟩] n).toList = strsV (List.replicate n ⟨#[]⟩) := by
  apply List.ext_getElem?
  intro i
  simp [madeCells, strsV, List.getElem?_replicate]
  by_cases h : i < n <;> simp [h, Nat.mod_one]
/-- a list being filled: what is done, then empty texts -/
def fillS (L : List ByteArray) (n : Nat) : List ByteArray := L ++ List.replicate (n - L.length) ⟨#[]⟩
theorem fillS_put (L : List ByteArray) (n : Nat) (x : ByteArray) (h : L.length < n) : (strsV (fillS L n)).set L.length (.string x) = strsV (fillS (L ++ [x]) n) := by
  have e : strsV (fillS L n) = strsV L ++ (.string ⟨#[]⟩) :: strsV (List.replicate (n - (L.length + 1)) ⟨#[]⟩) := by
    rw [fillS, show n - L.length = (n - (L.length + 1)) + 1 from by omega, List.replicate_succ]
    simp [strsV]
  have hl := strsV_length L
  rw [e, List.set_append_right _ _ (by omega), hl, Nat.sub_self, List.set_cons_zero]
  simp [strsV, fillS]
theorem fillS_at (L : List ByteArray) (n : Nat) (h : L.length < n) : (strsV (fillS L n))[L.length]? = some (.string ⟨#[]⟩) := by
  have hl := strsV_length L
  rw [fillS, show n - L.length = (n - (L.length + 1)) + 1 from by omega, List.replicate_succ]
  simp only [strsV, List.map_append, List.map_cons]
  rw [List.getElem?_append_right (by simp), List.length_map, Nat.sub_self]
  rfl
theorem fillS_full (L : List ByteArray) (n : Nat) (h : L.length = n) : fillS L n = L := by
  rw [fillS, h, Nat.sub_self]
  simp

theorem StrsAt.news {w : World} {g o n cap : Nat} {L : List ByteArray} (h : StrsAt w (.slice (some ⟨g, o, none⟩) n cap) L) : ∀ j u, (strsV L)[j]? = some u → w.cell? ((⟨g, o, none⟩ : Addr).add j) = some u := by
  intro j u hj
  have hj' : j < L.length := by have := (List.getElem?_eq_some_iff.1 hj).1; rwa [strsV_length] at this
  obtain ⟨g', o', he, hc⟩ := h.at_ j _ (List.getElem?_eq_getElem hj')
  cases he
  rw [show Addr.add ⟨g, o, none⟩ j = (⟨g, o + j, none⟩ : Addr) from by simp [Addr.add], hc, ← hj]
  simp [strsV, List.getElem?_eq_getElem hj']
theorem strsV_one (L : List ByteArray) : ∀ u ∈ strsV L, u.oneCell' = true := by
  intro u hu
  obtain ⟨x, _, rfl⟩ := List.mem_map.1 hu
  rfl
theorem slice_own' {w : World} {B n : Nat} {t : TypeId} {v : Value} {xs : List Value} (h : w.ownsRow B t 1 v n xs) : ∃ a cap, v = .slice a n cap := by
  rcases h.2 with ⟨rfl, rfl⟩ | ⟨g, cap, cur, rfl, _⟩
  · exact ⟨none, 0, rfl⟩
  · exact ⟨_, _, rfl⟩

theorem StrsAt.lt {w : World} {g o n c : Nat} {L : List ByteArray} (h : StrsAt w (.slice (some ⟨g, o, none⟩) n c) L) (h0 : 0 < L.length) : g < w.heap.size := by
  obtain ⟨g', o', e, hc⟩ := h.at_ 0 _ (List.getElem?_eq_getElem h0)
  cases e
  exact cell_lt hc

theorem push_strs (P : List ByteArray) (x : ByteArray) : strsV P ++ [.string x] = strsV (P ++ [x]) := by simp [strsV]
theorem lit_one (w : World) (x : ByteArray) : ∀ j u, [Value.string x][j]? = some u → (w.alloc (.cells #[.string x] 9)).cell? ((⟨w.heap.size, 0, none⟩ : Addr).add j) = some u := by
  intro j u hj
  cases j with
  | zero =>
    simp at hj
    subst hj
    exact cell_of (heap_alloc_at _ _ _ rfl) 0
  | succ j => simp at hj
end Go.Proofs.YtemndmhdlgfajaaGreatDoor

namespace Go.Proofs.YtemndmhdlgfajaaGreatDoor
open Go.RowKit

theorem row_string_w (w : World) (vs : List Value) (l : List UInt8) (hl : vs = u8s l) :
    (convert 141 9 (.slice (some ⟨w.heap.size, 0, none⟩) l.length l.length)).run Tryz.prog (w.alloc (.cells vs.toArray 5)) = .ok (.string (str l)) (w.alloc (.cells vs.toArray 5)) := by
  subst hl
  exact row_string (w := w.alloc (.cells (u8s l).toArray 5)) (g := w.heap.size) (t := 5) (heap_alloc_at _ _ _ rfl) _
theorem be4 (n : Nat) : be n 4 = [UInt8.ofNat (n / 256 ^ 3 % 256), UInt8.ofNat (n / 256 ^ 2 % 256), UInt8.ofNat (n / 256 ^ 1 % 256), UInt8.ofNat (n / 256 ^ 0 % 256)] := by
  simp [be, Nat.div_div_eq_div_mul]
theorem four_bytes (n : Nat) : [Value.int .u8 ((n : Int) / 16777216 % 256), .int .u8 ((n : Int) / 65536 % 256), .int .u8 ((n : Int) / 256 % 256), .int .u8 ((n : Int) % 256)] = u8s (be n 4) := by
  rw [be4]
  simp [u8s]
end Go.Proofs.YtemndmhdlgfajaaGreatDoor

namespace Go.Proofs.YtemndmhdlgfajaaGreatDoor
open Go.RowKit

def ints (L : List Int) : List Value := L.map (Value.int .i64)
theorem ints_length (L : List Int) : (ints L).length = L.length := by simp [ints]
theorem ints_append (L M : List Int) : ints (L ++ M) = ints L ++ ints M := by simp [ints]
theorem ints_at (L : List Int) (i : Nat) (h : i < L.length) : (ints L)[i]? = some (.int .i64 L[i]) := by simp [ints, List.getElem?_eq_getElem h]
/-- a slice that holds these numbers -/
def IntsAt (w : World) (v : Value) (L : List Int) : Prop :=
  ∃ a cap, v = .slice a L.length cap ∧ ∀ i (h : i < L.length), ∃ g o, a = some ⟨g, o, none⟩ ∧ w.cell? ⟨g, o + i, none⟩ = some (.int .i64 L[i])
theorem IntsAt.kept {w w' : World} {v : Value} {L : List Int} (h : IntsAt w v L) (hb : w.grownBy w' none) : IntsAt w' v L := by
  obtain ⟨a, cap, rfl, hc⟩ := h
  refine ⟨a, cap, rfl, fun i hi => ?_⟩
  obtain ⟨g, o, ha, hcell⟩ := hc i hi
  exact ⟨g, o, ha, hb.cell hcell (by simp)⟩
theorem IntsAt.nil (w : World) (a : Option Addr) (cap : Nat) : IntsAt w (.slice a 0 cap) [] := ⟨a, cap, rfl, fun i h => absurd h (by simp)⟩
theorem ints_of_own {w : World} {B n : Nat} {t : TypeId} {a : Option Addr} {cap : Nat} {L : List Int} (h : w.ownsRow B t 1 (.slice a n cap) n (ints L)) : IntsAt w (.slice a n cap) L := by
  have hl := h.1
  simp [ints] at hl
  subst hl
  refine ⟨a, cap, rfl, fun i hi => ?_⟩
  rcases h.2 with ⟨_, h0⟩ | ⟨g, cap', cur, he, hB, hg, hnc, hm, hcs, htake⟩
  · omega
  · cases he
    refine ⟨g, 0, rfl, ?_⟩
    rw [Nat.zero_add, cell_of hg]
    have : (ints L)[i]? = some (.int .i64 L[i]) := ints_at L i hi
    rw [← htake, List.getElem?_take, if_pos (by omega)] at this
    simpa using this
theorem own_kept {w w' : World} {B n : Nat} {t : TypeId} {v : Value} {xs : List Value} (h : w.ownsRow B t 1 v n xs) (hg : w.grownBy w' none) : w'.ownsRow B t 1 v n xs := by
  obtain ⟨hl, h⟩ := h
  refine ⟨hl, ?_⟩
  rcases h with h' | ⟨g, cap, cur, rfl, a, hgg, r⟩
  · exact .inl h'
  · refine .inr ⟨g, cap, cur, rfl, a, ?_, r⟩
    rw [hg.block g (Array.getElem?_eq_some_iff.1 hgg).1 (by simp)]
    exact hgg
end Go.Proofs.YtemndmhdlgfajaaGreatDoor
