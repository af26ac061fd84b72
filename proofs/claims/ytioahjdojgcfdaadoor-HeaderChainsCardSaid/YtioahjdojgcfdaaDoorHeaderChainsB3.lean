/- Plain functions for package wots: places, secrets, walks, public keys. No walk of the program. · A public key's and an entry's bytes: written, read, each of the other. No walk. · Plain words: a header, its bytes, what may be wrong with it; what a Reader reads of bytes as a header. No walk. · The walk of band's Count. · Lists of texts in memory. No walk. · A Writer's calls at its block, at every state. · sha.Tagged of texts in a new block. · The walks of xmss's Public.Encode and DecodePublic. · The walks of an entry's Encode, Value, Name, Next. · The walks of an entry's Next, and of History. · The four bytes of a number. No walk. · The walk of the document's Four, and small things that the sha laws share. · The walk of entry's Decode. -/
import Derived.Test.YtioahjdojgcfdaaDoorShaCalls
import Derived.Test.YtioahjdojgcfdaaDoorHeaderChainsB1
import Derived.Test.YtioahjdojgcfdaaDoorHeaderChainsB2
import Derived.Handy
import Derived.Deep.DeepCutAuto
import Derived.Deep.RegionHeld3
import Derived.Test.YtioahjdojgcfdaaDoorShaRefF
namespace Go.Proofs.YtioahjdojgcfdaaDoor
attribute [local irreducible] shaL

/-- the short digest of a tag and texts -/
def tagS (tag : UInt8) (L : List ByteArray) : ByteArray := str ((shaL (tagB tag L)).take 16)
theorem tagS_size (tag : UInt8) (L : List ByteArray) : (tagS tag L).size = 16 := by
  unfold tagS
  rw [str_size, List.length_take, shaL_length]
  rfl
def placeL (leaf chain step : Nat) : List UInt8 := be leaf 4 ++ [UInt8.ofNat chain, UInt8.ofNat step]
def placeS (leaf chain step : Nat) : ByteArray := str (placeL leaf chain step)
theorem placeS_size (leaf chain step : Nat) : (placeS leaf chain step).size = 6 := by
  unfold placeS placeL
  rw [str_size, List.length_append, be_length]
  rfl
def openS (seed : ByteArray) : ByteArray := tagS 3 [seed]
def stepS (o : ByteArray) (leaf chain k : Nat) (x : ByteArray) : ByteArray := tagS 2 [o, placeS leaf chain k, x]
/-- n steps, from step a on -/
def walkS (o : ByteArray) (leaf chain a : Nat) : Nat → ByteArray → ByteArray
  | 0, x => x
  | n + 1, x => stepS o leaf chain (a + n) (walkS o leaf chain a n x)
theorem walkS_zero (o : ByteArray) (leaf chain a : Nat) (x : ByteArray) : walkS o leaf chain a 0 x = x := rfl
theorem walkS_succ (o : ByteArray) (leaf chain a n : Nat) (x : ByteArray) : walkS o leaf chain a (n + 1) x = stepS o leaf chain (a + n) (walkS o leaf chain a n x) := rfl
theorem walkS_add (o : ByteArray) (leaf chain a m n : Nat) (x : ByteArray) : walkS o leaf chain (a + m) n (walkS o leaf chain a m x) = walkS o leaf chain a (m + n) x := by
  induction n with
  | zero => rfl
  | succ n ih => rw [walkS_succ, ih, ← Nat.add_assoc, walkS_succ, Nat.add_assoc]
theorem walkS_size (o : ByteArray) (leaf chain a n : Nat) (x : ByteArray) (N : Nat) (h : x.size ≤ N) (h16 : 16 ≤ N) : (walkS o leaf chain a n x).size ≤ N := by
  cases n with
  | zero => exact h
  | succ n => rw [walkS_succ]; unfold stepS; rw [tagS_size]; exact h16
theorem walkS_16 (o : ByteArray) (leaf chain a n : Nat) (x : ByteArray) (h : x.size = 16) : (walkS o leaf chain a n x).size = 16 := by
  cases n with
  | zero => exact h
  | succ n => rw [walkS_succ]; unfold stepS; rw [tagS_size]
/-- from and to as they come: below 0 as 0, above 15 as 15 -/
def walkZ (o : ByteArray) (leaf chain : Nat) (a b : Int) (x : ByteArray) : ByteArray := walkS o leaf chain (max a 0).toNat (min b 15 - max a 0).toNat x
def secretS (seed : ByteArray) (leaf chain : Nat) : ByteArray := tagS 1 [seed, placeS leaf chain 0]
def publicOfS (o : ByteArray) (leaf : Nat) (ends : List ByteArray) : ByteArray := tagS 4 ([o, placeS leaf 0 0] ++ ends)
def endsS (seed : ByteArray) (leaf : Nat) : Nat → List ByteArray
  | 0 => []
  | c + 1 => endsS seed leaf c ++ [walkS (openS seed) leaf c 0 15 (secretS seed leaf c)]
def publicS (seed : ByteArray) (leaf : Nat) : ByteArray := publicOfS (openS seed) leaf (endsS seed leaf 35)
/-- a signature's first c texts -/
def sigS (seed : ByteArray) (leaf : Nat) (d : List Int) : Nat → List ByteArray
  | 0 => []
  | c + 1 => sigS seed leaf d c ++ [walkS (openS seed) leaf c 0 (d.getD c 0).toNat (secretS seed leaf c)]
/-- the first c ends of what a signature's texts are walked to -/
def recS (o : ByteArray) (leaf : Nat) (d : List Int) (sig : List ByteArray) : Nat → List ByteArray
  | 0 => []
  | c + 1 => recS o leaf d sig c ++ [walkS o leaf c (d.getD c 0).toNat (15 - d.getD c 0).toNat (sig.getD c ByteArray.empty)]
theorem endsS_length (seed : ByteArray) (leaf c : Nat) : (endsS seed leaf c).length = c := by
  induction c with
  | zero => rfl
  | succ c ih => simp [endsS, ih]
theorem sigS_length (seed : ByteArray) (leaf : Nat) (d : List Int) (c : Nat) : (sigS seed leaf d c).length = c := by
  induction c with
  | zero => rfl
  | succ c ih => simp [sigS, ih]
theorem recS_length (o : ByteArray) (leaf : Nat) (d : List Int) (sig : List ByteArray) (c : Nat) : (recS o leaf d sig c).length = c := by
  induction c with
  | zero => rfl
  | succ c ih => simp [recS, ih]
theorem sigS_at (seed : ByteArray) (leaf : Nat) (d : List Int) (c i : Nat) (h : i < c) : (sigS seed leaf d c)[i]? = some (walkS (openS seed) leaf i 0 (d.getD i 0).toNat (secretS seed leaf i)) := by
  induction c with
  | zero => omega
  | succ c ih =>
    rw [sigS]
    by_cases e : i = c
    · subst e
      rw [List.getElem?_append_right (by rw [sigS_length]; omega), sigS_length, Nat.sub_self]
      rfl
    · rw [List.getElem?_append_left (by rw [sigS_length]; omega), ih (by omega)]
theorem secretS_size (seed : ByteArray) (leaf chain : Nat) : (secretS seed leaf chain).size = 16 := tagS_size _ _
theorem openS_size (seed : ByteArray) : (openS seed).size = 16 := tagS_size _ _
theorem sigS_all (seed : ByteArray) (leaf : Nat) (d : List Int) (c : Nat) : ∀ s ∈ sigS seed leaf d c, s.size = 16 := by
  induction c with
  | zero => intro s h; cases h
  | succ c ih =>
    intro s h
    rw [sigS] at h
    rcases List.mem_append.1 h with h | h
    · exact ih s h
    · obtain rfl := List.mem_singleton.1 h
      exact walkS_16 _ _ _ _ _ _ (secretS_size _ _ _)
theorem endsS_all (seed : ByteArray) (leaf c : Nat) : ∀ s ∈ endsS seed leaf c, s.size = 16 := by
  induction c with
  | zero => intro s h; cases h
  | succ c ih =>
    intro s h
    rw [endsS] at h
    rcases List.mem_append.1 h with h | h
    · exact ih s h
    · obtain rfl := List.mem_singleton.1 h
      exact walkS_16 _ _ _ _ _ _ (secretS_size _ _ _)
theorem recS_all (o : ByteArray) (leaf : Nat) (d : List Int) (sig : List ByteArray) (hs : ∀ s ∈ sig, s.size = 16) (c : Nat) (hc : c ≤ sig.length) : ∀ s ∈ recS o leaf d sig c, s.size = 16 := by
  induction c with
  | zero => intro s h; cases h
  | succ c ih =>
    intro s h
    rw [recS] at h
    rcases List.mem_append.1 h with h | h
    · exact ih (by omega) s h
    · obtain rfl := List.mem_singleton.1 h
      refine walkS_16 _ _ _ _ _ _ (hs _ ?_)
      rw [List.getD_eq_getElem?_getD, List.getElem?_eq_getElem (by omega)]
      exact List.getElem_mem _
/-- P6.3: what a signature tells is the public key -/
theorem rec_sig (seed : ByteArray) (leaf : Nat) (d : List Int) (hd : ∀ x ∈ d, 0 ≤ x ∧ x ≤ 15) (n : Nat) (hn : n ≤ d.length) (c : Nat) (hc : c ≤ n) : recS (openS seed) leaf d (sigS seed leaf d n) c = endsS seed leaf c := by
  induction c with
  | zero => rfl
  | succ c ih =>
    rw [recS, endsS, ih (by omega)]
    have h1 := sigS_at seed leaf d n c (by omega)
    rw [List.getD_eq_getElem?_getD (l := sigS seed leaf d n), h1]
    have hx := hd (d.getD c 0) (by rw [List.getD_eq_getElem?_getD, List.getElem?_eq_getElem (by omega)]; exact List.getElem_mem _)
    simp only [Option.getD_some]
    have e := walkS_add (openS seed) leaf c 0 (d.getD c 0).toNat (15 - d.getD c 0).toNat (secretS seed leaf c)
    rw [Nat.zero_add] at e
    rw [e, show (d.getD c 0).toNat + (15 - d.getD c 0).toNat = 15 from by omega]
/-- a tagged text's length -/
theorem tagB_length (tag : UInt8) (L : List ByteArray) (N : Nat) (h : ∀ s ∈ L, s.size ≤ N) : (tagB tag L).length ≤ 1 + L.length * (4 + N) := by
  unfold tagB
  rw [List.length_cons]
  suffices (L.flatMap fun s => be s.size 4 ++ s.data.toList).length ≤ L.length * (4 + N) by omega
  induction L with
  | nil => simp
  | cons s L ih =>
    have := ih (fun t ht => h t (by simp [ht]))
    have hs := h s (by simp)
    rw [List.flatMap_cons, List.length_append, List.length_append, be_length, List.length_cons, Nat.succ_mul]
    have e : s.data.toList.length = s.size := rfl
    omega
end Go.Proofs.YtioahjdojgcfdaaDoor

namespace Go.Proofs.YtioahjdojgcfdaaDoor
attribute [local irreducible] shaL

theorem be_val_rev (l : List UInt8) : be (val l.reverse) l.length = l.reverse := by
  induction l with
  | nil => rfl
  | cons c l ih =>
    have hc := c.toNat_lt
    rw [List.reverse_cons, val_snoc, List.length_cons, be, show (256 * val l.reverse + c.toNat) / 256 = val l.reverse from by omega, show (256 * val l.reverse + c.toNat) % 256 = c.toNat from by omega, ih]
    simp
theorem be_val (l : List UInt8) (k : Nat) (h : l.length = k) : be (val l) k = l := by
  subst h
  have := be_val_rev l.reverse
  simpa using this
theorem val_pos (l : List UInt8) : val l = 0 ↔ l = List.replicate l.length 0 := by
  have hz : ∀ k, be 0 k = List.replicate k 0 := by
    intro k
    induction k with
    | zero => rfl
    | succ k ih => rw [be, ih, List.replicate_succ']; rfl
  constructor
  · intro h
    have := be_val l _ rfl
    rw [h, hz] at this
    exact this.symm
  · intro h
    rw [h, ← hz]
    exact val_be 0 _ (Nat.pow_pos (by decide))

/-! what a Reader does with a text -/
theorem rd_take (l : List UInt8) (k : Nat) (h : k ≤ l.length) : (⟨str l, 0⟩ : RSt).fixed k = (str (l.take k), ⟨str (l.drop k), 0⟩) := by
  have := fixed_str (l.take k) (l.drop k)
  rw [List.take_append_drop, List.length_take, Nat.min_eq_left h] at this
  exact this
theorem rd_less (l : List UInt8) (k : Nat) (h : l.length < k) : (⟨str l, 0⟩ : RSt).fixed k = (ByteArray.empty, ⟨str l, 3⟩) := by
  unfold RSt.fixed
  simp only
  rw [if_neg (by simp), if_neg (by omega), if_pos (by rw [str_size]; omega)]
  rfl
theorem rd_err (s : ByteArray) (e : Int) (he : e ≠ 0) (k : Int) : (⟨s, e⟩ : RSt).fixed k = (ByteArray.empty, ⟨s, e⟩) := by
  unfold RSt.fixed
  rw [if_pos he]
theorem num_of (s : RSt) (k : Nat) (h : 1 ≤ k ∧ k ≤ 8) : s.num k = (val (s.fixed k).1.data.toList, (s.fixed k).2) := by
  unfold RSt.num
  rw [if_pos (by omega)]

/-! a public key -/
def pubOk (o r : ByteArray) (h : Int) : Prop := (0 ≤ h ∧ h ≤ 6) ∧ o.size = 16 ∧ r.size = 16
instance (o r : ByteArray) (h : Int) : Decidable (pubOk o r h) := by unfold pubOk; infer_instance
def pubB (o r : ByteArray) (h : Int) : List UInt8 := o.data.toList ++ (r.data.toList ++ be h.toNat 1)
def pubErr (o r : ByteArray) (h : Int) : Int := if pubOk o r h then 0 else 10
def pubEnc (o r : ByteArray) (h : Int) : ByteArray := if pubOk o r h then str (pubB o r h) else ⟨#[]⟩
/-- what the Writer holds -/
def pubW (o r : ByteArray) (h : Nat) : WSt := (((⟨[], 0⟩ : WSt).fixed o 16).fixed r 16).num h 1
theorem wput_ok (ts : List ByteArray) (t : ByteArray) (k : Int) (h : (t.size : Int) = k) : (⟨ts, 0⟩ : WSt).fixed t k = ⟨t :: ts, 0⟩ := by
  unfold WSt.fixed
  rw [if_pos h]
  rfl
theorem wput_not (ts : List ByteArray) (t : ByteArray) (k : Int) (h : (t.size : Int) ≠ k) : (⟨ts, 0⟩ : WSt).fixed t k = ⟨ts, 10⟩ := by
  unfold WSt.fixed
  rw [if_neg h]
  rfl
theorem wput_err (s : WSt) (he : s.err ≠ 0) (t : ByteArray) (k : Int) : s.fixed t k = s := by
  unfold WSt.fixed WSt.put WSt.fail
  rw [if_neg he, if_neg he]
  split <;> rfl
theorem wnum_ok (ts : List ByteArray) (n : Nat) (k : Int) (h : 1 ≤ k ∧ k ≤ 8 ∧ n < 256 ^ k.toNat) : (⟨ts, 0⟩ : WSt).num n k = ⟨str (be n k.toNat) :: ts, 0⟩ := by
  unfold WSt.num
  rw [if_pos h]
  rfl
theorem wnum_err (s : WSt) (he : s.err ≠ 0) (n : Nat) (k : Int) : s.num n k = s := by
  unfold WSt.num WSt.put WSt.fail
  rw [if_neg he, if_neg he]
  split <;> rfl
theorem pubW_ok {o r : ByteArray} {h : Nat} (k : pubOk o r h) : pubW o r h = ⟨[str (be h 1), r, o], 0⟩ := by
  obtain ⟨⟨h1, h2⟩, h3, h4⟩ := k
  unfold pubW
  rw [wput_ok [] o 16 (by omega), wput_ok [o] r 16 (by omega), wnum_ok [r, o] h 1 ⟨by omega, by omega, by show h < 256; omega⟩]
  rfl
theorem pubW_not {o r : ByteArray} {h : Nat} (hh : h ≤ 6) (k : ¬ pubOk o r h) : (pubW o r h).err = 10 := by
  unfold pubW
  have hn : ¬ (o.size = 16 ∧ r.size = 16) := fun q => k ⟨by omega, q⟩
  by_cases h1 : o.size = 16
  · rw [wput_ok [] o 16 (by omega), wput_not [o] r 16 (by omega), wnum_err _ (by simp)]
  · rw [wput_not [] o 16 (by omega), wput_err _ (by simp), wnum_err _ (by simp)]
theorem total_fixed (s : WSt) (t : ByteArray) (k : Int) : total (s.fixed t k).ts ≤ t.size + total s.ts := by
  unfold WSt.fixed
  split
  · exact total_put s t
  · rw [total_fail]; omega
theorem total_num (s : WSt) (n : Nat) (k : Int) : total (s.num n k).ts ≤ 8 + total s.ts := by
  unfold WSt.num
  split
  · rename_i h
    have := total_put s (str (be n k.toNat))
    rw [str_size, be_length] at this
    omega
  · rw [total_fail]; omega
theorem pubW_total (o r : ByteArray) (h : Nat) : total (pubW o r h).ts ≤ 8 + (r.size + o.size) := by
  have h1 := total_num (((⟨[], 0⟩ : WSt).fixed o 16).fixed r 16) h 1
  have h2 := total_fixed ((⟨[], 0⟩ : WSt).fixed o 16) r 16
  have h3 := total_fixed (⟨[], 0⟩ : WSt) o 16
  have h4 : total (⟨[], 0⟩ : WSt).ts = 0 := rfl
  unfold pubW
  omega
/-- a Writer's answer -/
def WSt.ans (s : WSt) : ByteArray := if s.err = 0 then str (flat s.ts) else ⟨#[]⟩
theorem pubW_ans (o r : ByteArray) (h : Nat) (hh : h ≤ 6) : (pubW o r h).ans = pubEnc o r h ∧ (pubW o r h).err = pubErr o r h := by
  by_cases k : pubOk o r h
  · rw [pubW_ok k]
    unfold pubEnc pubErr WSt.ans
    rw [if_pos k, if_pos k, if_pos rfl]
    refine ⟨?_, rfl⟩
    simp [flat, pubB, str]
  · unfold pubEnc pubErr WSt.ans
    rw [pubW_not hh k, if_neg k, if_neg k]
    exact ⟨rfl, rfl⟩
/-- what is read of bytes, as a public key -/
structure DecP where
  o : ByteArray
  r : ByteArray
  h : Nat
  s : RSt
def decP (s : ByteArray) : DecP :=
  let a := (⟨s, 0⟩ : RSt).fixed 16
  let b := a.2.fixed 16
  let c := b.2.num 1
  ⟨a.1, b.1, c.1, c.2⟩
def DecP.err (d : DecP) : Int := if d.s.done ≠ 0 then d.s.done else if 6 < d.h then 4 else 0
theorem decP_h (s : ByteArray) : (decP s).h < 256 := by
  have h1 := num_of (((⟨s, 0⟩ : RSt).fixed 16).2.fixed 16).2 1 (by omega)
  have h2 : (decP s).h = ((((⟨s, 0⟩ : RSt).fixed 16).2.fixed 16).2.num (1 : Nat)).1 := rfl
  rw [h2, h1]
  have h3 := fixed_size (((⟨s, 0⟩ : RSt).fixed 16).2.fixed 16).2 1
  have h4 := val_lt (((((⟨s, 0⟩ : RSt).fixed 16).2.fixed 16).2.fixed (1 : Nat)).1.data.toList)
  have h5 : 256 ^ (((((⟨s, 0⟩ : RSt).fixed 16).2.fixed 16).2.fixed (1 : Nat)).1.data.toList).length ≤ 256 ^ 1 := Nat.pow_le_pow_right (by decide) (by rw [Array.length_toList]; exact h3)
  exact Nat.lt_of_lt_of_le h4 h5
theorem decP_33 (l : List UInt8) (hl : l.length = 33) : decP (str l) = ⟨str (l.take 16), str ((l.drop 16).take 16), val (l.drop 32), ⟨str [], 0⟩⟩ := by
  have h1 := rd_take l 16 (by omega)
  have h2 := rd_take (l.drop 16) 16 (by simp; omega)
  have h3 := num_of (⟨str ((l.drop 16).drop 16), 0⟩ : RSt) 1 (by omega)
  rw [rd_take _ 1 (by simp; omega)] at h3
  have h1' : (⟨str l, 0⟩ : RSt).fixed 16 = (str (l.take 16), ⟨str (l.drop 16), 0⟩) := h1
  have h2' : (⟨str (l.drop 16), 0⟩ : RSt).fixed 16 = (str ((l.drop 16).take 16), ⟨str ((l.drop 16).drop 16), 0⟩) := h2
  have h3' : (⟨str ((l.drop 16).drop 16), 0⟩ : RSt).num 1 = (val (str (((l.drop 16).drop 16).take 1)).data.toList, ⟨str (((l.drop 16).drop 16).drop 1), 0⟩) := h3
  have e1 : ((l.drop 16).drop 16).take 1 = l.drop 32 := by rw [List.drop_drop]; exact List.take_of_length_le (by simp; omega)
  have e2 : ((l.drop 16).drop 16).drop 1 = [] := by rw [List.drop_drop, List.drop_drop]; exact List.drop_of_length_le (by omega)
  rw [e1, e2] at h3'
  unfold decP
  rw [h1']
  simp only
  rw [h2']
  simp only
  rw [h3']
  rfl

/-! an entry -/
structure EntS where
  v : Nat
  o : ByteArray
  r : ByteArray
  h : Int
  p : ByteArray
def EntS.err (x : EntS) : Int := if x.v < 1 ∨ 4294967295 < x.v then 13 else if pubOk x.o x.r x.h ∧ x.p.size = 16 then 0 else 10
def EntS.bytes (x : EntS) : List UInt8 := be x.v 4 ++ (pubB x.o x.r x.h ++ x.p.data.toList)
def EntS.enc (x : EntS) : ByteArray := if x.err = 0 then str x.bytes else ⟨#[]⟩
def EntS.value (x : EntS) : ByteArray := if x.err = 0 then tagS 12 [str x.bytes] else ⟨#[]⟩
theorem EntS.fit {x : EntS} (h : x.err = 0) : (1 ≤ x.v ∧ x.v ≤ 4294967295) ∧ pubOk x.o x.r x.h ∧ x.p.size = 16 := by
  unfold EntS.err at h
  split at h
  · omega
  · split at h
    · exact ⟨by omega, by assumption⟩
    · omega
theorem EntS.of_fit {x : EntS} (h : (1 ≤ x.v ∧ x.v ≤ 4294967295) ∧ pubOk x.o x.r x.h ∧ x.p.size = 16) : x.err = 0 := by
  unfold EntS.err
  rw [if_neg (by omega), if_pos h.2]
/-- what the Writer holds, where the key has bytes -/
def entW (v : Nat) (k p : ByteArray) : WSt := (((⟨[], 0⟩ : WSt).num v 4).fixed k 33).fixed p 16
theorem pubB_len {o r : ByteArray} {h : Int} (k : pubOk o r h) : (pubB o r h).length = 33 := by
  obtain ⟨_, h1, h2⟩ := k
  unfold pubB
  rw [List.length_append, List.length_append, be_length, Array.length_toList, Array.length_toList]
  show o.size + (r.size + 1) = 33
  omega
theorem EntS.len {x : EntS} (h : x.err = 0) : x.bytes.length = 53 := by
  obtain ⟨_, h2, h3⟩ := EntS.fit h
  unfold EntS.bytes
  rw [List.length_append, List.length_append, be_length, pubB_len h2, Array.length_toList]
  show 4 + (33 + x.p.size) = 53
  omega
theorem entW_total (v : Nat) (k p : ByteArray) : total (entW v k p).ts ≤ p.size + (k.size + 8) := by
  have h1 := total_fixed (((⟨[], 0⟩ : WSt).num v 4).fixed k 33) p 16
  have h2 := total_fixed ((⟨[], 0⟩ : WSt).num v 4) k 33
  have h3 := total_num (⟨[], 0⟩ : WSt) v 4
  have h4 : total (⟨[], 0⟩ : WSt).ts = 0 := rfl
  unfold entW
  omega
theorem entW_ans (x : EntS) (hv : 1 ≤ x.v ∧ x.v ≤ 4294967295) (hk : pubOk x.o x.r x.h) : (entW x.v (str (pubB x.o x.r x.h)) x.p).ans = x.enc ∧ (entW x.v (str (pubB x.o x.r x.h)) x.p).err = x.err := by
  have hn : (⟨[], 0⟩ : WSt).num x.v 4 = ⟨[str (be x.v 4)], 0⟩ := by
    unfold WSt.num
    rw [if_pos ⟨by omega, by omega, by show x.v < 4294967296; omega⟩]
    rfl
  have hf : (⟨[str (be x.v 4)], 0⟩ : WSt).fixed (str (pubB x.o x.r x.h)) 33 = ⟨[str (pubB x.o x.r x.h), str (be x.v 4)], 0⟩ := by
    unfold WSt.fixed
    rw [str_size, pubB_len hk, if_pos (by rfl)]
    rfl
  unfold entW
  rw [hn, hf]
  by_cases hp : x.p.size = 16
  · have he : x.err = 0 := EntS.of_fit ⟨hv, hk, hp⟩
    unfold WSt.fixed EntS.enc
    rw [if_pos (by omega), he]
    refine ⟨?_, rfl⟩
    unfold WSt.ans
    simp only [WSt.put, if_true]
    simp [flat, EntS.bytes, str]
  · have he : x.err = 10 := by
      unfold EntS.err
      rw [if_neg (by omega), if_neg (fun q => hp q.2)]
    unfold WSt.fixed EntS.enc
    rw [if_neg (by omega), he]
    refine ⟨?_, rfl⟩
    unfold WSt.ans
    simp [WSt.fail]
theorem EntS.not_pub {x : EntS} (hv : 1 ≤ x.v ∧ x.v ≤ 4294967295) (hk : ¬ pubOk x.o x.r x.h) : x.err = 10 ∧ x.enc = ⟨#[]⟩ := by
  have he : x.err = 10 := by
    unfold EntS.err
    rw [if_neg (by omega), if_neg (fun q => hk q.1)]
  refine ⟨he, ?_⟩
  unfold EntS.enc
  rw [he]
  rfl
theorem EntS.not_ver {x : EntS} (hv : x.v < 1 ∨ 4294967295 < x.v) : x.err = 13 ∧ x.enc = ⟨#[]⟩ := by
  have he : x.err = 13 := by
    unfold EntS.err
    rw [if_pos hv]
  refine ⟨he, ?_⟩
  unfold EntS.enc
  rw [he]
  rfl
theorem EntS.value_size {x : EntS} (h : x.err = 0) : x.value.size = 16 := by
  unfold EntS.value
  rw [if_pos h]
  exact tagS_size _ _
theorem EntS.value_empty (x : EntS) : x.value.size = 0 ↔ x.err ≠ 0 := by
  constructor
  · intro h e
    rw [EntS.value_size e] at h
    cases h
  · intro h
    unfold EntS.value
    rw [if_neg h]
    rfl
/-- may an entry follow another one? -/
def EntS.next (x y : EntS) : Int := if y.v = 0 ∨ y.v - 1 ≠ x.v then 13 else if x.err ≠ 0 ∨ y.p ≠ x.value then 15 else 0
def noughtsS : ByteArray := ⟨#[0, 0, 0, 0, 0, 0, 0, 0, 0, 0, 0, 0, 0, 0, 0, 0]⟩
/-- each one and the one behind it -/
def chainE : List EntS → Int
  | [] => 0
  | [_] => 0
  | x :: y :: l => if x.next y ≠ 0 then x.next y else chainE (y :: l)
def histE : List EntS → Int
  | [] => 20
  | x :: l => if x.v ≠ 1 then 13 else if x.p ≠ noughtsS then 15 else chainE (x :: l)

/-- what is read of bytes, as an entry -/
structure DecE where
  v : Nat
  k : ByteArray
  p : ByteArray
  s : RSt
def decE (s : ByteArray) : DecE :=
  let a := (⟨s, 0⟩ : RSt).num 4
  let b := a.2.fixed 33
  let c := b.2.fixed 16
  ⟨a.1, b.1, c.1, c.2⟩
def DecE.err (d : DecE) : Int := if d.s.done ≠ 0 then d.s.done else if (decP d.k).err ≠ 0 then (decP d.k).err else if d.v < 1 then 13 else 0
def DecE.ent (d : DecE) : EntS := if d.err = 0 then ⟨d.v, (decP d.k).o, (decP d.k).r, (decP d.k).h, d.p⟩ else ⟨0, ⟨#[]⟩, ⟨#[]⟩, 0, ⟨#[]⟩⟩
theorem decE_53 (l : List UInt8) (hl : l.length = 53) : decE (str l) = ⟨val (l.take 4), str ((l.drop 4).take 33), str (l.drop 37), ⟨str [], 0⟩⟩ := by
  have h1 := num_of (⟨str l, 0⟩ : RSt) 4 (by omega)
  rw [rd_take l 4 (by omega)] at h1
  have h2 := rd_take (l.drop 4) 33 (by simp; omega)
  have h3 := rd_take ((l.drop 4).drop 33) 16 (by simp; omega)
  have h1' : (⟨str l, 0⟩ : RSt).num 4 = (val (str (l.take 4)).data.toList, ⟨str (l.drop 4), 0⟩) := h1
  have h2' : (⟨str (l.drop 4), 0⟩ : RSt).fixed 33 = (str ((l.drop 4).take 33), ⟨str ((l.drop 4).drop 33), 0⟩) := h2
  have h3' : (⟨str ((l.drop 4).drop 33), 0⟩ : RSt).fixed 16 = (str (((l.drop 4).drop 33).take 16), ⟨str (((l.drop 4).drop 33).drop 16), 0⟩) := h3
  have e1 : ((l.drop 4).drop 33).take 16 = l.drop 37 := by rw [List.drop_drop]; exact List.take_of_length_le (by simp; omega)
  have e2 : ((l.drop 4).drop 33).drop 16 = [] := by rw [List.drop_drop, List.drop_drop]; exact List.drop_of_length_le (by omega)
  rw [e1, e2] at h3'
  unfold decE
  rw [h1']
  simp only
  rw [h2']
  simp only
  rw [h3']
  rfl
theorem decE_less (l : List UInt8) (hl : l.length < 53) : (decE (str l)).err = 3 := by
  have key : (decE (str l)).s.err = 3 := by
    have h1 := num_of (⟨str l, 0⟩ : RSt) 4 (by omega)
    have h1' : (⟨str l, 0⟩ : RSt).num 4 = (val ((⟨str l, 0⟩ : RSt).fixed (4 : Nat)).1.data.toList, ((⟨str l, 0⟩ : RSt).fixed (4 : Nat)).2) := h1
    unfold decE
    rw [h1']
    simp only
    by_cases c1 : l.length < 4
    · rw [rd_less l 4 c1]
      simp only
      rw [rd_err (str l) 3 (by decide)]
      simp only
      rw [rd_err (str l) 3 (by decide)]
    · rw [rd_take l 4 (by omega)]
      simp only
      by_cases c2 : l.length < 37
      · have h2 := rd_less (l.drop 4) 33 (by simp; omega)
        have h2' : (⟨str (l.drop 4), 0⟩ : RSt).fixed 33 = _ := h2
        rw [h2']
        simp only
        rw [rd_err _ _ (by decide)]
      · have h2 := rd_take (l.drop 4) 33 (by simp; omega)
        have h2' : (⟨str (l.drop 4), 0⟩ : RSt).fixed 33 = _ := h2
        have h3 := rd_less ((l.drop 4).drop 33) 16 (by simp; omega)
        have h3' : (⟨str ((l.drop 4).drop 33), 0⟩ : RSt).fixed 16 = _ := h3
        rw [h2']
        simp only
        rw [h3']
  have hd : (decE (str l)).s.done = 3 := by
    unfold RSt.done
    rw [key]
    rfl
  unfold DecE.err
  rw [hd]
  rfl
theorem decE_more (l : List UInt8) (hl : 53 < l.length) : (decE (str l)).err = 2 := by
  have h1 := num_of (⟨str l, 0⟩ : RSt) 4 (by omega)
  rw [rd_take l 4 (by omega)] at h1
  have h2 := rd_take (l.drop 4) 33 (by simp; omega)
  have h3 := rd_take ((l.drop 4).drop 33) 16 (by simp; omega)
  have h1' : (⟨str l, 0⟩ : RSt).num 4 = (val (str (l.take 4)).data.toList, ⟨str (l.drop 4), 0⟩) := h1
  have h2' : (⟨str (l.drop 4), 0⟩ : RSt).fixed 33 = (str ((l.drop 4).take 33), ⟨str ((l.drop 4).drop 33), 0⟩) := h2
  have h3' : (⟨str ((l.drop 4).drop 33), 0⟩ : RSt).fixed 16 = (str (((l.drop 4).drop 33).take 16), ⟨str (((l.drop 4).drop 33).drop 16), 0⟩) := h3
  have hd : (decE (str l)).s.done = 2 := by
    unfold decE
    rw [h1']
    simp only
    rw [h2']
    simp only
    rw [h3']
    unfold RSt.done
    rw [if_pos]
    refine ⟨rfl, ?_⟩
    show (((l.drop 4).drop 33).drop 16).length ≠ 0
    simp
    omega
  unfold DecE.err
  rw [hd]
  rfl
theorem done_nil : (⟨str [], 0⟩ : RSt).done = 0 := by
  unfold RSt.done
  rw [if_neg (fun q => q.2 rfl)]
/-- bytes of the right length -/
theorem decE_right (l : List UInt8) (hl : l.length = 53) : (decE (str l)).err = if 6 < val ((l.drop 36).take 1) then 4 else if val (l.take 4) < 1 then 13 else 0 := by
  unfold DecE.err
  rw [decE_53 l hl]
  simp only
  rw [done_nil, decP_33 _ (by simp; omega)]
  unfold DecP.err
  simp only
  rw [done_nil]
  have e : ((l.drop 4).take 33).drop 32 = (l.drop 36).take 1 := by rw [List.drop_take, List.drop_drop]
  rw [e]
  simp only [ne_eq, not_true_eq_false, if_false]
  split
  · simp
  · simp
theorem decE_back (l : List UInt8) (hl : l.length = 53) (he : (decE (str l)).err = 0) : (decE (str l)).ent.err = 0 ∧ (decE (str l)).ent.bytes = l := by
  have hr := decE_right l hl
  rw [he] at hr
  have hb := be_val ((l.drop 36).take 1) 1 (by simp; omega)
  have hv := be_val (l.take 4) 4 (by simp; omega)
  have h6 : ¬ 6 < val ((l.drop 36).take 1) := by intro h; rw [if_pos h] at hr; cases hr
  have h1 : ¬ val (l.take 4) < 1 := by intro h; rw [if_neg h6, if_pos h] at hr; cases hr
  have hlt : val (l.take 4) < 256 ^ 4 := by
    have := val_lt (l.take 4)
    rwa [List.length_take, Nat.min_eq_left (by omega)] at this
  have e : ((l.drop 4).take 33).drop 32 = (l.drop 36).take 1 := by rw [List.drop_take, List.drop_drop]
  unfold DecE.ent
  rw [if_pos he, decE_53 l hl]
  simp only
  rw [decP_33 _ (by simp; omega), e]
  have q1 : (((l.drop 4).take 33).take 16).length = 16 := by simp; omega
  have q2 : ((((l.drop 4).take 33).drop 16).take 16).length = 16 := by simp; omega
  refine ⟨EntS.of_fit ⟨⟨by show 1 ≤ val (l.take 4); omega, by show val (l.take 4) ≤ 4294967295; omega⟩, ⟨⟨by show (0 : Int) ≤ ((val ((l.drop 36).take 1) : Nat) : Int); omega, by show ((val ((l.drop 36).take 1) : Nat) : Int) ≤ 6; omega⟩, q1, q2⟩, ?_⟩, ?_⟩
  · show (l.drop 37).length = 16
    simp
    omega
  · show be (val (l.take 4)) 4 ++ ((((l.drop 4).take 33).take 16 ++ ((((l.drop 4).take 33).drop 16).take 16 ++ be (val ((l.drop 36).take 1)) 1)) ++ l.drop 37) = l
    rw [hb, hv]
    have t1 : ((l.drop 4).take 33).take 16 ++ ((((l.drop 4).take 33).drop 16).take 16 ++ (l.drop 36).take 1) = (l.drop 4).take 33 := by
      rw [← e]
      have : ((l.drop 4).take 33).drop 32 = (((l.drop 4).take 33).drop 16).drop 16 := by rw [List.drop_drop]
      rw [this, List.take_append_drop, List.take_append_drop]
    rw [t1]
    have t2 : (l.drop 4).drop 33 = l.drop 37 := by rw [List.drop_drop]
    rw [← t2, List.take_append_drop, List.take_append_drop]
theorem str_inj {a b : List UInt8} (h : str a = str b) : a = b := by
  have := congrArg (fun x : ByteArray => x.data.toList) h
  simpa [str] using this
theorem text_str (t : ByteArray) : str t.data.toList = t := by apply ByteArray.ext; simp [str]
theorem be_inj {a b k : Nat} (ha : a < 256 ^ k) (hb : b < 256 ^ k) (h : be a k = be b k) : a = b := by
  rw [← val_be a k ha, h, val_be b k hb]
/-- an entry that was written is read -/
theorem decE_enc (x : EntS) (h : x.err = 0) : (decE x.enc).err = 0 ∧ (decE x.enc).ent = x := by
  have hl := EntS.len h
  have hx : x.enc = str x.bytes := by unfold EntS.enc; rw [if_pos h]
  obtain ⟨⟨v1, v2⟩, ⟨⟨k1, k2⟩, k3, k4⟩, k5⟩ := EntS.fit h
  have hb3 : x.bytes = be x.v 4 ++ (x.o.data.toList ++ (x.r.data.toList ++ (be x.h.toNat 1 ++ x.p.data.toList))) := by unfold EntS.bytes pubB; simp only [List.append_assoc]
  have lo : x.o.data.toList.length = 16 := by rw [Array.length_toList]; exact k3
  have lr : x.r.data.toList.length = 16 := by rw [Array.length_toList]; exact k4
  have e1 : x.bytes.take 4 = be x.v 4 := by rw [hb3, List.take_append_of_le_length (by rw [be_length]; omega), List.take_of_length_le (by rw [be_length]; omega)]
  have d4 : x.bytes.drop 4 = x.o.data.toList ++ (x.r.data.toList ++ (be x.h.toNat 1 ++ x.p.data.toList)) := by rw [hb3]; exact List.drop_left' (be_length _ _)
  have d36 : x.bytes.drop 36 = be x.h.toNat 1 ++ x.p.data.toList := by
    have : x.bytes.drop 36 = ((x.bytes.drop 4).drop 16).drop 16 := by rw [List.drop_drop, List.drop_drop]
    rw [this, d4, List.drop_left' lo, List.drop_left' lr]
  have e2 : (x.bytes.drop 36).take 1 = be x.h.toNat 1 := by rw [d36, List.take_append_of_le_length (by rw [be_length]; omega), List.take_of_length_le (by rw [be_length]; omega)]
  have vv : val (be x.v 4) = x.v := val_be _ _ (by show x.v < 4294967296; omega)
  have vh : val (be x.h.toNat 1) = x.h.toNat := val_be _ _ (by show x.h.toNat < 256; omega)
  have he : (decE x.enc).err = 0 := by
    rw [hx, decE_right _ hl, e1, e2, vv, vh, if_neg (by omega), if_neg (by omega)]
  refine ⟨he, ?_⟩
  rw [hx] at he ⊢
  unfold DecE.ent
  rw [if_pos he, decE_53 _ hl]
  simp only
  rw [decP_33 _ (by simp; omega)]
  have e : ((x.bytes.drop 4).take 33).drop 32 = (x.bytes.drop 36).take 1 := by rw [List.drop_take, List.drop_drop]
  have eo : ((x.bytes.drop 4).take 33).take 16 = x.o.data.toList := by
    rw [List.take_take, d4, show min 16 33 = 16 from rfl, List.take_append_of_le_length (by omega), List.take_of_length_le (by omega)]
  have er : (((x.bytes.drop 4).take 33).drop 16).take 16 = x.r.data.toList := by
    rw [List.drop_take, List.take_take, d4, List.drop_left' lo, show min 16 (33 - 16) = 16 from rfl, List.take_append_of_le_length (by omega), List.take_of_length_le (by omega)]
  have ep : x.bytes.drop 37 = x.p.data.toList := by
    have : x.bytes.drop 37 = (x.bytes.drop 36).drop 1 := by rw [List.drop_drop]
    rw [this, d36]
    exact List.drop_left' (be_length _ _)
  simp only
  rw [e, e1, e2, vv, vh, eo, er, ep, text_str, text_str, text_str]
  have : ((x.h.toNat : Nat) : Int) = x.h := by omega
  rw [this]
end Go.Proofs.YtioahjdojgcfdaaDoor

namespace Go.Proofs.YtioahjdojgcfdaaDoor
attribute [local irreducible] shaL

structure HdrS where
  e : Nat
  p : ByteArray
  d : Int
  a : Int
  L : List ByteArray
/-- may a text be a node? -/
def nodeOk (s : ByteArray) : Bool := decide (s = ⟨#[0]⟩) || (decide (s.size = 17) && (decide (s.data.toList.head? = some 1) || decide (s.data.toList.head? = some 2)))
theorem nodeOk_size {s : ByteArray} (h : nodeOk s = true) : s.size ≤ 17 := by
  unfold nodeOk at h
  rw [Bool.or_eq_true, Bool.and_eq_true] at h
  rcases h with h | ⟨h, _⟩
  · rw [of_decide_eq_true h]; decide
  · rw [of_decide_eq_true h]; decide
def HdrS.wide (x : HdrS) : Prop := 4294967295 < x.e ∨ x.p.size ≠ 16 ∨ x.d < 0 ∨ 4 < x.d ∨ x.a < 0 ∨ 64 < x.a
instance (x : HdrS) : Decidable x.wide := by unfold HdrS.wide; infer_instance
def HdrS.err (x : HdrS) : Int := if x.wide then 10 else if x.L.length ≠ 2 ^ x.d.toNat then 22 else if x.L.all nodeOk = true then 0 else 4
def HdrS.bytes (x : HdrS) : List UInt8 := be x.e 4 ++ (x.p.data.toList ++ (be x.d.toNat 1 ++ (be x.a.toNat 1 ++ textsB x.L)))
def HdrS.enc (x : HdrS) : ByteArray := if x.err = 0 then str x.bytes else ⟨#[]⟩
def HdrS.dig (x : HdrS) : ByteArray := if x.err = 0 then tagS 14 [str x.bytes] else ⟨#[]⟩
theorem HdrS.fit {x : HdrS} (h : x.err = 0) : ¬ x.wide ∧ x.L.length = 2 ^ x.d.toNat ∧ ∀ s ∈ x.L, nodeOk s = true := by
  unfold HdrS.err at h
  split at h
  · omega
  · split at h
    · omega
    · split at h
      · rename_i h1 h2 h3
        exact ⟨h1, by omega, List.all_eq_true.1 h3⟩
      · omega
theorem HdrS.of_fit {x : HdrS} (h1 : ¬ x.wide) (h2 : x.L.length = 2 ^ x.d.toNat) (h3 : ∀ s ∈ x.L, nodeOk s = true) : x.err = 0 := by
  unfold HdrS.err
  rw [if_neg h1, if_neg (by omega), if_pos (List.all_eq_true.2 h3)]
theorem HdrS.fits {x : HdrS} (h : x.err = 0) : x.e ≤ 4294967295 ∧ x.p.size = 16 ∧ (0 ≤ x.d ∧ x.d ≤ 4) ∧ (0 ≤ x.a ∧ x.a ≤ 64) := by
  have := (HdrS.fit h).1
  unfold HdrS.wide at this
  omega
theorem pow4 {d : Nat} (h : d ≤ 4) : 2 ^ d ≤ 16 := Nat.pow_le_pow_right (n := 2) (by decide) h
theorem textsB_17 : ∀ (L : List ByteArray), (∀ s ∈ L, s.size ≤ 17) → (textsB L).length ≤ 19 * L.length
  | [], _ => Nat.zero_le _
  | x :: r, h => by
    have h1 := textsB_17 r (fun y hy => h y (List.mem_cons_of_mem _ hy))
    have h2 := h x List.mem_cons_self
    show (textB x ++ textsB r).length ≤ _
    have h3 : (textB x).length = 2 + x.size := by unfold textB; rw [List.length_append, be_length]; rfl
    rw [List.length_append, h3, List.length_cons]
    omega
theorem HdrS.len {x : HdrS} (h : x.err = 0) : x.bytes.length ≤ 400 := by
  obtain ⟨_, h2, h3⟩ := HdrS.fit h
  obtain ⟨f1, f2, f3, f4⟩ := HdrS.fits h
  have ht := textsB_17 x.L (fun s hs => nodeOk_size (h3 s hs))
  have hp : 2 ^ x.d.toNat ≤ 16 := pow4 (by omega)
  have hpl : x.p.data.toList.length = 16 := by rw [Array.length_toList]; exact f2
  unfold HdrS.bytes
  simp only [List.length_append, be_length, hpl]
  omega
theorem HdrS.dig_size {x : HdrS} (h : x.err = 0) : x.dig.size = 16 := by
  unfold HdrS.dig
  rw [if_pos h]
  exact tagS_size _ _
theorem HdrS.dig_le (x : HdrS) : x.dig.size ≤ 16 := by
  by_cases h : x.err = 0
  · rw [HdrS.dig_size h]; decide
  · unfold HdrS.dig
    rw [if_neg h]
    decide
theorem HdrS.dig_none {x : HdrS} (h : x.err ≠ 0) : x.dig = ⟨#[]⟩ := by
  unfold HdrS.dig
  rw [if_neg h]
/-- may it be the first one? -/
def HdrS.gen (x : HdrS) : Int := if x.err ≠ 0 then x.err else if x.e ≠ 0 then 14 else if x.p ≠ noughtsS then 15 else 0
/-- may another one follow? -/
def HdrS.next (h x : HdrS) : Int := if x.err ≠ 0 then x.err else if x.e = 0 ∨ x.e - 1 ≠ h.e then 14 else if x.p ≠ h.dig then 15 else if x.d ≠ h.d ∨ x.a < h.a then 22 else 0
def hdrZ : HdrS := ⟨0, ⟨#[]⟩, 0, 0, []⟩
theorem hdrZ_err : hdrZ.err = 10 := by
  unfold HdrS.err
  rw [if_pos (show hdrZ.wide from Or.inr (Or.inl (by decide)))]

/-! what is read -/
structure DecH where
  e : Nat
  p : ByteArray
  d : Nat
  a : Nat
  L : List ByteArray
  s : RSt
def decH (j : ByteArray) : DecH :=
  let s1 := (⟨j, 0⟩ : RSt).num 4
  let s2 := s1.2.fixed 16
  let s3 := s2.2.num 1
  let s4 := s3.2.num 1
  let s5 := readK s4.2 (2 ^ s3.1)
  ⟨s1.1, s2.1, s3.1, s4.1, s5.1, s5.2⟩
def DecH.hdr (x : DecH) : HdrS := ⟨x.e, x.p, x.d, x.a, x.L⟩
def DecH.err (x : DecH) : Int := if 4 < x.d then 10 else if x.s.done ≠ 0 then x.s.done else x.hdr.err
def DecH.ans (x : DecH) : HdrS := if x.err = 0 then x.hdr else hdrZ
theorem num_small (s : RSt) (k : Nat) (h : 1 ≤ k ∧ k ≤ 8) : (s.num k).1 < 256 ^ k := by
  rw [num_of s k h]
  have h3 := fixed_size s k
  have h4 := val_lt ((s.fixed k).1.data.toList)
  have h5 : 256 ^ (s.fixed k).1.data.toList.length ≤ 256 ^ k := Nat.pow_le_pow_right (by decide) (by rw [Array.length_toList]; exact h3)
  exact Nat.lt_of_lt_of_le h4 h5
theorem dec_hdr {x : HdrS} (h : x.err = 0) : decH (str x.bytes) = ⟨x.e, x.p, x.d.toNat, x.a.toNat, x.L, ⟨str [], 0⟩⟩ := by
  obtain ⟨_, h2, h3⟩ := HdrS.fit h
  obtain ⟨f1, f2, f3, f4⟩ := HdrS.fits h
  have e4 : (4 : Int).toNat = 4 := rfl
  have e1 : (1 : Int).toNat = 1 := rfl
  have a1 := rd_num (n := x.e) (k := 4) ⟨by omega, by omega, by show x.e < 4294967296; omega⟩ (x.p.data.toList ++ (be x.d.toNat 1 ++ (be x.a.toNat 1 ++ textsB x.L)))
  rw [e4] at a1
  have a2 := rd_fixed x.p (be x.d.toNat 1 ++ (be x.a.toNat 1 ++ textsB x.L))
  rw [f2] at a2
  have a2 : (⟨str (x.p.data.toList ++ (be x.d.toNat 1 ++ (be x.a.toNat 1 ++ textsB x.L))), 0⟩ : RSt).fixed 16 = _ := a2
  have a3 := rd_num (n := x.d.toNat) (k := 1) ⟨by omega, by omega, by show x.d.toNat < 256; omega⟩ (be x.a.toNat 1 ++ textsB x.L)
  rw [e1] at a3
  have a4 := rd_num (n := x.a.toNat) (k := 1) ⟨by omega, by omega, by show x.a.toNat < 256; omega⟩ (textsB x.L)
  rw [e1] at a4
  have a5 := read_texts [] [] x.L (by intro s hs; rw [List.append_nil] at hs; have := nodeOk_size (h3 s hs); omega)
  rw [List.append_nil, List.append_nil, List.append_nil, h2] at a5
  unfold decH HdrS.bytes
  simp only
  rw [a1]
  simp only
  rw [a2]
  simp only
  rw [a3]
  simp only
  rw [a4]
  simp only
  rw [a5]
  rfl
theorem hdr_dec {x : HdrS} (h : x.err = 0) : (decH (str x.bytes)).err = 0 ∧ (decH (str x.bytes)).ans = x := by
  obtain ⟨f1, f2, f3, f4⟩ := HdrS.fits h
  have hx : (⟨x.e, x.p, x.d.toNat, x.a.toNat, x.L, ⟨str [], 0⟩⟩ : DecH).hdr = x := by
    obtain ⟨e, p, d, a, L⟩ := x
    show (⟨e, p, (d.toNat : Int), (a.toNat : Int), L⟩ : HdrS) = ⟨e, p, d, a, L⟩
    have e1 : (d.toNat : Int) = d := Int.toNat_of_nonneg f3.1
    have e2 : (a.toNat : Int) = a := Int.toNat_of_nonneg f4.1
    rw [e1, e2]
  have he : (decH (str x.bytes)).err = 0 := by
    unfold DecH.err
    rw [dec_hdr h, hx, h]
    rw [if_neg (show ¬ 4 < x.d.toNat by omega)]
    rfl
  refine ⟨he, ?_⟩
  unfold DecH.ans
  rw [if_pos he, dec_hdr h, hx]
theorem done_zero {s : RSt} (h : s.done = 0) : s.err = 0 ∧ s.rest.size = 0 := by
  unfold RSt.done at h
  split at h
  · omega
  · rename_i q
    exact ⟨h, Nat.eq_zero_of_not_pos fun q2 => q ⟨h, by omega⟩⟩
theorem done_codes {s : RSt} (h : errOK s) : s.done = 0 ∨ s.done = 2 ∨ s.done = 3 ∨ s.done = 4 := by
  unfold RSt.done
  split
  · exact Or.inr (Or.inl rfl)
  · rcases h with h | h | h <;> simp [h]
theorem decH_codes (j : ByteArray) (h : (decH j).err ≠ 0) : (decH j).err = 2 ∨ (decH j).err = 3 ∨ (decH j).err = 4 ∨ (decH j).err = 10 := by
  have hs : errOK (decH j).s := by
    unfold decH
    exact readK_err (num_err (num_err (fixed_err (num_err (Or.inl rfl) 4) 16) 1) 1) _
  have hl : (decH j).L.length = 2 ^ (decH j).d := by
    unfold decH
    exact readK_len _ _
  unfold DecH.err at h ⊢
  split
  · simp
  · rename_i h4
    rw [if_neg h4] at h
    split
    · rename_i hd
      rcases done_codes hs with q | q | q | q <;> simp [q] at hd ⊢
    · rename_i hd
      rw [if_neg hd] at h
      unfold HdrS.err
      split
      · simp
      · split
        · rename_i q
          exact absurd hl q
        · split
          · rename_i q1 q2 q3
            exfalso
            apply h
            unfold HdrS.err
            rw [if_neg q1, if_neg q2, if_pos q3]
          · simp
theorem hdr_back' (j : ByteArray) (s1 : Nat × RSt) (s2 : ByteArray × RSt) (s3 s4 : Nat × RSt) (s5 : List ByteArray × RSt) (h1 : (⟨j, 0⟩ : RSt).num 4 = s1) (h2 : s1.2.fixed 16 = s2) (h3 : s2.2.num 1 = s3) (h4 : s3.2.num 1 = s4) (h5 : readK s4.2 (2 ^ s3.1) = s5)
    (he : s5.2.err = 0) (hr : s5.2.rest.size = 0) (hp : s2.1.size = 16) : j = str (be s1.1 4 ++ (s2.1.data.toList ++ (be s3.1 1 ++ (be s4.1 1 ++ textsB s5.1)))) := by
  have b5 := readK_back (s := s4.2) (2 ^ s3.1) (by rw [h5]; exact he)
  rw [h5] at b5
  have b4 := num_back (s := s3.2) (k := 1) ⟨by omega, by omega⟩ (by rw [h4]; exact b5.1)
  rw [h4] at b4
  obtain ⟨b40, l4, l4l, l4v, l4r⟩ := b4
  have b3 := num_back (s := s2.2) (k := 1) ⟨by omega, by omega⟩ (by rw [h3]; exact b40)
  rw [h3] at b3
  obtain ⟨b30, l3, l3l, l3v, l3r⟩ := b3
  have b20 : s1.2.err = 0 := fixed_stay (k := 16) (by rw [h2]; exact b30)
  have b1 := num_back (s := (⟨j, 0⟩ : RSt)) (k := 4) ⟨by omega, by omega⟩ (by rw [h1]; exact b20)
  rw [h1] at b1
  obtain ⟨_, l1, l1l, l1v, l1r⟩ := b1
  have hq : s1.2.rest.data.toList = s2.1.data.toList ++ s2.2.rest.data.toList := by
    rw [← h2] at b30 hp ⊢
    unfold RSt.fixed at b30 hp ⊢
    rw [if_neg (by omega)] at b30 hp ⊢
    rw [if_neg (by omega)] at b30 hp ⊢
    split at b30
    · rename_i hs
      rw [if_pos hs] at hp
      exact absurd (show (ByteArray.empty).size = 16 from hp) (by decide)
    · rename_i hs
      rw [if_neg hs]
      show s1.2.rest.data.toList = (s1.2.rest.extract 0 (16 : Int).toNat).data.toList ++ (s1.2.rest.extract (16 : Int).toNat s1.2.rest.size).data.toList
      rw [ByteArray.data_extract, ByteArray.data_extract, Array.toList_extract, Array.toList_extract]
      have e : (s1.2.rest.data.toList.drop (16 : Int).toNat).take (s1.2.rest.size - (16 : Int).toNat) = s1.2.rest.data.toList.drop (16 : Int).toNat := List.take_of_length_le (by rw [List.length_drop, Array.length_toList]; exact Nat.le_refl _)
      show s1.2.rest.data.toList = ((s1.2.rest.data.toList.drop 0).take ((16 : Int).toNat - 0)) ++ ((s1.2.rest.data.toList.drop (16 : Int).toNat).take (s1.2.rest.size - (16 : Int).toNat))
      rw [e, List.drop_zero, Nat.sub_zero, List.take_append_drop]
  have hrest : s5.2.rest.data.toList = [] := by rw [List.eq_nil_iff_length_eq_zero, Array.length_toList]; exact hr
  have hj : j.data.toList = be s1.1 4 ++ (s2.1.data.toList ++ (be s3.1 1 ++ (be s4.1 1 ++ textsB s5.1))) := by
    show (⟨j, 0⟩ : RSt).rest.data.toList = _
    rw [l1r, hq, l3r, l4r, b5.2.2, hrest, List.append_nil, l1v, l3v, l4v, be_val l1 4 l1l, be_val l3 1 l3l, be_val l4 1 l4l]
  rw [← hj, str_self']
/-- bytes that are a header's are its bytes -/
theorem hdr_back (j : ByteArray) (h : (decH j).err = 0) : j = str (decH j).ans.bytes ∧ (decH j).ans.err = 0 := by
  have ha : (decH j).ans = (decH j).hdr := by unfold DecH.ans; rw [if_pos h]
  rw [ha]
  have h0 := h
  unfold DecH.err at h
  split at h
  · omega
  · split at h
    · omega
    · rename_i h4 hd
      have hz := done_zero (s := (decH j).s) (by omega)
      refine ⟨?_, h⟩
      have hp := (HdrS.fits h).2.1
      exact hdr_back' j _ _ _ _ _ rfl rfl rfl rfl rfl hz.1 hz.2 hp
end Go.Proofs.YtioahjdojgcfdaaDoor

namespace Go.Proofs.YtioahjdojgcfdaaDoor
open Go.RowKit

theorem bcount_in (d : Nat) (hd : d ≤ 4) (w : World) : Calls Tryd.prog 111 #[.int .i64 d] w fun e w' => e = .returned (.int .i64 (2 ^ d : Nat)) ∧ w = w' := by
  have d1 : ¬ (d : Int) < 0 := by omega
  have d2 : ¬ (d : Int) > 4 := by omega
  have d3 : (0 : Int) ≤ (d : Int) := by omega
  match d, hd with
  | 0, _ | 1, _ | 2, _ | 3, _ | 4, _ =>
    clear d1 d2 d3
    go_enter Tryd.func111, Tryd.ntmps111
    go_wp2_with fail
    go_ret
    exact ⟨rfl, rfl⟩
theorem bcount_out (z : Int) (hz : z < 0 ∨ z > 4) (w : World) : Calls Tryd.prog 111 #[.int .i64 z] w fun e w' => e = .returned (.int .i64 0) ∧ w = w' := by
  rcases Int.lt_or_le z 0 with h | h
  · clear hz
    go_enter Tryd.func111, Tryd.ntmps111
    go_wp2_with fail
    go_ret
    exact ⟨rfl, rfl⟩
  · have h2 : ¬ z < 0 := by omega
    have h3 : z > 4 := by omega
    clear hz h
    go_enter Tryd.func111, Tryd.ntmps111
    go_wp2_with fail
    go_ret
    exact ⟨rfl, rfl⟩
end Go.Proofs.YtioahjdojgcfdaaDoor

namespace Go.Proofs.YtioahjdojgcfdaaDoor
open Go.RowKit

def strsV (L : List ByteArray) : List Value := L.map Value.string
theorem strsV_length (L : List ByteArray) : (strsV L).length = L.length := by simp [strsV]
theorem infoStrW : (Tryd.prog.info? 9).map (fun i => (i.zero, i.size, i.bytes)) = some (some (.string ⟨#[]⟩), 1, 16) := by kernel_rfl
theorem strs_own {w : World} {B n : Nat} {a : Option Addr} {cap : Nat} {L : List ByteArray} (h : w.ownsRow B 9 1 (.slice a n cap) n (strsV L)) : StrsAt w (.slice a n cap) L := by
  have hl := h.1
  simp [strsV] at hl
  subst hl
  refine ⟨a, cap, rfl, fun i hi => ?_⟩
  rcases h.2 with ⟨_, h0⟩ | ⟨g, cap', cur, he, hB, hg, hnc, hm, hcs, htake⟩
  · omega
  · cases he
    refine ⟨g, 0, rfl, ?_⟩
    rw [Nat.zero_add, cell_of hg]
    have : (strsV L)[i]? = some (.string L[i]) := by simp [strsV, List.getElem?_eq_getElem hi]
    rw [← htake, List.getElem?_take, if_pos (by omega)] at this
    simpa using this
theorem StrsAt.grown {w w' : World} {v : Value} {L : List ByteArray} (h : StrsAt w v L) (hg : w.grownBy w' none) : StrsAt w' v L := h.kept (below_grownBy hg)
theorem StrsAt.form {w : World} {v : Value} {L : List ByteArray} (h : StrsAt w v L) : ∃ a cap, v = .slice a L.length cap := by
  obtain ⟨a, cap, rfl, _⟩ := h
  exact ⟨a, cap, rfl⟩
theorem StrsAt.at_ {w : World} {a : Option Addr} {n cap : Nat} {L : List ByteArray} (h : StrsAt w (.slice a n cap) L) (i : Nat) (x : ByteArray) (hx : L[i]? = some x) : ∃ g o, a = some ⟨g, o, none⟩ ∧ w.cell? ⟨g, o + i, none⟩ = some (.string x) := by
  obtain ⟨a', cap', he, hc⟩ := h
  cases he
  obtain ⟨hi, rfl⟩ := List.getElem?_eq_some_iff.1 hx
  exact hc i hi
theorem made_strs (n : Nat) : (madeCells #[Value.string ⟨#[]⟩] n).toList = strsV (List.replicate n ⟨#[]⟩) := by
  apply List.ext_getElem?
  intro i
  simp [madeCells, strsV, List.getElem?_replicate]
  by_cases h : i < n <;> simp [h, Nat.mod_one]
/-- a list being filled: what is done, then empty texts -/
def fillS (L : List ByteArray) (n : Nat) : List ByteArray := L ++ List.replicate (n - L.length) ⟨#[]⟩
theorem fillS_put (L : List ByteArray) (n : Nat) (x : ByteArray) (h : L.length < n) : (strsV (fillS L n)).set L.length (.string x) = strsV (fillS (L ++ [x]) n) := by
  have e : strsV (fillS L n) = strsV L ++ (.string ⟨#[]⟩) :: strsV (List.replicate (n - (L.length + 1)) ⟨#[]⟩) := by
    rw [fillS, show n - L.length = (n - (L.length + 1)) + 1 from by omega, List.replicate_succ]
    simp [strsV]
  have hl := strsV_length L
  rw [e, List.set_append_right _ _ (by omega), hl, Nat.sub_self, List.set_cons_zero]
  simp [strsV, fillS]
theorem fillS_at (L : List ByteArray) (n : Nat) (h : L.length < n) : (strsV (fillS L n))[L.length]? = some (.string ⟨#[]⟩) := by
  have hl := strsV_length L
  rw [fillS, show n - L.length = (n - (L.length + 1)) + 1 from by omega, List.replicate_succ]
  simp only [strsV, List.map_append, List.map_cons]
  rw [List.getElem?_append_right (by simp), List.length_map, Nat.sub_self]
  rfl
theorem fillS_full (L : List ByteArray) (n : Nat) (h : L.length = n) : fillS L n = L := by
  rw [fillS, h, Nat.sub_self]
  simp

theorem StrsAt.news {w : World} {g o n cap : Nat} {L : List ByteArray} (h : StrsAt w (.slice (some ⟨g, o, none⟩) n cap) L) : ∀ j u, (strsV L)[j]? = some u → w.cell? ((⟨g, o, none⟩ : Addr).add j) = some u := by
  intro j u hj
  have hj' : j < L.length := by have := (List.getElem?_eq_some_iff.1 hj).1; rwa [strsV_length] at this
  obtain ⟨g', o', he, hc⟩ := h.at_ j _ (List.getElem?_eq_getElem hj')
  cases he
  rw [show Addr.add ⟨g, o, none⟩ j = (⟨g, o + j, none⟩ : Addr) from by simp [Addr.add], hc, ← hj]
  simp [strsV, List.getElem?_eq_getElem hj']
theorem strsV_one (L : List ByteArray) : ∀ u ∈ strsV L, u.oneCell' = true := by
  intro u hu
  obtain ⟨x, _, rfl⟩ := List.mem_map.1 hu
  rfl
theorem slice_own' {w : World} {B n : Nat} {t : TypeId} {v : Value} {xs : List Value} (h : w.ownsRow B t 1 v n xs) : ∃ a cap, v = .slice a n cap := by
  rcases h.2 with ⟨rfl, rfl⟩ | ⟨g, cap, cur, rfl, _⟩
  · exact ⟨none, 0, rfl⟩
  · exact ⟨_, _, rfl⟩

theorem StrsAt.lt {w : World} {g o n c : Nat} {L : List ByteArray} (h : StrsAt w (.slice (some ⟨g, o, none⟩) n c) L) (h0 : 0 < L.length) : g < w.heap.size := by
  obtain ⟨g', o', e, hc⟩ := h.at_ 0 _ (List.getElem?_eq_getElem h0)
  cases e
  exact cell_lt hc

theorem push_strs (P : List ByteArray) (x : ByteArray) : strsV P ++ [.string x] = strsV (P ++ [x]) := by simp [strsV]
theorem lit_one (w : World) (x : ByteArray) : ∀ j u, [Value.string x][j]? = some u → (w.alloc (.cells #[.string x] 9)).cell? ((⟨w.heap.size, 0, none⟩ : Addr).add j) = some u := by
  intro j u hj
  cases j with
  | zero =>
    simp at hj
    subst hj
    exact cell_of (heap_alloc_at _ _ _ rfl) 0
  | succ j => simp at hj
end Go.Proofs.YtioahjdojgcfdaaDoor

namespace Go.Proofs.YtioahjdojgcfdaaDoor
open Go.RowKit
attribute [local irreducible] shaL

theorem wr_numS {w : World} {b : Nat} {st : WSt} (n : Nat) (hn : n ≤ 18446744073709551615) (k : Int) (h : WrAt w b st) (hr : total st.ts ≤ 1000000000) :
    Calls Tryd.prog 83 #[.pointer (some ⟨b, 0, none⟩), .int .u64 n, .int .i64 k] w fun e w' => e = .returned (.pointer (some ⟨b, 0, none⟩)) ∧ WrAt w' b (st.num n k) ∧ w.grownBy w' (some b) := by
  refine (wnum_any n hn k w (some ⟨b, 0, none⟩) (some st) ⟨b, rfl, h⟩ (fun x e => by cases e; omega)).mono ?_
  rintro e w' ⟨rfl, hw, g⟩
  obtain ⟨b', e', hw⟩ := hw
  cases e'
  exact ⟨rfl, hw, g⟩
theorem wr_fixedS {w : World} {b : Nat} {st : WSt} (s : ByteArray) (k : Int) (h : WrAt w b st) (hr : s.size + total st.ts ≤ 1000000000) :
    Calls Tryd.prog 60 #[.pointer (some ⟨b, 0, none⟩), .string s, .int .i64 k] w fun e w' => e = .returned (.pointer (some ⟨b, 0, none⟩)) ∧ WrAt w' b (st.fixed s k) ∧ w.grownBy w' (some b) := by
  refine (wfixed_any s k w (some ⟨b, 0, none⟩) (some st) ⟨b, rfl, h⟩ (fun x e => by cases e; omega)).mono ?_
  rintro e w' ⟨rfl, hw, g⟩
  obtain ⟨b', e', hw⟩ := hw
  cases e'
  exact ⟨rfl, hw, g⟩
theorem wr_bytesS {w : World} {b : Nat} {st : WSt} (h : WrAt w b st) (hr : total st.ts ≤ 1000000000) :
    Calls Tryd.prog 62 #[.pointer (some ⟨b, 0, none⟩)] w fun e w' => e = .returned (.tuple #[.string st.ans, .int .i64 st.err]) ∧ w.grownBy w' none := by
  by_cases he : st.err = 0
  · obtain ⟨ts, err⟩ := st
    have he' : err = 0 := he
    subst he'
    exact bytes_ok w b ts h (Nat.le_trans hr (by decide))
  · refine (bytes_err w b st h he).mono ?_
    rintro e w' ⟨rfl, g⟩
    refine ⟨?_, g⟩
    unfold WSt.ans
    rw [if_neg he]
    rfl
end Go.Proofs.YtioahjdojgcfdaaDoor

namespace Go.Proofs.YtioahjdojgcfdaaDoor
open Go.RowKit
attribute [local irreducible] shaL

theorem grown_row {a b c : World} {row : Option Nat} (h : a.grownBy b none) (k : b.grownBy c row) (hn : ∀ g, row = some g → a.heap.size ≤ g) : a.grownBy c none :=
  ⟨k.os.trans h.os, k.tape.trans h.tape, k.output.trans h.output, Nat.le_trans h.size k.size, fun i hi hne => (k.block i (Nat.lt_of_lt_of_le hi h.size) (by intro e; have := hn i e.symm; omega)).trans (h.block i hi hne)⟩
theorem ShaReady.grown {w w' : World} (h : ShaReady w) (hg : w.grownBy w' none) : ShaReady w' := h.kept hg (by simp) (by simp)

/-- sha.Tagged of texts in a new block -/
theorem tagged_new (w : World) (tag : UInt8) (L : List ByteArray) (vs : List Value) (n : Nat) (tg : Int) (hv : vs = L.map Value.string) (hn : n = L.length) (ht : (tag.toNat : Int) = tg) (hr : ShaReady w) (hN : L.length ≤ 1000) (hs : ∀ s ∈ L, s.size ≤ 1000000000000) :
    Calls Tryd.prog 46 #[.int .u8 tg, .slice (some ⟨w.heap.size, 0, none⟩) n n] (w.alloc (.cells vs.toArray 9)) fun e w' => e = .returned (.string (tagS tag L)) ∧ w.grownBy w' none := by
  subst hv
  subst ht
  refine (tagged_any _ tag _ L (strs_new w L 9 n hn) (hr.grown (World.grownBy_alloc _ _ _)) (by unfold maxLen; omega) ?_).mono fun e w' h => ⟨h.1, grownBy_trans (World.grownBy_alloc _ _ _) h.2⟩
  have := tagB_length tag L _ hs
  have h2 : L.length * (4 + 1000000000000) ≤ 1000 * (4 + 1000000000000) := Nat.mul_le_mul_right _ hN
  omega

end Go.Proofs.YtioahjdojgcfdaaDoor

namespace Go.Proofs.YtioahjdojgcfdaaDoor
open Go.RowKit
attribute [local irreducible] shaL

theorem hmb_any (h : Int) (w : World) :
    Calls Tryd.prog 82 #[.int .i64 h] w fun e w' => e = .returned (.bool (decide (0 ≤ h ∧ h ≤ 6))) ∧ w = w' := by
  by_cases h1 : 0 ≤ h
  · by_cases h2 : h ≤ 6
    · rw [decide_eq_true (show 0 ≤ h ∧ h ≤ 6 from ⟨h1, h2⟩)]
      go_enter Tryd.func82, Tryd.ntmps82
      go_wp2_with fail
      go_ret
      exact ⟨rfl, rfl⟩
    · rw [decide_eq_false (show ¬ (0 ≤ h ∧ h ≤ 6) from fun q => h2 q.2)]
      go_enter Tryd.func82, Tryd.ntmps82
      go_wp2_with fail
      go_ret
      exact ⟨rfl, rfl⟩
  · rw [decide_eq_false (show ¬ (0 ≤ h ∧ h ≤ 6) from fun q => h1 q.1)]
    go_enter Tryd.func82, Tryd.ntmps82
    go_wp2_with fail
    go_ret
    exact ⟨rfl, rfl⟩

def pubZ (o r : ByteArray) (h : Int) : Value := .agg #[.string o, .string r, .int .i64 h]
theorem pubErr_out {o r : ByteArray} {h : Int} (k : ¬ (0 ≤ h ∧ h ≤ 6)) : pubErr o r h = 10 ∧ pubEnc o r h = ⟨#[]⟩ := by
  have : ¬ pubOk o r h := fun q => k q.1
  unfold pubErr pubEnc
  rw [if_neg this, if_neg this]
  exact ⟨rfl, rfl⟩
/-- a struct of three cells in a block: its cells -/
theorem cells3 {w : World} {b : Nat} {t : TypeId} {a0 a1 a2 : Value} (h : w.heap[b]? = some (.cells #[a0, a1, a2] t (0, 0))) : w.cell? ⟨b, 0, none⟩ = some a0 ∧ w.cell? ⟨b, 1, none⟩ = some a1 ∧ w.cell? ⟨b, 2, none⟩ = some a2 := by
  refine ⟨?_, ?_, ?_⟩ <;> rw [cell_of h] <;> rfl
set_option maxRecDepth 100000 in
set_option maxHeartbeats 1600000 in
theorem pencode_any (o r : ByteArray) (h : Int) (ho : o.size ≤ 100000) (hr : r.size ≤ 100000) (w : World) :
    Calls Tryd.prog 39 #[pubZ o r h] w fun e w' => e = .returned (.tuple #[.string (pubEnc o r h), .int .i64 (pubErr o r h)]) ∧ w.grownBy w' none := by
  unfold pubZ
  have hb0 := heap_alloc_at w (.cells #[.string o, .string r, .int .i64 h] 50) _ rfl
  have hg0 : w.grownBy (w.alloc (.cells #[.string o, .string r, .int .i64 h] 50)) none := World.grownBy_alloc _ _ _
  obtain ⟨W0, hW0⟩ : ∃ W0, w.alloc (.cells #[.string o, .string r, .int .i64 h] 50) = W0 := ⟨_, rfl⟩
  rw [hW0] at hb0 hg0
  obtain ⟨x0, x1, x2⟩ := cells3 hb0
  have HB0 := Lib.hid hb0
  have HG0 := Lib.hid hg0
  have HW0 := Lib.hid hW0
  clear hb0 hg0 hW0
  by_cases hh : 0 ≤ h ∧ h ≤ 6
  · obtain ⟨k, rfl⟩ := Int.eq_ofNat_of_zero_le hh.1
    have hk : k ≤ 6 := by omega
    have HM : Hid (∀ w0 : World, Calls Tryd.prog 82 #[.int .i64 k] w0 fun e w' => e = .returned (.bool true) ∧ w0 = w') := fun w0 => by
      have := hmb_any k w0
      rwa [decide_eq_true hh] at this
    have HA := Lib.hid (pubW_ans o r k hk)
    have HSZ := Lib.hid (And.intro ho hr)
    have c1 : IntKind.u64.wrap (k : Int) = (k : Int) := wrap_u64 k (by omega)
    clear hh ho hr
    go_enter Tryd.func39, Tryd.ntmps39
    go_wp2_with (rw [HW0.out])
    refine (HM.out _).mono ?_
    rintro e w1 ⟨rfl, hw1⟩
    subst hw1
    have hWB : WrAt (W0.alloc (.cells #[.pointer none, .int .i64 0, .int .i64 0] 114)) W0.heap.size ⟨[], 0⟩ := ⟨.pointer none, heap_alloc_at W0 _ _ rfl, rfl⟩
    have hg1 : W0.grownBy (W0.alloc (.cells #[.pointer none, .int .i64 0, .int .i64 0] 114)) none := World.grownBy_alloc _ _ _
    have hb1 := hg1.heap HB0.out (by simp)
    obtain ⟨XB, hXB⟩ : ∃ XB, w.heap.size = XB := ⟨_, rfl⟩
    obtain ⟨WB, hWBn⟩ : ∃ WB, W0.heap.size = WB := ⟨_, rfl⟩
    obtain ⟨W1, hW1⟩ : ∃ W1, W0.alloc (.cells #[.pointer none, .int .i64 0, .int .i64 0] 114) = W1 := ⟨_, rfl⟩
    have hlt : w.heap.size < W0.heap.size := (Array.getElem?_eq_some_iff.1 HB0.out).1
    rw [hW1] at hWB hg1 hb1
    rw [hWBn] at hWB hlt
    rw [hXB] at hb1 hlt x0 x1 x2 ⊢
    have HLT := Lib.hid hlt
    have HX := Lib.hid hXB
    have HG1 := Lib.hid (grownBy_trans HG0.out hg1)
    have HWBn := Lib.hid hWBn
    have HW1 := Lib.hid hW1
    have HWR := Lib.hid hWB
    obtain ⟨y0, y1, y2⟩ := cells3 hb1
    have hne2 : ∀ (w' w'' : World) (o : Nat) (u : Value), w'.grownBy w'' (some WB) → w'.cell? ⟨XB, o, none⟩ = some u → w''.cell? ⟨XB, o, none⟩ = some u := fun w' w'' o u g h => g.cell h (fun e => by have := HLT.out; simp at e; omega)
    have HNE := Lib.hid hne2
    have hnew : ∀ g, some WB = some g → w.heap.size ≤ g := fun g e => by cases e; have := HLT.out; have := HX.out; omega
    have HNEW := Lib.hid hnew
    have t0 : total (⟨[], 0⟩ : WSt).ts = 0 := rfl
    have t1 := total_fixed (⟨[], 0⟩ : WSt) o 16
    have t2 := total_fixed ((⟨[], 0⟩ : WSt).fixed o 16) r 16
    have t3 := pubW_total o r k
    have hF1 := fun (w' : World) (q : WrAt w' WB ⟨[], 0⟩) => wr_fixedS o 16 q (by have := HSZ.out; omega)
    have hF2 := fun (w' : World) (q : WrAt w' WB ((⟨[], 0⟩ : WSt).fixed o 16)) => wr_fixedS r 16 q (by have := HSZ.out; omega)
    have hN := fun (w' : World) (q : WrAt w' WB (((⟨[], 0⟩ : WSt).fixed o 16).fixed r 16)) => wr_numS k (by omega) 1 q (by have := HSZ.out; omega)
    have hBY := fun (w' : World) (q : WrAt w' WB (pubW o r k)) => wr_bytesS q (by have := HSZ.out; omega)
    have hpw : (((⟨[], 0⟩ : WSt).fixed o 16).fixed r 16).num k 1 = pubW o r k := rfl
    rw [hpw] at hN
    have HF1 := Lib.hid hF1
    have HF2 := Lib.hid hF2
    have HN := Lib.hid hN
    rw [HA.out.1, HA.out.2] at hBY
    have HBY := Lib.hid hBY
    clear hWB hg1 hb1 hXB hWBn hW1 hlt hne2 hnew t0 t1 t2 t3 hF1 hF2 hN hBY hpw x0 x1 x2
    go_wp2_with (rw [HW1.out, HWBn.out])
    have hdw : WrAt W1.drew WB ⟨[], 0⟩ := HWR.out.grown (grownBy_drew (World.grownBy.refl _ _))
    go_region_held3 (fun w' => w'.cell? ⟨XB, 0, none⟩ = some (.string o) ∧ w'.cell? ⟨XB, 1, none⟩ = some (.string r)) (first | exact ck | exact ⟨y0, y1⟩)
      (first
      | (go_at_call 60; (with_reducible refine (HF1.out _ hdw).mono ?_); rintro e w3 ⟨rfl, hw3, g3⟩; have ck := And.intro (HNE.out _ _ _ _ g3 y0) (HNE.out _ _ _ _ g3 y1))
      | (go_at_call 60; (with_reducible refine (HF2.out _ hw3).mono ?_); rintro e w4 ⟨rfl, hw4, g4⟩; have ck := And.intro (HNE.out _ _ _ _ g4 ck.1) (HNE.out _ _ _ _ g4 ck.2)))
    have z2 := HNE.out _ _ _ _ g4 (HNE.out _ _ _ _ g3 y2)
    have HG4 := Lib.hid (grown_row (grown_row (grownBy_drew HG1.out) g3 HNEW.out) g4 HNEW.out)
    have HW4 := Lib.hid hw4
    clear ck g3 g4 hw3 hw4
    go_wp2_with fail
    refine (HN.out _ HW4.out).mono ?_
    rintro e w5 ⟨rfl, hw5, g5⟩
    have HW5 := Lib.hid hw5
    have HG5 := Lib.hid (grown_row HG4.out g5 HNEW.out)
    clear hw5 g5
    go_wp2_with fail
    refine (HBY.out _ HW5.out).mono ?_
    rintro e w6 ⟨rfl, g6⟩
    have HG6 := Lib.hid (grownBy_trans HG5.out g6)
    clear g6
    go_wp2_with fail
    go_returns
    exact ⟨rfl, HG6.out⟩
  · have HM : Hid (∀ w0 : World, Calls Tryd.prog 82 #[.int .i64 h] w0 fun e w' => e = .returned (.bool false) ∧ w0 = w') := fun w0 => by
      have := hmb_any h w0
      rwa [decide_eq_false hh] at this
    obtain ⟨h1, h2⟩ := pubErr_out (o := o) (r := r) hh
    rw [h1, h2]
    clear h1 h2 hh ho hr x0 x1
    go_enter Tryd.func39, Tryd.ntmps39
    go_wp2_with (rw [HW0.out])
    refine (HM.out _).mono ?_
    rintro e w1 ⟨rfl, hw1⟩
    subst hw1
    go_wp2_with fail
    go_returns
    exact ⟨rfl, HG0.out⟩

/-! DecodePublic -/
theorem heap3 {w : World} {n : Nat} {a0 a1 a2 : Value} {t : TypeId} (h : w.heap[n]? = some (.cells #[a0, a1, a2] t (0, 0))) (v0 v1 v2 : Value) :
    (((w.setCell ⟨n, 0, none⟩ v0).setCell ⟨n, 1, none⟩ v1).setCell ⟨n, 2, none⟩ v2).heap[n]? = some (.cells #[v0, v1, v2] t (0, 0)) :=
  (heap_setCell (heap_setCell (heap_setCell h 0 v0) 1 v1) 2 v2).trans rfl
theorem grown3 (w : World) (n : Nat) (v0 v1 v2 : Value) : w.grownBy (((w.setCell ⟨n, 0, none⟩ v0).setCell ⟨n, 1, none⟩ v1).setCell ⟨n, 2, none⟩ v2) (some n) :=
  grownBy_setCell (grownBy_setCell (grownBy_setCell (World.grownBy.refl w _) 0 _) 1 _) 2 _
/-- what is told of bytes, as a public key -/
def DecP.val (d : DecP) : Value := if d.err = 0 then pubZ d.o d.r d.h else pubZ ⟨#[]⟩ ⟨#[]⟩ 0
end Go.Proofs.YtioahjdojgcfdaaDoor

namespace Go.Proofs.YtioahjdojgcfdaaDoor
open Go.RowKit
attribute [local irreducible] shaL

structure EntS.small (x : EntS) : Prop where
  v : x.v ≤ 18446744073709551615
  o : x.o.size ≤ 100000
  r : x.r.size ≤ 100000
  p : x.p.size ≤ 100000
def EntS.val (x : EntS) : Value := .agg #[.int .u64 x.v, .string x.o, .string x.r, .int .i64 x.h, .string x.p]
def EntS.cells (x : EntS) : List Value := [.int .u64 x.v, .string x.o, .string x.r, .int .i64 x.h, .string x.p]
theorem cells5 {w : World} {b : Nat} {t : TypeId} {a0 a1 a2 a3 a4 : Value} (h : w.heap[b]? = some (.cells #[a0, a1, a2, a3, a4] t (0, 0))) :
    w.cell? ⟨b, 0, none⟩ = some a0 ∧ w.cell? ⟨b, 1, none⟩ = some a1 ∧ w.cell? ⟨b, 2, none⟩ = some a2 ∧ w.cell? ⟨b, 3, none⟩ = some a3 ∧ w.cell? ⟨b, 4, none⟩ = some a4 := by
  refine ⟨?_, ?_, ?_, ?_, ?_⟩ <;> rw [cell_of h] <;> rfl
end Go.Proofs.YtioahjdojgcfdaaDoor

namespace Go.Proofs.YtioahjdojgcfdaaDoor
open Go.RowKit
attribute [local irreducible] shaL

theorem eq_strE (a b : ByteArray) : (a.toList == b.toList) = decide (a = b) := by
  rw [ByteArray.toList_eq, ByteArray.toList_eq, Bool.eq_iff_iff, beq_iff_eq, decide_eq_true_iff]
  exact ⟨fun h => ByteArray.ext (Array.toList_inj.1 h), fun h => by rw [h]⟩
theorem EntS.next_val {x y : EntS} (h : x.next y = 0) : y.v = x.v + 1 ∧ x.err = 0 ∧ y.p = x.value := by
  unfold EntS.next at h
  split at h
  · cases h
  · rename_i h1
    split at h
    · cases h
    · rename_i h2
      refine ⟨by omega, ?_, ?_⟩
      · exact Classical.byContradiction fun q => h2 (.inl q)
      · exact Classical.byContradiction fun q => h2 (.inr q)
/-! lists of entries -/
/-- a list of entries in memory -/
def EntsAt (w : World) (v : Value) (L : List EntS) : Prop :=
  ∃ a cap, v = .slice a L.length cap ∧ ∀ i (h : i < L.length), ∃ g o, a = some ⟨g, o, none⟩ ∧ w.cell? ⟨g, o + i * 5, none⟩ = some (.int .u64 (L[i]).v) ∧ w.cell? ⟨g, o + i * 5 + 1, none⟩ = some (.string (L[i]).o) ∧ w.cell? ⟨g, o + i * 5 + 2, none⟩ = some (.string (L[i]).r) ∧ w.cell? ⟨g, o + i * 5 + 3, none⟩ = some (.int .i64 (L[i]).h) ∧ w.cell? ⟨g, o + i * 5 + 4, none⟩ = some (.string (L[i]).p)
theorem EntsAt.grown {w w' : World} {v : Value} {L : List EntS} (h : EntsAt w v L) (k : w.grownBy w' none) : EntsAt w' v L := by
  obtain ⟨a, c, e, hc⟩ := h
  refine ⟨a, c, e, fun i hi => ?_⟩
  obtain ⟨g, o, e2, h0, h1, h2, h3, h4⟩ := hc i hi
  exact ⟨g, o, e2, k.cell h0 (by simp), k.cell h1 (by simp), k.cell h2 (by simp), k.cell h3 (by simp), k.cell h4 (by simp)⟩
theorem EntsAt.at_ {w : World} {a : Option Addr} {n cap : Nat} {L : List EntS} (h : EntsAt w (.slice a n cap) L) (i : Nat) (x : EntS) (hx : L[i]? = some x) : ∃ g o, a = some ⟨g, o, none⟩ ∧ w.cell? ⟨g, o + i * 5, none⟩ = some (.int .u64 x.v) ∧ w.cell? ⟨g, o + i * 5 + 1, none⟩ = some (.string x.o) ∧ w.cell? ⟨g, o + i * 5 + 2, none⟩ = some (.string x.r) ∧ w.cell? ⟨g, o + i * 5 + 3, none⟩ = some (.int .i64 x.h) ∧ w.cell? ⟨g, o + i * 5 + 4, none⟩ = some (.string x.p) := by
  obtain ⟨a', c', e, hc⟩ := h
  injection e with e1 e2 e3
  obtain ⟨hi, rfl⟩ := List.getElem?_eq_some_iff.1 hx
  obtain ⟨g, o, e4, hcs⟩ := hc i hi
  exact ⟨g, o, e1.trans e4, hcs⟩
theorem EntsAt.len {w : World} {a : Option Addr} {n cap : Nat} {L : List EntS} (h : EntsAt w (.slice a n cap) L) : L.length = n := by
  obtain ⟨_, _, e, _⟩ := h
  injection e with _ e _
  exact e.symm
theorem chainE_drop (L : List EntS) (k : Nat) (x y : EntS) (hx : L[k]? = some x) (hy : L[k + 1]? = some y) : chainE (L.drop k) = if x.next y ≠ 0 then x.next y else chainE (L.drop (k + 1)) := by
  obtain ⟨hi, rfl⟩ := List.getElem?_eq_some_iff.1 hx
  obtain ⟨hj, rfl⟩ := List.getElem?_eq_some_iff.1 hy
  rw [List.drop_eq_getElem_cons hi, List.drop_eq_getElem_cons hj]
  rfl
theorem chainE_last (L : List EntS) (k : Nat) (h : L.length ≤ k + 1) : chainE (L.drop k) = 0 := by
  have hl : (L.drop k).length ≤ 1 := by simp; omega
  match hm : L.drop k, hl with
  | [], _ => rfl
  | [_], _ => rfl
  | _ :: _ :: _, h => simp at h
theorem two_cells {w w1 w2 : World} {g i j : Nat} {v0 v1 v2 v3 v4 u0 u1 u2 u3 u4 : Value} (_q : w.grownBy w1 none) (k : w1.grownBy w2 none)
    (h : (w1.cell? ⟨g, i, none⟩ = some v0 ∧ w1.cell? ⟨g, i + 1, none⟩ = some v1 ∧ w1.cell? ⟨g, i + 2, none⟩ = some v2 ∧ w1.cell? ⟨g, i + 3, none⟩ = some v3 ∧ w1.cell? ⟨g, i + 4, none⟩ = some v4) ∧ w1.cell? ⟨g, j, none⟩ = some u0 ∧ w1.cell? ⟨g, j + 1, none⟩ = some u1 ∧ w1.cell? ⟨g, j + 2, none⟩ = some u2 ∧ w1.cell? ⟨g, j + 3, none⟩ = some u3 ∧ w1.cell? ⟨g, j + 4, none⟩ = some u4) :
    w2.cell? ⟨g, i, none⟩ = some v0 ∧ w2.cell? ⟨g, i + 1, none⟩ = some v1 ∧ w2.cell? ⟨g, i + 2, none⟩ = some v2 ∧ w2.cell? ⟨g, i + 3, none⟩ = some v3 ∧ w2.cell? ⟨g, i + 4, none⟩ = some v4 ∧ w2.cell? ⟨g, j, none⟩ = some u0 ∧ w2.cell? ⟨g, j + 1, none⟩ = some u1 ∧ w2.cell? ⟨g, j + 2, none⟩ = some u2 ∧ w2.cell? ⟨g, j + 3, none⟩ = some u3 ∧ w2.cell? ⟨g, j + 4, none⟩ = some u4 := by
  obtain ⟨⟨h0, h1, h2, h3, h4⟩, k0, k1, k2, k3, k4⟩ := h
  exact ⟨k.cell h0 (by simp), k.cell h1 (by simp), k.cell h2 (by simp), k.cell h3 (by simp), k.cell h4 (by simp), k.cell k0 (by simp), k.cell k1 (by simp), k.cell k2 (by simp), k.cell k3 (by simp), k.cell k4 (by simp)⟩
end Go.Proofs.YtioahjdojgcfdaaDoor

namespace Go.Proofs.YtioahjdojgcfdaaDoor
open Go.RowKit

theorem row_string_w (w : World) (vs : List Value) (l : List UInt8) (hl : vs = u8s l) :
    (convert 57 9 (.slice (some ⟨w.heap.size, 0, none⟩) l.length l.length)).run Tryd.prog (w.alloc (.cells vs.toArray 5)) = .ok (.string (str l)) (w.alloc (.cells vs.toArray 5)) := by
  subst hl
  exact row_string (w := w.alloc (.cells (u8s l).toArray 5)) (g := w.heap.size) (t := 5) (heap_alloc_at _ _ _ rfl) _
theorem be4 (n : Nat) : be n 4 = [UInt8.ofNat (n / 256 ^ 3 % 256), UInt8.ofNat (n / 256 ^ 2 % 256), UInt8.ofNat (n / 256 ^ 1 % 256), UInt8.ofNat (n / 256 ^ 0 % 256)] := by
  simp [be, Nat.div_div_eq_div_mul]
theorem four_bytes (n : Nat) : [Value.int .u8 ((n : Int) / 16777216 % 256), .int .u8 ((n : Int) / 65536 % 256), .int .u8 ((n : Int) / 256 % 256), .int .u8 ((n : Int) % 256)] = u8s (be n 4) := by
  rw [be4]
  simp [u8s]
end Go.Proofs.YtioahjdojgcfdaaDoor

namespace Go.Proofs.YtioahjdojgcfdaaDoor
open Go.RowKit

theorem shift_at (n k : Nat) (c m : Int) (hc : (k : Int) = c) (hn : n ≤ 4294967295) (hk : k ≤ 64) (hm : ((2 ^ k : Nat) : Int) = m) (w : World) :
    Calls Tryd.prog 91 #[.int .u64 n, .int .i64 c] w fun e w' => e = .returned (.int .u64 ((n : Int) / m)) ∧ w = w' := by
  subst hc
  exact (shift_any n k (by omega) (by omega) w).mono fun _ _ h => ⟨by rw [h.1, ← hm]; simp, h.2⟩

set_option maxHeartbeats 400000 in
set_option maxRecDepth 100000 in
theorem four_any (n : Nat) (hn : n ≤ 4294967295) (w : World) :
    Calls Tryd.prog 51 #[.int .i64 n] w fun e w' => e = .returned (.string (str (be n 4))) ∧ w.grownBy w' none := by
  have hcv : (convert 57 9 (.slice (some ⟨w.heap.size, 0, none⟩) 4 4)).run Tryd.prog (w.alloc (.cells #[Value.int .u8 ((n : Int) / 16777216), .int .u8 ((n : Int) / 65536 % 256), .int .u8 ((n : Int) / 256 % 256), .int .u8 ((n : Int) % 256)] 5)) = .ok (.string (str (be n 4))) (w.alloc (.cells #[Value.int .u8 ((n : Int) / 16777216), .int .u8 ((n : Int) / 65536 % 256), .int .u8 ((n : Int) / 256 % 256), .int .u8 ((n : Int) % 256)] 5)) := by
    have := row_string_w w _ (be n 4) (four_bytes n)
    rw [be_length, show (n : Int) / 16777216 % 256 = (n : Int) / 16777216 from by omega] at this
    exact this
  have c1 := shift_at n 24 24 16777216 rfl hn (by omega) (by decide) w
  have c2 := shift_at n 16 16 65536 rfl hn (by omega) (by decide) w
  have c3 := shift_at n 8 8 256 rfl hn (by omega) (by decide) w
  have H1 := Lib.hid c1
  have H2 := Lib.hid c2
  have H3 := Lib.hid c3
  clear c1 c2 c3
  go_enter Tryd.func51, Tryd.ntmps51
  go_wp2_with fail
  refine H1.out.mono ?_
  rintro e w' ⟨rfl, rfl⟩
  go_wp2_with fail
  refine H2.out.mono ?_
  rintro e w' ⟨rfl, rfl⟩
  go_wp2_with fail
  refine H3.out.mono ?_
  rintro e w' ⟨rfl, rfl⟩
  go_wp2_with fail
  go_ret
  exact ⟨rfl, World.grownBy_alloc _ _ _⟩
end Go.Proofs.YtioahjdojgcfdaaDoor

namespace Go.Proofs.YtioahjdojgcfdaaDoor
open Go.RowKit
attribute [local irreducible] shaL

theorem heap5 {w : World} {n : Nat} {a0 a1 a2 a3 a4 : Value} {t : TypeId} (h : w.heap[n]? = some (.cells #[a0, a1, a2, a3, a4] t (0, 0))) (v0 v1 v2 v3 v4 : Value) :
    (((((w.setCell ⟨n, 0, none⟩ v0).setCell ⟨n, 1, none⟩ v1).setCell ⟨n, 2, none⟩ v2).setCell ⟨n, 3, none⟩ v3).setCell ⟨n, 4, none⟩ v4).heap[n]? = some (.cells #[v0, v1, v2, v3, v4] t (0, 0)) :=
  (heap_setCell (heap_setCell (heap_setCell (heap_setCell (heap_setCell h 0 v0) 1 v1) 2 v2) 3 v3) 4 v4).trans rfl
theorem grown5 (w : World) (n : Nat) (v0 v1 v2 v3 v4 : Value) : w.grownBy (((((w.setCell ⟨n, 0, none⟩ v0).setCell ⟨n, 1, none⟩ v1).setCell ⟨n, 2, none⟩ v2).setCell ⟨n, 3, none⟩ v3).setCell ⟨n, 4, none⟩ v4) (some n) :=
  grownBy_setCell (grownBy_setCell (grownBy_setCell (grownBy_setCell (grownBy_setCell (World.grownBy.refl w _) 0 _) 1 _) 2 _) 3 _) 4 _
end Go.Proofs.YtioahjdojgcfdaaDoor
