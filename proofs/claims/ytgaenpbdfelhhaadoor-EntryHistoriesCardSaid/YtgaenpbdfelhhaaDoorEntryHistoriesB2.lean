/- Plain functions for package wots: places, secrets, walks, public keys. No walk of the program. · A public key's and an entry's bytes: written, read, each of the other. No walk. · A Writer's calls at its block, at every state. · A Reader's calls at its block, at every state. · sha.Tagged of texts in a new block. · The walks of xmss's Public.Encode and DecodePublic. · The walks of an entry's Encode, Value, Name, Next. · The four bytes of a number. No walk. · Out of the listed variables: package sha's two tables in memory; and a world for the witness. · Slices of integers in memory. No walk. -/
import Derived.Test.YtgaenpbdfelhhaaDoorShaCalls
import Derived.Test.YtgaenpbdfelhhaaDoorEntryHistoriesB1
import Derived.Handy
import Derived.Deep.DeepCutAuto
import Derived.Deep.RegionHeld3
import Derived.Test.YtgaenpbdfelhhaaDoorCards
import Derived.Test.YtgaenpbdfelhhaaDoorTie
import Derived.Lib.LaidIn
import Derived.Lib.LaidU8T
import Derived.Deep.DeepHandedRow
import Derived.Deep.DeepWitnessRowRef
import Derived.ProofKit
import Derived.OpenShut
import Derived.ShutString
namespace Go.Proofs.YtgaenpbdfelhhaaDoor
attribute [local irreducible] shaL

/-- the short digest of a tag and texts -/
def tagS (tag : UInt8) (L : List ByteArray) : ByteArray := str ((shaL (tagB tag L)).take 16)
theorem tagS_size (tag : UInt8) (L : List ByteArray) : (tagS tag L).size = 16 := by
  unfold tagS
  rw [str_size, List.length_take, shaL_length]
  rfl
def placeL (leaf chain step : Nat) : List UInt8 := be leaf 4 ++ [UInt8.ofNat chain, UInt8.ofNat step]
def placeS (leaf chain step : Nat) : ByteArray := str (placeL leaf chain step)
theorem placeS_size (leaf chain step : Nat) : (placeS leaf chain step).size = 6 := by
  unfold placeS placeL
  rw [str_size, List.length_append, be_length]
  rfl
def openS (seed : ByteArray) : ByteArray := tagS 3 [seed]
def stepS (o : ByteArray) (leaf chain k : Nat) (x : ByteArray) : ByteArray := tagS 2 [o, placeS leaf chain k, x]
/-- n steps, from step a on -/
def walkS (o : ByteArray) (leaf chain a : Nat) : Nat → ByteArray → ByteArray
  | 0, x => x
  | n + 1, x => stepS o leaf chain (a + n) (walkS o leaf chain a n x)
theorem walkS_zero (o : ByteArray) (leaf chain a : Nat) (x : ByteArray) : walkS o leaf chain a 0 x = x := rfl
theorem walkS_succ (o : ByteArray) (leaf chain a n : Nat) (x : ByteArray) : walkS o leaf chain a (n + 1) x = stepS o leaf chain (a + n) (walkS o leaf chain a n x) := rfl
theorem walkS_add (o : ByteArray) (leaf chain a m n : Nat) (x : ByteArray) : walkS o leaf chain (a + m) n (walkS o leaf chain a m x) = walkS o leaf chain a (m + n) x := by
  induction n with
  | zero => rfl
  | succ n ih => rw [walkS_succ, ih, ← Nat.add_assoc, walkS_succ, Nat.add_assoc]
theorem walkS_size (o : ByteArray) (leaf chain a n : Nat) (x : ByteArray) (N : Nat) (h : x.size ≤ N) (h16 : 16 ≤ N) : (walkS o leaf chain a n x).size ≤ N := by
  cases n with
  | zero => exact h
  | succ n => rw [walkS_succ]; unfold stepS; rw [tagS_size]; exact h16
theorem walkS_16 (o : ByteArray) (leaf chain a n : Nat) (x : ByteArray) (h : x.size = 16) : (walkS o leaf chain a n x).size = 16 := by
  cases n with
  | zero => exact h
  | succ n => rw [walkS_succ]; unfold stepS; rw [tagS_size]
/-- from and to as they come: below 0 as 0, above 15 as 15 -/
def walkZ (o : ByteArray) (leaf chain : Nat) (a b : Int) (x : ByteArray) : ByteArray := walkS o leaf chain (max a 0).toNat (min b 15 - max a 0).toNat x
def secretS (seed : ByteArray) (leaf chain : Nat) : ByteArray := tagS 1 [seed, placeS leaf chain 0]
def publicOfS (o : ByteArray) (leaf : Nat) (ends : List ByteArray) : ByteArray := tagS 4 ([o, placeS leaf 0 0] ++ ends)
def endsS (seed : ByteArray) (leaf : Nat) : Nat → List ByteArray
  | 0 => []
  | c + 1 => endsS seed leaf c ++ [walkS (openS seed) leaf c 0 15 (secretS seed leaf c)]
def publicS (seed : ByteArray) (leaf : Nat) : ByteArray := publicOfS (openS seed) leaf (endsS seed leaf 35)
/-- a signature's first c texts -/
def sigS (seed : ByteArray) (leaf : Nat) (d : List Int) : Nat → List ByteArray
  | 0 => []
  | c + 1 => sigS seed leaf d c ++ [walkS (openS seed) leaf c 0 (d.getD c 0).toNat (secretS seed leaf c)]
/-- the first c ends of what a signature's texts are walked to -/
def recS (o : ByteArray) (leaf : Nat) (d : List Int) (sig : List ByteArray) : Nat → List ByteArray
  | 0 => []
  | c + 1 => recS o leaf d sig c ++ [walkS o leaf c (d.getD c 0).toNat (15 - d.getD c 0).toNat (sig.getD c ByteArray.empty)]
theorem endsS_length (seed : ByteArray) (leaf c : Nat) : (endsS seed leaf c).length = c := by
  induction c with
  | zero => rfl
  | succ c ih => simp [endsS, ih]
theorem sigS_length (seed : ByteArray) (leaf : Nat) (d : List Int) (c : Nat) : (sigS seed leaf d c).length = c := by
  induction c with
  | zero => rfl
  | succ c ih => simp [sigS, ih]
theorem recS_length (o : ByteArray) (leaf : Nat) (d : List Int) (sig : List ByteArray) (c : Nat) : (recS o leaf d sig c).length = c := by
  induction c with
  | zero => rfl
  | succ c ih => simp [recS, ih]
theorem sigS_at (seed : ByteArray) (leaf : Nat) (d : List Int) (c i : Nat) (h : i < c) : (sigS seed leaf d c)[i]? = some (walkS (openS seed) leaf i 0 (d.getD i 0).toNat (secretS seed leaf i)) := by
  induction c with
  | zero => omega
  | succ c ih =>
    rw [sigS]
    by_cases e : i = c
    · subst e
      rw [List.getElem?_append_right (by rw [sigS_length]; omega), sigS_length, Nat.sub_self]
      rfl
    · rw [List.getElem?_append_left (by rw [sigS_length]; omega), ih (by omega)]
theorem secretS_size (seed : ByteArray) (leaf chain : Nat) : (secretS seed leaf chain).size = 16 := tagS_size _ _
theorem openS_size (seed : ByteArray) : (openS seed).size = 16 := tagS_size _ _
theorem sigS_all (seed : ByteArray) (leaf : Nat) (d : List Int) (c : Nat) : ∀ s ∈ sigS seed leaf d c, s.size = 16 := by
  induction c with
  | zero => intro s h; cases h
  | succ c ih =>
    intro s h
    rw [sigS] at h
    rcases List.mem_append.1 h with h | h
    · exact ih s h
    · obtain rfl := List.mem_singleton.1 h
      exact walkS_16 _ _ _ _ _ _ (secretS_size _ _ _)
theorem endsS_all (seed : ByteArray) (leaf c : Nat) : ∀ s ∈ endsS seed leaf c, s.size = 16 := by
  induction c with
  | zero => intro s h; cases h
  | succ c ih =>
    intro s h
    rw [endsS] at h
    rcases List.mem_append.1 h with h | h
    · exact ih s h
    · obtain rfl := List.mem_singleton.1 h
      exact walkS_16 _ _ _ _ _ _ (secretS_size _ _ _)
theorem recS_all (o : ByteArray) (leaf : Nat) (d : List Int) (sig : List ByteArray) (hs : ∀ s ∈ sig, s.size = 16) (c : Nat) (hc : c ≤ sig.length) : ∀ s ∈ recS o leaf d sig c, s.size = 16 := by
  induction c with
  | zero => intro s h; cases h
  | succ c ih =>
    intro s h
    rw [recS] at h
    rcases List.mem_append.1 h with h | h
    · exact ih (by omega) s h
    · obtain rfl := List.mem_singleton.1 h
      refine walkS_16 _ _ _ _ _ _ (hs _ ?_)
      rw [List.getD_eq_getElem?_getD, List.getElem?_eq_getElem (by omega)]
      exact List.getElem_mem _
/-- P6.3: what a signature tells is the public key -/
theorem rec_sig (seed : ByteArray) (leaf : Nat) (d : List Int) (hd : ∀ x ∈ d, 0 ≤ x ∧ x ≤ 15) (n : Nat) (hn : n ≤ d.length) (c : Nat) (hc : c ≤ n) : recS (openS seed) leaf d (sigS seed leaf d n) c = endsS seed leaf c := by
  induction c with
  | zero => rfl
  | succ c ih =>
    rw [recS, endsS, ih (by omega)]
    have h1 := sigS_at seed leaf d n c (by omega)
    rw [List.getD_eq_getElem?_getD (l := sigS seed leaf d n), h1]
    have hx := hd (d.getD c 0) (by rw [List.getD_eq_getElem?_getD, List.getElem?_eq_getElem (by omega)]; exact List.getElem_mem _)
    simp only [Option.getD_some]
    have e := walkS_add (openS seed) leaf c 0 (d.getD c 0).toNat (15 - d.getD c 0).toNat (secretS seed leaf c)
    rw [Nat.zero_add] at e
    rw [e, show (d.getD c 0).toNat + (15 - d.getD c 0).toNat = 15 from by omega]
/-- a tagged text's length -/
theorem tagB_length (tag : UInt8) (L : List ByteArray) (N : Nat) (h : ∀ s ∈ L, s.size ≤ N) : (tagB tag L).length ≤ 1 + L.length * (4 + N) := by
  unfold tagB
  rw [List.length_cons]
  suffices (L.flatMap fun s => be s.size 4 ++ s.data.toList).length ≤ L.length * (4 + N) by omega
  induction L with
  | nil => simp
  | cons s L ih =>
    have := ih (fun t ht => h t (by simp [ht]))
    have hs := h s (by simp)
    rw [List.flatMap_cons, List.length_append, List.length_append, be_length, List.length_cons, Nat.succ_mul]
    have e : s.data.toList.length = s.size := rfl
    omega
end Go.Proofs.YtgaenpbdfelhhaaDoor

namespace Go.Proofs.YtgaenpbdfelhhaaDoor
attribute [local irreducible] shaL

theorem be_val_rev (l : List UInt8) : be (val l.reverse) l.length = l.reverse := by
  induction l with
  | nil => rfl
  | cons c l ih =>
    have hc := c.toNat_lt
    rw [List.reverse_cons, val_snoc, List.length_cons, be, show (256 * val l.reverse + c.toNat) / 256 = val l.reverse from by omega, show (256 * val l.reverse + c.toNat) % 256 = c.toNat from by omega, ih]
    simp
theorem be_val (l : List UInt8) (k : Nat) (h : l.length = k) : be (val l) k = l := by
  subst h
  have := be_val_rev l.reverse
  simpa using this
theorem val_pos (l : List UInt8) : val l = 0 ↔ l = List.replicate l.length 0 := by
  have hz : ∀ k, be 0 k = List.replicate k 0 := by
    intro k
    induction k with
    | zero => rfl
    | succ k ih => rw [be, ih, List.replicate_succ']; rfl
  constructor
  · intro h
    have := be_val l _ rfl
    rw [h, hz] at this
    exact this.symm
  · intro h
    rw [h, ← hz]
    exact val_be 0 _ (Nat.pow_pos (by decide))

/-! what a Reader does with a text -/
theorem rd_take (l : List UInt8) (k : Nat) (h : k ≤ l.length) : (⟨str l, 0⟩ : RSt).fixed k = (str (l.take k), ⟨str (l.drop k), 0⟩) := by
  have := fixed_str (l.take k) (l.drop k)
  rw [List.take_append_drop, List.length_take, Nat.min_eq_left h] at this
  exact this
theorem rd_less (l : List UInt8) (k : Nat) (h : l.length < k) : (⟨str l, 0⟩ : RSt).fixed k = (ByteArray.empty, ⟨str l, 3⟩) := by
  unfold RSt.fixed
  simp only
  rw [if_neg (by simp), if_neg (by omega), if_pos (by rw [str_size]; omega)]
  rfl
theorem rd_err (s : ByteArray) (e : Int) (he : e ≠ 0) (k : Int) : (⟨s, e⟩ : RSt).fixed k = (ByteArray.empty, ⟨s, e⟩) := by
  unfold RSt.fixed
  rw [if_pos he]
theorem num_of (s : RSt) (k : Nat) (h : 1 ≤ k ∧ k ≤ 8) : s.num k = (val (s.fixed k).1.data.toList, (s.fixed k).2) := by
  unfold RSt.num
  rw [if_pos (by omega)]

/-! a public key -/
def pubOk (o r : ByteArray) (h : Int) : Prop := (0 ≤ h ∧ h ≤ 6) ∧ o.size = 16 ∧ r.size = 16
instance (o r : ByteArray) (h : Int) : Decidable (pubOk o r h) := by unfold pubOk; infer_instance
def pubB (o r : ByteArray) (h : Int) : List UInt8 := o.data.toList ++ (r.data.toList ++ be h.toNat 1)
def pubErr (o r : ByteArray) (h : Int) : Int := if pubOk o r h then 0 else 10
def pubEnc (o r : ByteArray) (h : Int) : ByteArray := if pubOk o r h then str (pubB o r h) else ⟨#[]⟩
/-- what the Writer holds -/
def pubW (o r : ByteArray) (h : Nat) : WSt := (((⟨[], 0⟩ : WSt).fixed o 16).fixed r 16).num h 1
theorem wput_ok (ts : List ByteArray) (t : ByteArray) (k : Int) (h : (t.size : Int) = k) : (⟨ts, 0⟩ : WSt).fixed t k = ⟨t :: ts, 0⟩ := by
  unfold WSt.fixed
  rw [if_pos h]
  rfl
theorem wput_not (ts : List ByteArray) (t : ByteArray) (k : Int) (h : (t.size : Int) ≠ k) : (⟨ts, 0⟩ : WSt).fixed t k = ⟨ts, 10⟩ := by
  unfold WSt.fixed
  rw [if_neg h]
  rfl
theorem wput_err (s : WSt) (he : s.err ≠ 0) (t : ByteArray) (k : Int) : s.fixed t k = s := by
  unfold WSt.fixed WSt.put WSt.fail
  rw [if_neg he, if_neg he]
  split <;> rfl
theorem wnum_ok (ts : List ByteArray) (n : Nat) (k : Int) (h : 1 ≤ k ∧ k ≤ 8 ∧ n < 256 ^ k.toNat) : (⟨ts, 0⟩ : WSt).num n k = ⟨str (be n k.toNat) :: ts, 0⟩ := by
  unfold WSt.num
  rw [if_pos h]
  rfl
theorem wnum_err (s : WSt) (he : s.err ≠ 0) (n : Nat) (k : Int) : s.num n k = s := by
  unfold WSt.num WSt.put WSt.fail
  rw [if_neg he, if_neg he]
  split <;> rfl
theorem pubW_ok {o r : ByteArray} {h : Nat} (k : pubOk o r h) : pubW o r h = ⟨[str (be h 1), r, o], 0⟩ := by
  obtain ⟨⟨h1, h2⟩, h3, h4⟩ := k
  unfold pubW
  rw [wput_ok [] o 16 (by omega), wput_ok [o] r 16 (by omega), wnum_ok [r, o] h 1 ⟨by omega, by omega, by show h < 256; omega⟩]
  rfl
theorem pubW_not {o r : ByteArray} {h : Nat} (hh : h ≤ 6) (k : ¬ pubOk o r h) : (pubW o r h).err = 10 := by
  unfold pubW
  have hn : ¬ (o.size = 16 ∧ r.size = 16) := fun q => k ⟨by omega, q⟩
  by_cases h1 : o.size = 16
  · rw [wput_ok [] o 16 (by omega), wput_not [o] r 16 (by omega), wnum_err _ (by simp)]
  · rw [wput_not [] o 16 (by omega), wput_err _ (by simp), wnum_err _ (by simp)]
theorem total_fixed (s : WSt) (t : ByteArray) (k : Int) : total (s.fixed t k).ts ≤ t.size + total s.ts := by
  unfold WSt.fixed
  split
  · exact total_put s t
  · rw [total_fail]; omega
theorem total_num (s : WSt) (n : Nat) (k : Int) : total (s.num n k).ts ≤ 8 + total s.ts := by
  unfold WSt.num
  split
  · rename_i h
    have := total_put s (str (be n k.toNat))
    rw [str_size, be_length] at this
    omega
  · rw [total_fail]; omega
theorem pubW_total (o r : ByteArray) (h : Nat) : total (pubW o r h).ts ≤ 8 + (r.size + o.size) := by
  have h1 := total_num (((⟨[], 0⟩ : WSt).fixed o 16).fixed r 16) h 1
  have h2 := total_fixed ((⟨[], 0⟩ : WSt).fixed o 16) r 16
  have h3 := total_fixed (⟨[], 0⟩ : WSt) o 16
  have h4 : total (⟨[], 0⟩ : WSt).ts = 0 := rfl
  unfold pubW
  omega
/-- a Writer's answer -/
def WSt.ans (s : WSt) : ByteArray := if s.err = 0 then str (flat s.ts) else ⟨#[]⟩
theorem pubW_ans (o r : ByteArray) (h : Nat) (hh : h ≤ 6) : (pubW o r h).ans = pubEnc o r h ∧ (pubW o r h).err = pubErr o r h := by
  by_cases k : pubOk o r h
  · rw [pubW_ok k]
    unfold pubEnc pubErr WSt.ans
    rw [if_pos k, if_pos k, if_pos rfl]
    refine ⟨?_, rfl⟩
    simp [flat, pubB, str]
  · unfold pubEnc pubErr WSt.ans
    rw [pubW_not hh k, if_neg k, if_neg k]
    exact ⟨rfl, rfl⟩
/-- what is read of bytes, as a public key -/
structure DecP where
  o : ByteArray
  r : ByteArray
  h : Nat
  s : RSt
def decP (s : ByteArray) : DecP :=
  let a := (⟨s, 0⟩ : RSt).fixed 16
  let b := a.2.fixed 16
  let c := b.2.num 1
  ⟨a.1, b.1, c.1, c.2⟩
def DecP.err (d : DecP) : Int := if d.s.done ≠ 0 then d.s.done else if 6 < d.h then 4 else 0
theorem decP_h (s : ByteArray) : (decP s).h < 256 := by
  have h1 := num_of (((⟨s, 0⟩ : RSt).fixed 16).2.fixed 16).2 1 (by omega)
  have h2 : (decP s).h = ((((⟨s, 0⟩ : RSt).fixed 16).2.fixed 16).2.num (1 : Nat)).1 := rfl
  rw [h2, h1]
  have h3 := fixed_size (((⟨s, 0⟩ : RSt).fixed 16).2.fixed 16).2 1
  have h4 := val_lt (((((⟨s, 0⟩ : RSt).fixed 16).2.fixed 16).2.fixed (1 : Nat)).1.data.toList)
  have h5 : 256 ^ (((((⟨s, 0⟩ : RSt).fixed 16).2.fixed 16).2.fixed (1 : Nat)).1.data.toList).length ≤ 256 ^ 1 := Nat.pow_le_pow_right (by decide) (by rw [Array.length_toList]; exact h3)
  exact Nat.lt_of_lt_of_le h4 h5
theorem decP_33 (l : List UInt8) (hl : l.length = 33) : decP (str l) = ⟨str (l.take 16), str ((l.drop 16).take 16), val (l.drop 32), ⟨str [], 0⟩⟩ := by
  have h1 := rd_take l 16 (by omega)
  have h2 := rd_take (l.drop 16) 16 (by simp; omega)
  have h3 := num_of (⟨str ((l.drop 16).drop 16), 0⟩ : RSt) 1 (by omega)
  rw [rd_take _ 1 (by simp; omega)] at h3
  have h1' : (⟨str l, 0⟩ : RSt).fixed 16 = (str (l.take 16), ⟨str (l.drop 16), 0⟩) := h1
  have h2' : (⟨str (l.drop 16), 0⟩ : RSt).fixed 16 = (str ((l.drop 16).take 16), ⟨str ((l.drop 16).drop 16), 0⟩) := h2
  have h3' : (⟨str ((l.drop 16).drop 16), 0⟩ : RSt).num 1 = (val (str (((l.drop 16).drop 16).take 1)).data.toList, ⟨str (((l.drop 16).drop 16).drop 1), 0⟩) := h3
  have e1 : ((l.drop 16).drop 16).take 1 = l.drop 32 := by rw [List.drop_drop]; exact List.take_of_length_le (by simp; omega)
  have e2 : ((l.drop 16).drop 16).drop 1 = [] := by rw [List.drop_drop, List.drop_drop]; exact List.drop_of_length_le (by omega)
  rw [e1, e2] at h3'
  unfold decP
  rw [h1']
  simp only
  rw [h2']
  simp only
  rw [h3']
  rfl

/-! an entry -/
structure EntS where
  v : Nat
  o : ByteArray
  r : ByteArray
  h : Int
  p : ByteArray
def EntS.err (x : EntS) : Int := if x.v < 1 ∨ 4294967295 < x.v then 13 else if pubOk x.o x.r x.h ∧ x.p.size = 16 then 0 else 10
def EntS.bytes (x : EntS) : List UInt8 := be x.v 4 ++ (pubB x.o x.r x.h ++ x.p.data.toList)
def EntS.enc (x : EntS) : ByteArray := if x.err = 0 then str x.bytes else ⟨#[]⟩
def EntS.value (x : EntS) : ByteArray := if x.err = 0 then tagS 12 [str x.bytes] else ⟨#[]⟩
theorem EntS.fit {x : EntS} (h : x.err = 0) : (1 ≤ x.v ∧ x.v ≤ 4294967295) ∧ pubOk x.o x.r x.h ∧ x.p.size = 16 := by
  unfold EntS.err at h
  split at h
  · omega
  · split at h
    · exact ⟨by omega, by assumption⟩
    · omega
theorem EntS.of_fit {x : EntS} (h : (1 ≤ x.v ∧ x.v ≤ 4294967295) ∧ pubOk x.o x.r x.h ∧ x.p.size = 16) : x.err = 0 := by
  unfold EntS.err
  rw [if_neg (by omega), if_pos h.2]
/-- what the Writer holds, where the key has bytes -/
def entW (v : Nat) (k p : ByteArray) : WSt := (((⟨[], 0⟩ : WSt).num v 4).fixed k 33).fixed p 16
theorem pubB_len {o r : ByteArray} {h : Int} (k : pubOk o r h) : (pubB o r h).length = 33 := by
  obtain ⟨_, h1, h2⟩ := k
  unfold pubB
  rw [List.length_append, List.length_append, be_length, Array.length_toList, Array.length_toList]
  show o.size + (r.size + 1) = 33
  omega
theorem EntS.len {x : EntS} (h : x.err = 0) : x.bytes.length = 53 := by
  obtain ⟨_, h2, h3⟩ := EntS.fit h
  unfold EntS.bytes
  rw [List.length_append, List.length_append, be_length, pubB_len h2, Array.length_toList]
  show 4 + (33 + x.p.size) = 53
  omega
theorem entW_total (v : Nat) (k p : ByteArray) : total (entW v k p).ts ≤ p.size + (k.size + 8) := by
  have h1 := total_fixed (((⟨[], 0⟩ : WSt).num v 4).fixed k 33) p 16
  have h2 := total_fixed ((⟨[], 0⟩ : WSt).num v 4) k 33
  have h3 := total_num (⟨[], 0⟩ : WSt) v 4
  have h4 : total (⟨[], 0⟩ : WSt).ts = 0 := rfl
  unfold entW
  omega
theorem entW_ans (x : EntS) (hv : 1 ≤ x.v ∧ x.v ≤ 4294967295) (hk : pubOk x.o x.r x.h) : (entW x.v (str (pubB x.o x.r x.h)) x.p).ans = x.enc ∧ (entW x.v (str (pubB x.o x.r x.h)) x.p).err = x.err := by
  have hn : (⟨[], 0⟩ : WSt).num x.v 4 = ⟨[str (be x.v 4)], 0⟩ := by
    unfold WSt.num
    rw [if_pos ⟨by omega, by omega, by show x.v < 4294967296; omega⟩]
    rfl
  have hf : (⟨[str (be x.v 4)], 0⟩ : WSt).fixed (str (pubB x.o x.r x.h)) 33 = ⟨[str (pubB x.o x.r x.h), str (be x.v 4)], 0⟩ := by
    unfold WSt.fixed
    rw [str_size, pubB_len hk, if_pos (by rfl)]
    rfl
  unfold entW
  rw [hn, hf]
  by_cases hp : x.p.size = 16
  · have he : x.err = 0 := EntS.of_fit ⟨hv, hk, hp⟩
    unfold WSt.fixed EntS.enc
    rw [if_pos (by omega), he]
    refine ⟨?_, rfl⟩
    unfold WSt.ans
    simp only [WSt.put, if_true]
    simp [flat, EntS.bytes, str]
  · have he : x.err = 10 := by
      unfold EntS.err
      rw [if_neg (by omega), if_neg (fun q => hp q.2)]
    unfold WSt.fixed EntS.enc
    rw [if_neg (by omega), he]
    refine ⟨?_, rfl⟩
    unfold WSt.ans
    simp [WSt.fail]
theorem EntS.not_pub {x : EntS} (hv : 1 ≤ x.v ∧ x.v ≤ 4294967295) (hk : ¬ pubOk x.o x.r x.h) : x.err = 10 ∧ x.enc = ⟨#[]⟩ := by
  have he : x.err = 10 := by
    unfold EntS.err
    rw [if_neg (by omega), if_neg (fun q => hk q.1)]
  refine ⟨he, ?_⟩
  unfold EntS.enc
  rw [he]
  rfl
theorem EntS.not_ver {x : EntS} (hv : x.v < 1 ∨ 4294967295 < x.v) : x.err = 13 ∧ x.enc = ⟨#[]⟩ := by
  have he : x.err = 13 := by
    unfold EntS.err
    rw [if_pos hv]
  refine ⟨he, ?_⟩
  unfold EntS.enc
  rw [he]
  rfl
theorem EntS.value_size {x : EntS} (h : x.err = 0) : x.value.size = 16 := by
  unfold EntS.value
  rw [if_pos h]
  exact tagS_size _ _
theorem EntS.value_empty (x : EntS) : x.value.size = 0 ↔ x.err ≠ 0 := by
  constructor
  · intro h e
    rw [EntS.value_size e] at h
    cases h
  · intro h
    unfold EntS.value
    rw [if_neg h]
    rfl
/-- may an entry follow another one? -/
def EntS.next (x y : EntS) : Int := if y.v = 0 ∨ y.v - 1 ≠ x.v then 13 else if x.err ≠ 0 ∨ y.p ≠ x.value then 15 else 0
def noughtsS : ByteArray := ⟨#[0, 0, 0, 0, 0, 0, 0, 0, 0, 0, 0, 0, 0, 0, 0, 0]⟩
/-- each one and the one behind it -/
def chainE : List EntS → Int
  | [] => 0
  | [_] => 0
  | x :: y :: l => if x.next y ≠ 0 then x.next y else chainE (y :: l)
def histE : List EntS → Int
  | [] => 20
  | x :: l => if x.v ≠ 1 then 13 else if x.p ≠ noughtsS then 15 else chainE (x :: l)

/-- what is read of bytes, as an entry -/
structure DecE where
  v : Nat
  k : ByteArray
  p : ByteArray
  s : RSt
def decE (s : ByteArray) : DecE :=
  let a := (⟨s, 0⟩ : RSt).num 4
  let b := a.2.fixed 33
  let c := b.2.fixed 16
  ⟨a.1, b.1, c.1, c.2⟩
def DecE.err (d : DecE) : Int := if d.s.done ≠ 0 then d.s.done else if (decP d.k).err ≠ 0 then (decP d.k).err else if d.v < 1 then 13 else 0
def DecE.ent (d : DecE) : EntS := if d.err = 0 then ⟨d.v, (decP d.k).o, (decP d.k).r, (decP d.k).h, d.p⟩ else ⟨0, ⟨#[]⟩, ⟨#[]⟩, 0, ⟨#[]⟩⟩
theorem decE_53 (l : List UInt8) (hl : l.length = 53) : decE (str l) = ⟨val (l.take 4), str ((l.drop 4).take 33), str (l.drop 37), ⟨str [], 0⟩⟩ := by
  have h1 := num_of (⟨str l, 0⟩ : RSt) 4 (by omega)
  rw [rd_take l 4 (by omega)] at h1
  have h2 := rd_take (l.drop 4) 33 (by simp; omega)
  have h3 := rd_take ((l.drop 4).drop 33) 16 (by simp; omega)
  have h1' : (⟨str l, 0⟩ : RSt).num 4 = (val (str (l.take 4)).data.toList, ⟨str (l.drop 4), 0⟩) := h1
  have h2' : (⟨str (l.drop 4), 0⟩ : RSt).fixed 33 = (str ((l.drop 4).take 33), ⟨str ((l.drop 4).drop 33), 0⟩) := h2
  have h3' : (⟨str ((l.drop 4).drop 33), 0⟩ : RSt).fixed 16 = (str (((l.drop 4).drop 33).take 16), ⟨str (((l.drop 4).drop 33).drop 16), 0⟩) := h3
  have e1 : ((l.drop 4).drop 33).take 16 = l.drop 37 := by rw [List.drop_drop]; exact List.take_of_length_le (by simp; omega)
  have e2 : ((l.drop 4).drop 33).drop 16 = [] := by rw [List.drop_drop, List.drop_drop]; exact List.drop_of_length_le (by omega)
  rw [e1, e2] at h3'
  unfold decE
  rw [h1']
  simp only
  rw [h2']
  simp only
  rw [h3']
  rfl
theorem decE_less (l : List UInt8) (hl : l.length < 53) : (decE (str l)).err = 3 := by
  have key : (decE (str l)).s.err = 3 := by
    have h1 := num_of (⟨str l, 0⟩ : RSt) 4 (by omega)
    have h1' : (⟨str l, 0⟩ : RSt).num 4 = (val ((⟨str l, 0⟩ : RSt).fixed (4 : Nat)).1.data.toList, ((⟨str l, 0⟩ : RSt).fixed (4 : Nat)).2) := h1
    unfold decE
    rw [h1']
    simp only
    by_cases c1 : l.length < 4
    · rw [rd_less l 4 c1]
      simp only
      rw [rd_err (str l) 3 (by decide)]
      simp only
      rw [rd_err (str l) 3 (by decide)]
    · rw [rd_take l 4 (by omega)]
      simp only
      by_cases c2 : l.length < 37
      · have h2 := rd_less (l.drop 4) 33 (by simp; omega)
        have h2' : (⟨str (l.drop 4), 0⟩ : RSt).fixed 33 = _ := h2
        rw [h2']
        simp only
        rw [rd_err _ _ (by decide)]
      · have h2 := rd_take (l.drop 4) 33 (by simp; omega)
        have h2' : (⟨str (l.drop 4), 0⟩ : RSt).fixed 33 = _ := h2
        have h3 := rd_less ((l.drop 4).drop 33) 16 (by simp; omega)
        have h3' : (⟨str ((l.drop 4).drop 33), 0⟩ : RSt).fixed 16 = _ := h3
        rw [h2']
        simp only
        rw [h3']
  have hd : (decE (str l)).s.done = 3 := by
    unfold RSt.done
    rw [key]
    rfl
  unfold DecE.err
  rw [hd]
  rfl
theorem decE_more (l : List UInt8) (hl : 53 < l.length) : (decE (str l)).err = 2 := by
  have h1 := num_of (⟨str l, 0⟩ : RSt) 4 (by omega)
  rw [rd_take l 4 (by omega)] at h1
  have h2 := rd_take (l.drop 4) 33 (by simp; omega)
  have h3 := rd_take ((l.drop 4).drop 33) 16 (by simp; omega)
  have h1' : (⟨str l, 0⟩ : RSt).num 4 = (val (str (l.take 4)).data.toList, ⟨str (l.drop 4), 0⟩) := h1
  have h2' : (⟨str (l.drop 4), 0⟩ : RSt).fixed 33 = (str ((l.drop 4).take 33), ⟨str ((l.drop 4).drop 33), 0⟩) := h2
  have h3' : (⟨str ((l.drop 4).drop 33), 0⟩ : RSt).fixed 16 = (str (((l.drop 4).drop 33).take 16), ⟨str (((l.drop 4).drop 33).drop 16), 0⟩) := h3
  have hd : (decE (str l)).s.done = 2 := by
    unfold decE
    rw [h1']
    simp only
    rw [h2']
    simp only
    rw [h3']
    unfold RSt.done
    rw [if_pos]
    refine ⟨rfl, ?_⟩
    show (((l.drop 4).drop 33).drop 16).length ≠ 0
    simp
    omega
  unfold DecE.err
  rw [hd]
  rfl
theorem done_nil : (⟨str [], 0⟩ : RSt).done = 0 := by
  unfold RSt.done
  rw [if_neg (fun q => q.2 rfl)]
/-- bytes of the right length -/
theorem decE_right (l : List UInt8) (hl : l.length = 53) : (decE (str l)).err = if 6 < val ((l.drop 36).take 1) then 4 else if val (l.take 4) < 1 then 13 else 0 := by
  unfold DecE.err
  rw [decE_53 l hl]
  simp only
  rw [done_nil, decP_33 _ (by simp; omega)]
  unfold DecP.err
  simp only
  rw [done_nil]
  have e : ((l.drop 4).take 33).drop 32 = (l.drop 36).take 1 := by rw [List.drop_take, List.drop_drop]
  rw [e]
  simp only [ne_eq, not_true_eq_false, if_false]
  split
  · simp
  · simp
theorem decE_back (l : List UInt8) (hl : l.length = 53) (he : (decE (str l)).err = 0) : (decE (str l)).ent.err = 0 ∧ (decE (str l)).ent.bytes = l := by
  have hr := decE_right l hl
  rw [he] at hr
  have hb := be_val ((l.drop 36).take 1) 1 (by simp; omega)
  have hv := be_val (l.take 4) 4 (by simp; omega)
  have h6 : ¬ 6 < val ((l.drop 36).take 1) := by intro h; rw [if_pos h] at hr; cases hr
  have h1 : ¬ val (l.take 4) < 1 := by intro h; rw [if_neg h6, if_pos h] at hr; cases hr
  have hlt : val (l.take 4) < 256 ^ 4 := by
    have := val_lt (l.take 4)
    rwa [List.length_take, Nat.min_eq_left (by omega)] at this
  have e : ((l.drop 4).take 33).drop 32 = (l.drop 36).take 1 := by rw [List.drop_take, List.drop_drop]
  unfold DecE.ent
  rw [if_pos he, decE_53 l hl]
  simp only
  rw [decP_33 _ (by simp; omega), e]
  have q1 : (((l.drop 4).take 33).take 16).length = 16 := by simp; omega
  have q2 : ((((l.drop 4).take 33).drop 16).take 16).length = 16 := by simp; omega
  refine ⟨EntS.of_fit ⟨⟨by show 1 ≤ val (l.take 4); omega, by show val (l.take 4) ≤ 4294967295; omega⟩, ⟨⟨by show (0 : Int) ≤ ((val ((l.drop 36).take 1) : Nat) : Int); omega, by show ((val ((l.drop 36).take 1) : Nat) : Int) ≤ 6; omega⟩, q1, q2⟩, ?_⟩, ?_⟩
  · show (l.drop 37).length = 16
    simp
    omega
  · show be (val (l.take 4)) 4 ++ ((((l.drop 4).take 33).take 16 ++ ((((l.drop 4).take 33).drop 16).take 16 ++ be (val ((l.drop 36).take 1)) 1)) ++ l.drop 37) = l
    rw [hb, hv]
    have t1 : ((l.drop 4).take 33).take 16 ++ ((((l.drop 4).take 33).drop 16).take 16 ++ (l.drop 36).take 1) = (l.drop 4).take 33 := by
      rw [← e]
      have : ((l.drop 4).take 33).drop 32 = (((l.drop 4).take 33).drop 16).drop 16 := by rw [List.drop_drop]
      rw [this, List.take_append_drop, List.take_append_drop]
    rw [t1]
    have t2 : (l.drop 4).drop 33 = l.drop 37 := by rw [List.drop_drop]
    rw [← t2, List.take_append_drop, List.take_append_drop]
theorem str_inj {a b : List UInt8} (h : str a = str b) : a = b := by
  have := congrArg (fun x : ByteArray => x.data.toList) h
  simpa [str] using this
theorem text_str (t : ByteArray) : str t.data.toList = t := by apply ByteArray.ext; simp [str]
theorem be_inj {a b k : Nat} (ha : a < 256 ^ k) (hb : b < 256 ^ k) (h : be a k = be b k) : a = b := by
  rw [← val_be a k ha, h, val_be b k hb]
/-- an entry that was written is read -/
theorem decE_enc (x : EntS) (h : x.err = 0) : (decE x.enc).err = 0 ∧ (decE x.enc).ent = x := by
  have hl := EntS.len h
  have hx : x.enc = str x.bytes := by unfold EntS.enc; rw [if_pos h]
  obtain ⟨⟨v1, v2⟩, ⟨⟨k1, k2⟩, k3, k4⟩, k5⟩ := EntS.fit h
  have hb3 : x.bytes = be x.v 4 ++ (x.o.data.toList ++ (x.r.data.toList ++ (be x.h.toNat 1 ++ x.p.data.toList))) := by unfold EntS.bytes pubB; simp only [List.append_assoc]
  have lo : x.o.data.toList.length = 16 := by rw [Array.length_toList]; exact k3
  have lr : x.r.data.toList.length = 16 := by rw [Array.length_toList]; exact k4
  have e1 : x.bytes.take 4 = be x.v 4 := by rw [hb3, List.take_append_of_le_length (by rw [be_length]; omega), List.take_of_length_le (by rw [be_length]; omega)]
  have d4 : x.bytes.drop 4 = x.o.data.toList ++ (x.r.data.toList ++ (be x.h.toNat 1 ++ x.p.data.toList)) := by rw [hb3]; exact List.drop_left' (be_length _ _)
  have d36 : x.bytes.drop 36 = be x.h.toNat 1 ++ x.p.data.toList := by
    have : x.bytes.drop 36 = ((x.bytes.drop 4).drop 16).drop 16 := by rw [List.drop_drop, List.drop_drop]
    rw [this, d4, List.drop_left' lo, List.drop_left' lr]
  have e2 : (x.bytes.drop 36).take 1 = be x.h.toNat 1 := by rw [d36, List.take_append_of_le_length (by rw [be_length]; omega), List.take_of_length_le (by rw [be_length]; omega)]
  have vv : val (be x.v 4) = x.v := val_be _ _ (by show x.v < 4294967296; omega)
  have vh : val (be x.h.toNat 1) = x.h.toNat := val_be _ _ (by show x.h.toNat < 256; omega)
  have he : (decE x.enc).err = 0 := by
    rw [hx, decE_right _ hl, e1, e2, vv, vh, if_neg (by omega), if_neg (by omega)]
  refine ⟨he, ?_⟩
  rw [hx] at he ⊢
  unfold DecE.ent
  rw [if_pos he, decE_53 _ hl]
  simp only
  rw [decP_33 _ (by simp; omega)]
  have e : ((x.bytes.drop 4).take 33).drop 32 = (x.bytes.drop 36).take 1 := by rw [List.drop_take, List.drop_drop]
  have eo : ((x.bytes.drop 4).take 33).take 16 = x.o.data.toList := by
    rw [List.take_take, d4, show min 16 33 = 16 from rfl, List.take_append_of_le_length (by omega), List.take_of_length_le (by omega)]
  have er : (((x.bytes.drop 4).take 33).drop 16).take 16 = x.r.data.toList := by
    rw [List.drop_take, List.take_take, d4, List.drop_left' lo, show min 16 (33 - 16) = 16 from rfl, List.take_append_of_le_length (by omega), List.take_of_length_le (by omega)]
  have ep : x.bytes.drop 37 = x.p.data.toList := by
    have : x.bytes.drop 37 = (x.bytes.drop 36).drop 1 := by rw [List.drop_drop]
    rw [this, d36]
    exact List.drop_left' (be_length _ _)
  simp only
  rw [e, e1, e2, vv, vh, eo, er, ep, text_str, text_str, text_str]
  have : ((x.h.toNat : Nat) : Int) = x.h := by omega
  rw [this]
end Go.Proofs.YtgaenpbdfelhhaaDoor

namespace Go.Proofs.YtgaenpbdfelhhaaDoor
open Go.RowKit
attribute [local irreducible] shaL

theorem wr_numS {w : World} {b : Nat} {st : WSt} (n : Nat) (hn : n ≤ 18446744073709551615) (k : Int) (h : WrAt w b st) (hr : total st.ts ≤ 1000000000) :
    Calls Tryd.prog 41 #[.pointer (some ⟨b, 0, none⟩), .int .u64 n, .int .i64 k] w fun e w' => e = .returned (.pointer (some ⟨b, 0, none⟩)) ∧ WrAt w' b (st.num n k) ∧ w.grownBy w' (some b) := by
  refine (wnum_any n hn k w (some ⟨b, 0, none⟩) (some st) ⟨b, rfl, h⟩ (fun x e => by cases e; omega)).mono ?_
  rintro e w' ⟨rfl, hw, g⟩
  obtain ⟨b', e', hw⟩ := hw
  cases e'
  exact ⟨rfl, hw, g⟩
theorem wr_fixedS {w : World} {b : Nat} {st : WSt} (s : ByteArray) (k : Int) (h : WrAt w b st) (hr : s.size + total st.ts ≤ 1000000000) :
    Calls Tryd.prog 42 #[.pointer (some ⟨b, 0, none⟩), .string s, .int .i64 k] w fun e w' => e = .returned (.pointer (some ⟨b, 0, none⟩)) ∧ WrAt w' b (st.fixed s k) ∧ w.grownBy w' (some b) := by
  refine (wfixed_any s k w (some ⟨b, 0, none⟩) (some st) ⟨b, rfl, h⟩ (fun x e => by cases e; omega)).mono ?_
  rintro e w' ⟨rfl, hw, g⟩
  obtain ⟨b', e', hw⟩ := hw
  cases e'
  exact ⟨rfl, hw, g⟩
theorem wr_bytesS {w : World} {b : Nat} {st : WSt} (h : WrAt w b st) (hr : total st.ts ≤ 1000000000) :
    Calls Tryd.prog 43 #[.pointer (some ⟨b, 0, none⟩)] w fun e w' => e = .returned (.tuple #[.string st.ans, .int .i64 st.err]) ∧ w.grownBy w' none := by
  by_cases he : st.err = 0
  · obtain ⟨ts, err⟩ := st
    have he' : err = 0 := he
    subst he'
    exact bytes_ok w b ts h (Nat.le_trans hr (by decide))
  · refine (bytes_err w b st h he).mono ?_
    rintro e w' ⟨rfl, g⟩
    refine ⟨?_, g⟩
    unfold WSt.ans
    rw [if_neg he]
    rfl
end Go.Proofs.YtgaenpbdfelhhaaDoor

namespace Go.Proofs.YtgaenpbdfelhhaaDoor
open Go.RowKit

theorem rd_numS {w : World} {b : Nat} {s : RSt} (k : Int) (h : RdAt w b s.rest s.err) (hm : s.rest.size ≤ maxLen) :
    Calls Tryd.prog 49 #[.pointer (some ⟨b, 0, none⟩), .int .i64 k] w fun e w' => e = .returned (.int .u64 (s.num k).1) ∧ RdAt w' b (s.num k).2.rest (s.num k).2.err ∧ w.grownBy w' (some b) := by
  refine (rnum_any k w (some ⟨b, 0, none⟩) (some s) ⟨b, rfl, h⟩ (by rintro x ⟨⟩; exact hm)).mono ?_
  rintro e w' ⟨rfl, hw, g⟩
  obtain ⟨b', e', hw⟩ := hw
  cases e'
  exact ⟨rfl, hw, g⟩
theorem rd_fixedS {w : World} {b : Nat} {s : RSt} (k : Int) (h : RdAt w b s.rest s.err) (hm : s.rest.size ≤ maxLen) :
    Calls Tryd.prog 50 #[.pointer (some ⟨b, 0, none⟩), .int .i64 k] w fun e w' => e = .returned (.string (s.fixed k).1) ∧ RdAt w' b (s.fixed k).2.rest (s.fixed k).2.err ∧ w.grownBy w' (some b) := by
  refine (rfixed_any k w (some ⟨b, 0, none⟩) (some s) ⟨b, rfl, h⟩ (by rintro x ⟨⟩; exact hm)).mono ?_
  rintro e w' ⟨rfl, hw, g⟩
  obtain ⟨b', e', hw⟩ := hw
  cases e'
  exact ⟨rfl, hw, g⟩
theorem rd_endS {w : World} {b : Nat} {s : RSt} (h : RdAt w b s.rest s.err) :
    Calls Tryd.prog 51 #[.pointer (some ⟨b, 0, none⟩)] w fun e w' => e = .returned (.int .i64 s.done) ∧ w = w' :=
  end_any w (some ⟨b, 0, none⟩) (some s) ⟨b, rfl, h⟩
end Go.Proofs.YtgaenpbdfelhhaaDoor

namespace Go.Proofs.YtgaenpbdfelhhaaDoor
open Go.RowKit
attribute [local irreducible] shaL

theorem grown_row {a b c : World} {row : Option Nat} (h : a.grownBy b none) (k : b.grownBy c row) (hn : ∀ g, row = some g → a.heap.size ≤ g) : a.grownBy c none :=
  ⟨k.os.trans h.os, k.tape.trans h.tape, k.output.trans h.output, Nat.le_trans h.size k.size, fun i hi hne => (k.block i (Nat.lt_of_lt_of_le hi h.size) (by intro e; have := hn i e.symm; omega)).trans (h.block i hi hne)⟩
theorem ShaReady.grown {w w' : World} (h : ShaReady w) (hg : w.grownBy w' none) : ShaReady w' := h.kept hg (by simp) (by simp)

/-- sha.Tagged of texts in a new block -/
theorem tagged_new (w : World) (tag : UInt8) (L : List ByteArray) (vs : List Value) (n : Nat) (tg : Int) (hv : vs = L.map Value.string) (hn : n = L.length) (ht : (tag.toNat : Int) = tg) (hr : ShaReady w) (hN : L.length ≤ 1000) (hs : ∀ s ∈ L, s.size ≤ 1000000000000) :
    Calls Tryd.prog 45 #[.int .u8 tg, .slice (some ⟨w.heap.size, 0, none⟩) n n] (w.alloc (.cells vs.toArray 9)) fun e w' => e = .returned (.string (tagS tag L)) ∧ w.grownBy w' none := by
  subst hv
  subst ht
  refine (tagged_any _ tag _ L (strs_new w L 9 n hn) (hr.grown (World.grownBy_alloc _ _ _)) (by unfold maxLen; omega) ?_).mono fun e w' h => ⟨h.1, grownBy_trans (World.grownBy_alloc _ _ _) h.2⟩
  have := tagB_length tag L _ hs
  have h2 : L.length * (4 + 1000000000000) ≤ 1000 * (4 + 1000000000000) := Nat.mul_le_mul_right _ hN
  omega

end Go.Proofs.YtgaenpbdfelhhaaDoor

namespace Go.Proofs.YtgaenpbdfelhhaaDoor
open Go.RowKit
attribute [local irreducible] shaL

theorem hmb_any (h : Int) (w : World) :
    Calls Tryd.prog 64 #[.int .i64 h] w fun e w' => e = .returned (.bool (decide (0 ≤ h ∧ h ≤ 6))) ∧ w = w' := by
  by_cases h1 : 0 ≤ h
  · by_cases h2 : h ≤ 6
    · rw [decide_eq_true (show 0 ≤ h ∧ h ≤ 6 from ⟨h1, h2⟩)]
      go_enter Tryd.func64, Tryd.ntmps64
      go_wp2_with fail
      go_ret
      exact ⟨rfl, rfl⟩
    · rw [decide_eq_false (show ¬ (0 ≤ h ∧ h ≤ 6) from fun q => h2 q.2)]
      go_enter Tryd.func64, Tryd.ntmps64
      go_wp2_with fail
      go_ret
      exact ⟨rfl, rfl⟩
  · rw [decide_eq_false (show ¬ (0 ≤ h ∧ h ≤ 6) from fun q => h1 q.1)]
    go_enter Tryd.func64, Tryd.ntmps64
    go_wp2_with fail
    go_ret
    exact ⟨rfl, rfl⟩

def pubZ (o r : ByteArray) (h : Int) : Value := .agg #[.string o, .string r, .int .i64 h]
theorem pubErr_out {o r : ByteArray} {h : Int} (k : ¬ (0 ≤ h ∧ h ≤ 6)) : pubErr o r h = 10 ∧ pubEnc o r h = ⟨#[]⟩ := by
  have : ¬ pubOk o r h := fun q => k q.1
  unfold pubErr pubEnc
  rw [if_neg this, if_neg this]
  exact ⟨rfl, rfl⟩
/-- a struct of three cells in a block: its cells -/
theorem cells3 {w : World} {b : Nat} {t : TypeId} {a0 a1 a2 : Value} (h : w.heap[b]? = some (.cells #[a0, a1, a2] t (0, 0))) : w.cell? ⟨b, 0, none⟩ = some a0 ∧ w.cell? ⟨b, 1, none⟩ = some a1 ∧ w.cell? ⟨b, 2, none⟩ = some a2 := by
  refine ⟨?_, ?_, ?_⟩ <;> rw [cell_of h] <;> rfl
set_option maxRecDepth 100000 in
set_option maxHeartbeats 1600000 in
theorem pencode_any (o r : ByteArray) (h : Int) (ho : o.size ≤ 100000) (hr : r.size ≤ 100000) (w : World) :
    Calls Tryd.prog 40 #[pubZ o r h] w fun e w' => e = .returned (.tuple #[.string (pubEnc o r h), .int .i64 (pubErr o r h)]) ∧ w.grownBy w' none := by
  unfold pubZ
  have hb0 := heap_alloc_at w (.cells #[.string o, .string r, .int .i64 h] 50) _ rfl
  have hg0 : w.grownBy (w.alloc (.cells #[.string o, .string r, .int .i64 h] 50)) none := World.grownBy_alloc _ _ _
  obtain ⟨W0, hW0⟩ : ∃ W0, w.alloc (.cells #[.string o, .string r, .int .i64 h] 50) = W0 := ⟨_, rfl⟩
  rw [hW0] at hb0 hg0
  obtain ⟨x0, x1, x2⟩ := cells3 hb0
  have HB0 := Lib.hid hb0
  have HG0 := Lib.hid hg0
  have HW0 := Lib.hid hW0
  clear hb0 hg0 hW0
  by_cases hh : 0 ≤ h ∧ h ≤ 6
  · obtain ⟨k, rfl⟩ := Int.eq_ofNat_of_zero_le hh.1
    have hk : k ≤ 6 := by omega
    have HM : Hid (∀ w0 : World, Calls Tryd.prog 64 #[.int .i64 k] w0 fun e w' => e = .returned (.bool true) ∧ w0 = w') := fun w0 => by
      have := hmb_any k w0
      rwa [decide_eq_true hh] at this
    have HA := Lib.hid (pubW_ans o r k hk)
    have HSZ := Lib.hid (And.intro ho hr)
    have c1 : IntKind.u64.wrap (k : Int) = (k : Int) := wrap_u64 k (by omega)
    clear hh ho hr
    go_enter Tryd.func40, Tryd.ntmps40
    go_wp2_with (rw [HW0.out])
    refine (HM.out _).mono ?_
    rintro e w1 ⟨rfl, hw1⟩
    subst hw1
    have hWB : WrAt (W0.alloc (.cells #[.pointer none, .int .i64 0, .int .i64 0] 82)) W0.heap.size ⟨[], 0⟩ := ⟨.pointer none, heap_alloc_at W0 _ _ rfl, rfl⟩
    have hg1 : W0.grownBy (W0.alloc (.cells #[.pointer none, .int .i64 0, .int .i64 0] 82)) none := World.grownBy_alloc _ _ _
    have hb1 := hg1.heap HB0.out (by simp)
    obtain ⟨XB, hXB⟩ : ∃ XB, w.heap.size = XB := ⟨_, rfl⟩
    obtain ⟨WB, hWBn⟩ : ∃ WB, W0.heap.size = WB := ⟨_, rfl⟩
    obtain ⟨W1, hW1⟩ : ∃ W1, W0.alloc (.cells #[.pointer none, .int .i64 0, .int .i64 0] 82) = W1 := ⟨_, rfl⟩
    have hlt : w.heap.size < W0.heap.size := (Array.getElem?_eq_some_iff.1 HB0.out).1
    rw [hW1] at hWB hg1 hb1
    rw [hWBn] at hWB hlt
    rw [hXB] at hb1 hlt x0 x1 x2 ⊢
    have HLT := Lib.hid hlt
    have HX := Lib.hid hXB
    have HG1 := Lib.hid (grownBy_trans HG0.out hg1)
    have HWBn := Lib.hid hWBn
    have HW1 := Lib.hid hW1
    have HWR := Lib.hid hWB
    obtain ⟨y0, y1, y2⟩ := cells3 hb1
    have hne2 : ∀ (w' w'' : World) (o : Nat) (u : Value), w'.grownBy w'' (some WB) → w'.cell? ⟨XB, o, none⟩ = some u → w''.cell? ⟨XB, o, none⟩ = some u := fun w' w'' o u g h => g.cell h (fun e => by have := HLT.out; simp at e; omega)
    have HNE := Lib.hid hne2
    have hnew : ∀ g, some WB = some g → w.heap.size ≤ g := fun g e => by cases e; have := HLT.out; have := HX.out; omega
    have HNEW := Lib.hid hnew
    have t0 : total (⟨[], 0⟩ : WSt).ts = 0 := rfl
    have t1 := total_fixed (⟨[], 0⟩ : WSt) o 16
    have t2 := total_fixed ((⟨[], 0⟩ : WSt).fixed o 16) r 16
    have t3 := pubW_total o r k
    have hF1 := fun (w' : World) (q : WrAt w' WB ⟨[], 0⟩) => wr_fixedS o 16 q (by have := HSZ.out; omega)
    have hF2 := fun (w' : World) (q : WrAt w' WB ((⟨[], 0⟩ : WSt).fixed o 16)) => wr_fixedS r 16 q (by have := HSZ.out; omega)
    have hN := fun (w' : World) (q : WrAt w' WB (((⟨[], 0⟩ : WSt).fixed o 16).fixed r 16)) => wr_numS k (by omega) 1 q (by have := HSZ.out; omega)
    have hBY := fun (w' : World) (q : WrAt w' WB (pubW o r k)) => wr_bytesS q (by have := HSZ.out; omega)
    have hpw : (((⟨[], 0⟩ : WSt).fixed o 16).fixed r 16).num k 1 = pubW o r k := rfl
    rw [hpw] at hN
    have HF1 := Lib.hid hF1
    have HF2 := Lib.hid hF2
    have HN := Lib.hid hN
    rw [HA.out.1, HA.out.2] at hBY
    have HBY := Lib.hid hBY
    clear hWB hg1 hb1 hXB hWBn hW1 hlt hne2 hnew t0 t1 t2 t3 hF1 hF2 hN hBY hpw x0 x1 x2
    go_wp2_with (rw [HW1.out, HWBn.out])
    have hdw : WrAt W1.drew WB ⟨[], 0⟩ := HWR.out.grown (grownBy_drew (World.grownBy.refl _ _))
    go_region_held3 (fun w' => w'.cell? ⟨XB, 0, none⟩ = some (.string o) ∧ w'.cell? ⟨XB, 1, none⟩ = some (.string r)) (first | exact ck | exact ⟨y0, y1⟩)
      (first
      | (go_at_call 42; (with_reducible refine (HF1.out _ hdw).mono ?_); rintro e w3 ⟨rfl, hw3, g3⟩; have ck := And.intro (HNE.out _ _ _ _ g3 y0) (HNE.out _ _ _ _ g3 y1))
      | (go_at_call 42; (with_reducible refine (HF2.out _ hw3).mono ?_); rintro e w4 ⟨rfl, hw4, g4⟩; have ck := And.intro (HNE.out _ _ _ _ g4 ck.1) (HNE.out _ _ _ _ g4 ck.2)))
    have z2 := HNE.out _ _ _ _ g4 (HNE.out _ _ _ _ g3 y2)
    have HG4 := Lib.hid (grown_row (grown_row (grownBy_drew HG1.out) g3 HNEW.out) g4 HNEW.out)
    have HW4 := Lib.hid hw4
    clear ck g3 g4 hw3 hw4
    go_wp2_with fail
    refine (HN.out _ HW4.out).mono ?_
    rintro e w5 ⟨rfl, hw5, g5⟩
    have HW5 := Lib.hid hw5
    have HG5 := Lib.hid (grown_row HG4.out g5 HNEW.out)
    clear hw5 g5
    go_wp2_with fail
    refine (HBY.out _ HW5.out).mono ?_
    rintro e w6 ⟨rfl, g6⟩
    have HG6 := Lib.hid (grownBy_trans HG5.out g6)
    clear g6
    go_wp2_with fail
    go_returns
    exact ⟨rfl, HG6.out⟩
  · have HM : Hid (∀ w0 : World, Calls Tryd.prog 64 #[.int .i64 h] w0 fun e w' => e = .returned (.bool false) ∧ w0 = w') := fun w0 => by
      have := hmb_any h w0
      rwa [decide_eq_false hh] at this
    obtain ⟨h1, h2⟩ := pubErr_out (o := o) (r := r) hh
    rw [h1, h2]
    clear h1 h2 hh ho hr x0 x1
    go_enter Tryd.func40, Tryd.ntmps40
    go_wp2_with (rw [HW0.out])
    refine (HM.out _).mono ?_
    rintro e w1 ⟨rfl, hw1⟩
    subst hw1
    go_wp2_with fail
    go_returns
    exact ⟨rfl, HG0.out⟩

/-! DecodePublic -/
theorem heap3 {w : World} {n : Nat} {a0 a1 a2 : Value} {t : TypeId} (h : w.heap[n]? = some (.cells #[a0, a1, a2] t (0, 0))) (v0 v1 v2 : Value) :
    (((w.setCell ⟨n, 0, none⟩ v0).setCell ⟨n, 1, none⟩ v1).setCell ⟨n, 2, none⟩ v2).heap[n]? = some (.cells #[v0, v1, v2] t (0, 0)) :=
  (heap_setCell (heap_setCell (heap_setCell h 0 v0) 1 v1) 2 v2).trans rfl
theorem grown3 (w : World) (n : Nat) (v0 v1 v2 : Value) : w.grownBy (((w.setCell ⟨n, 0, none⟩ v0).setCell ⟨n, 1, none⟩ v1).setCell ⟨n, 2, none⟩ v2) (some n) :=
  grownBy_setCell (grownBy_setCell (grownBy_setCell (World.grownBy.refl w _) 0 _) 1 _) 2 _
theorem results_decodeP {n : Nat} {v0 v1 v2 : Value} {z : Int} {tmps : Array Value} {w : World} (h6 : tmps[2]? = some (.pointer (some ⟨n, 0, none⟩))) (h7 : tmps[3]? = some (.int .i64 z)) (hb : w.heap[n]? = some (.cells #[v0, v1, v2] 50 (0, 0))) :
    (results Tryd.f52 tmps).run Tryd.prog w = .ok (.tuple #[.agg #[v0, v1, v2], .int .i64 z]) w := by
  obtain ⟨c0, c1, c2⟩ := cells3 hb
  simp [results, Tryd.results52, go_sem, h6, h7, c0, c1, c2]
/-- what is told of bytes, as a public key -/
def DecP.val (d : DecP) : Value := if d.err = 0 then pubZ d.o d.r d.h else pubZ ⟨#[]⟩ ⟨#[]⟩ 0
set_option maxRecDepth 100000 in
set_option maxHeartbeats 1600000 in
theorem pdecode_any (s : ByteArray) (hs : s.size ≤ 1000000000) (w : World) :
    Calls Tryd.prog 52 #[.string s] w fun e w' => e = .returned (.tuple #[(decP s).val, .int .i64 (decP s).err]) ∧ w.grownBy w' none := by
  obtain ⟨n, hn⟩ : ∃ n, w.heap.size = n := ⟨_, rfl⟩
  have hr0 := heap_alloc_at w (.cells #[.string ⟨#[]⟩, .string ⟨#[]⟩, .int .i64 0] 50) n hn
  have hg0 : w.grownBy (w.alloc (.cells #[.string ⟨#[]⟩, .string ⟨#[]⟩, .int .i64 0] 50)) none := World.grownBy_alloc _ _ _
  obtain ⟨W0, hW0⟩ : ∃ W0, w.alloc (.cells #[.string ⟨#[]⟩, .string ⟨#[]⟩, .int .i64 0] 50) = W0 := ⟨_, rfl⟩
  rw [hW0] at hr0 hg0
  have hz0 : W0.heap.size = n + 1 := by rw [← hW0, World.size_alloc, hn]
  have hrd := read_any s W0
  rw [hz0] at hrd
  have HRD := Lib.hid hrd
  have HR0 := Lib.hid hr0
  have HG0 := Lib.hid hg0
  have HW0 := Lib.hid hW0
  have HN := Lib.hid hn
  have HH := Lib.hid (decP_h s)
  -- the states
  obtain ⟨s1, hs1⟩ : ∃ x, ((⟨s, 0⟩ : RSt).fixed 16) = x := ⟨_, rfl⟩
  obtain ⟨s2, hs2⟩ : ∃ x, (s1.2.fixed 16) = x := ⟨_, rfl⟩
  obtain ⟨s3, hs3⟩ : ∃ x, (s2.2.num 1) = x := ⟨_, rfl⟩
  have hD : decP s = ⟨s1.1, s2.1, s3.1, s3.2⟩ := by
    unfold decP
    simp only
    rw [hs1, hs2, hs3]
  have hz1 : s1.2.rest.size ≤ 1000000000 := by rw [← hs1]; exact Nat.le_trans (rest_le _ _).2 hs
  have hz2 : s2.2.rest.size ≤ 1000000000 := by rw [← hs2]; exact Nat.le_trans (rest_le _ _).2 hz1
  have HF1 : Hid (∀ w' : World, RdAt w' (n + 1) s 0 → Calls Tryd.prog 50 #[.pointer (some ⟨n + 1, 0, none⟩), .int .i64 16] w' fun e w'' => e = .returned (.string s1.1) ∧ RdAt w'' (n + 1) s1.2.rest s1.2.err ∧ w'.grownBy w'' (some (n + 1))) := fun w' q => by
    have := rd_fixedS (s := ⟨s, 0⟩) 16 q (by show s.size ≤ _; unfold maxLen; omega)
    rwa [hs1] at this
  have HF2 : Hid (∀ w' : World, RdAt w' (n + 1) s1.2.rest s1.2.err → Calls Tryd.prog 50 #[.pointer (some ⟨n + 1, 0, none⟩), .int .i64 16] w' fun e w'' => e = .returned (.string s2.1) ∧ RdAt w'' (n + 1) s2.2.rest s2.2.err ∧ w'.grownBy w'' (some (n + 1))) := fun w' q => by
    have := rd_fixedS (s := s1.2) 16 q (by unfold maxLen; omega)
    rwa [hs2] at this
  have HF3 : Hid (∀ w' : World, RdAt w' (n + 1) s2.2.rest s2.2.err → Calls Tryd.prog 49 #[.pointer (some ⟨n + 1, 0, none⟩), .int .i64 1] w' fun e w'' => e = .returned (.int .u64 s3.1) ∧ RdAt w'' (n + 1) s3.2.rest s3.2.err ∧ w'.grownBy w'' (some (n + 1))) := fun w' q => by
    have := rd_numS (s := s2.2) 1 q (by unfold maxLen; omega)
    rwa [hs3] at this
  have h256 := HH.out
  rw [hD] at h256 ⊢
  have h256 : s3.1 < 256 := h256
  have cv : IntKind.i64.wrap (s3.1 : Int) = (s3.1 : Int) := IntWalk.i64_in _ (by omega)
  obtain ⟨dn, hdn⟩ : ∃ dn, s3.2.done = dn := ⟨_, rfl⟩
  have HE : Hid (∀ w' : World, RdAt w' (n + 1) s3.2.rest s3.2.err → Calls Tryd.prog 51 #[.pointer (some ⟨n + 1, 0, none⟩)] w' fun e w'' => e = .returned (.int .i64 dn) ∧ w' = w'') := fun w' q => by
    have := rd_endS (s := s3.2) q
    rwa [hdn] at this
  have hnew : ∀ g, some (n + 1) = some g → w.heap.size ≤ g := fun g e => by cases e; omega
  have HNEW := Lib.hid hnew
  have HDN := Lib.hid hdn
  have hzero : ∀ (w' : World) (v0 v1 v2 : Value), w.grownBy w' none → w.grownBy (((w'.setCell ⟨n, 0, none⟩ v0).setCell ⟨n, 1, none⟩ v1).setCell ⟨n, 2, none⟩ v2) none := fun w' v0 v1 v2 q => grown_row q (grown3 w' n v0 v1 v2) (fun x e => by have e2 : n = x := Option.some.inj e; have := HN.out; omega)
  have HZERO := Lib.hid hzero
  clear hr0 hg0 hW0 hz0 hrd hn hs hs1 hs2 hs3 hD hz1 hz2 hdn hnew hzero HH
  go_enter Tryd.func52, Tryd.ntmps52
  go_wp2_with (rw [HW0.out, HN.out])
  refine HRD.out.mono ?_
  rintro e w1 ⟨rfl, hrd1, g1⟩
  have HR1 := Lib.hid hrd1
  have HS1 := Lib.hid (And.intro (grownBy_trans HG0.out g1) (g1.heap HR0.out (by simp)))
  clear hrd1 g1 HRD
  go_wp2_with fail
  refine (HF1.out _ HR1.out).mono ?_
  rintro e w2 ⟨rfl, hrd2, g2⟩
  have HR2 := Lib.hid hrd2
  have HS2 := Lib.hid (And.intro (grown_row HS1.out.1 g2 HNEW.out) (g2.heap HS1.out.2 (fun e => by have := Option.some.inj e; omega)))
  clear hrd2 g2 HR1 HS1
  go_wp2_with fail
  refine (HF2.out _ HR2.out).mono ?_
  rintro e w3 ⟨rfl, hrd3, g3⟩
  have HR3 := Lib.hid hrd3
  have HS3 := Lib.hid (And.intro (grown_row HS2.out.1 g3 HNEW.out) (g3.heap HS2.out.2 (fun e => by have := Option.some.inj e; omega)))
  clear hrd3 g3 HR2 HS2
  go_wp2_with fail
  refine (HF3.out _ HR3.out).mono ?_
  rintro e w4 ⟨rfl, hrd4, g4⟩
  have HR4 := Lib.hid hrd4
  have HS4 := Lib.hid (And.intro (grown_row HS3.out.1 g4 HNEW.out) (g4.heap HS3.out.2 (fun e => by have := Option.some.inj e; omega)))
  clear hrd4 g4 HR3 HS3
  go_wp2_with fail
  refine (HE.out _ HR4.out).mono ?_
  rintro e w5 ⟨rfl, hw5⟩
  subst hw5
  obtain ⟨u0, u1, u2⟩ := cells3 HS4.out.2
  have uf : ∀ j, w4.frozen? ⟨n, j, none⟩ = false := fun j => free_of HS4.out.2 j
  by_cases hz : dn = 0
  · have hzb : (dn != 0) = false := by simp [hz]
    have HDZ : Hid (s3.2.done = 0) := HDN.out.trans hz
    clear HDN
    by_cases h6 : s3.1 ≤ 6
    · have HM : Hid (∀ w0 : World, Calls Tryd.prog 64 #[.int .i64 s3.1] w0 fun e w' => e = .returned (.bool true) ∧ w0 = w') := fun w0 => by
        have := hmb_any s3.1 w0
        rwa [decide_eq_true (show (0 : Int) ≤ s3.1 ∧ (s3.1 : Int) ≤ 6 by omega)] at this
      have HER : Hid ((⟨s1.1, s2.1, s3.1, s3.2⟩ : DecP).err = 0) := by
        show (if s3.2.done ≠ 0 then _ else if 6 < s3.1 then (4 : Int) else 0) = 0
        rw [if_neg (by rw [HDZ.out]; simp), if_neg (by omega)]
      go_wp2_with fail
      refine (HM.out _).mono ?_
      rintro e w6 ⟨rfl, hw6⟩
      subst hw6
      go_wp2_with fail
      refine bodyPost_ret (results_decodeP (n := n) (v0 := .string s1.1) (v1 := .string s2.1) (v2 := .int .i64 s3.1) rfl rfl (heap3 HS4.out.2 _ _ _)) rfl ?_
      refine ⟨?_, HZERO.out _ _ _ _ HS4.out.1⟩
      unfold DecP.val
      rw [HER.out]
      rfl
    · have HM : Hid (∀ w0 : World, Calls Tryd.prog 64 #[.int .i64 s3.1] w0 fun e w' => e = .returned (.bool false) ∧ w0 = w') := fun w0 => by
        have := hmb_any s3.1 w0
        rwa [decide_eq_false (show ¬ ((0 : Int) ≤ s3.1 ∧ (s3.1 : Int) ≤ 6) by omega)] at this
      have HER : Hid ((⟨s1.1, s2.1, s3.1, s3.2⟩ : DecP).err = 4) := by
        show (if s3.2.done ≠ 0 then _ else if 6 < s3.1 then (4 : Int) else 0) = 4
        rw [if_neg (by rw [HDZ.out]; simp), if_pos (by omega)]
      go_wp2_with fail
      refine (HM.out _).mono ?_
      rintro e w6 ⟨rfl, hw6⟩
      subst hw6
      go_wp2_with fail
      refine bodyPost_ret (results_decodeP (n := n) (v0 := .string ⟨#[]⟩) (v1 := .string ⟨#[]⟩) (v2 := .int .i64 0) rfl rfl (heap3 HS4.out.2 _ _ _)) rfl ?_
      refine ⟨?_, HZERO.out _ _ _ _ HS4.out.1⟩
      unfold DecP.val
      rw [HER.out]
      rfl
  · have hzb : (dn != 0) = true := by simp [hz]
    have HER : Hid ((⟨s1.1, s2.1, s3.1, s3.2⟩ : DecP).err = dn) := by
      show (if s3.2.done ≠ 0 then _ else if 6 < s3.1 then (4 : Int) else 0) = dn
      rw [HDN.out, if_pos hz]
    have HNZ := Lib.hid hz
    go_wp2_with fail
    refine bodyPost_ret (results_decodeP (n := n) (v0 := .string ⟨#[]⟩) (v1 := .string ⟨#[]⟩) (v2 := .int .i64 0) rfl rfl (heap3 HS4.out.2 _ _ _)) rfl ?_
    refine ⟨?_, HZERO.out _ _ _ _ HS4.out.1⟩
    unfold DecP.val
    rw [HER.out, if_neg HNZ.out]
    rfl
end Go.Proofs.YtgaenpbdfelhhaaDoor

namespace Go.Proofs.YtgaenpbdfelhhaaDoor
open Go.RowKit
attribute [local irreducible] shaL

structure EntS.small (x : EntS) : Prop where
  v : x.v ≤ 18446744073709551615
  o : x.o.size ≤ 100000
  r : x.r.size ≤ 100000
  p : x.p.size ≤ 100000
def EntS.val (x : EntS) : Value := .agg #[.int .u64 x.v, .string x.o, .string x.r, .int .i64 x.h, .string x.p]
def EntS.cells (x : EntS) : List Value := [.int .u64 x.v, .string x.o, .string x.r, .int .i64 x.h, .string x.p]
theorem cells5 {w : World} {b : Nat} {t : TypeId} {a0 a1 a2 a3 a4 : Value} (h : w.heap[b]? = some (.cells #[a0, a1, a2, a3, a4] t (0, 0))) :
    w.cell? ⟨b, 0, none⟩ = some a0 ∧ w.cell? ⟨b, 1, none⟩ = some a1 ∧ w.cell? ⟨b, 2, none⟩ = some a2 ∧ w.cell? ⟨b, 3, none⟩ = some a3 ∧ w.cell? ⟨b, 4, none⟩ = some a4 := by
  refine ⟨?_, ?_, ?_, ?_, ?_⟩ <;> rw [cell_of h] <;> rfl
set_option maxRecDepth 100000 in
set_option maxHeartbeats 1600000 in
theorem eencode_any (x : EntS) (hx : x.small) (w : World) :
    Calls Tryd.prog 22 #[x.val] w fun e w' => e = .returned (.tuple #[.string x.enc, .int .i64 x.err]) ∧ w.grownBy w' none := by
  obtain ⟨v, o, r, h, p⟩ := x
  obtain ⟨hv, ho, hr, hp⟩ := hx
  have hv : v ≤ 18446744073709551615 := hv
  have ho : o.size ≤ 100000 := ho
  have hr : r.size ≤ 100000 := hr
  have hp : p.size ≤ 100000 := hp
  unfold EntS.val
  simp only
  have hb0 := heap_alloc_at w (.cells #[.int .u64 v, .string o, .string r, .int .i64 h, .string p] 52) _ rfl
  have hg0 : w.grownBy (w.alloc (.cells #[.int .u64 v, .string o, .string r, .int .i64 h, .string p] 52)) none := World.grownBy_alloc _ _ _
  obtain ⟨W0, hW0⟩ : ∃ W0, w.alloc (.cells #[.int .u64 v, .string o, .string r, .int .i64 h, .string p] 52) = W0 := ⟨_, rfl⟩
  rw [hW0] at hb0 hg0
  obtain ⟨x0, x1, x2, x3, x4⟩ := cells5 hb0
  have HB0 := Lib.hid hb0
  have HG0 := Lib.hid hg0
  have HW0 := Lib.hid hW0
  have HPE := Lib.hid (fun w' => pencode_any o r h ho hr w')
  clear hb0 hg0 hW0
  by_cases hvv : v < 1 ∨ 4294967295 < v
  · obtain ⟨e1, e2⟩ := EntS.not_ver (x := ⟨v, o, r, h, p⟩) hvv
    rw [e1, e2]
    clear e1 e2 x1 x2 x3 x4 HPE
    by_cases h1 : v < 1
    · have q1 : (v : Int) < 1 := by omega
      clear hvv h1
      go_enter Tryd.func22, Tryd.ntmps22
      go_wp2_with (rw [HW0.out])
      go_returns
      exact ⟨rfl, HG0.out⟩
    · have q1 : ¬ (v : Int) < 1 := by omega
      have q2 : (4294967295 : Int) < (v : Int) := by omega
      clear hvv h1
      go_enter Tryd.func22, Tryd.ntmps22
      go_wp2_with (rw [HW0.out])
      go_returns
      exact ⟨rfl, HG0.out⟩
  · have q1 : ¬ (v : Int) < 1 := by omega
    have q2 : ¬ (4294967295 : Int) < (v : Int) := by omega
    have q3 : ¬ (v : Int) > 4294967295 := by omega
    by_cases hk : pubOk o r h
    · have hpe := HPE.out
      unfold pubEnc pubErr at hpe
      rw [if_pos hk, if_pos hk] at hpe
      have HPE2 := Lib.hid hpe
      have HA := Lib.hid (entW_ans ⟨v, o, r, h, p⟩ (by show 1 ≤ v ∧ v ≤ 4294967295; omega) hk)
      have hkl := pubB_len hk
      clear HPE hpe
      obtain ⟨K, hK⟩ : ∃ K, str (pubB o r h) = K := ⟨_, rfl⟩
      have hKs : K.size = 33 := by rw [← hK, str_size, hkl]
      rw [hK] at HPE2 HA
      have HA : Hid ((entW v K p).ans = (⟨v, o, r, h, p⟩ : EntS).enc ∧ (entW v K p).err = (⟨v, o, r, h, p⟩ : EntS).err) := HA
      clear hK hkl hk hvv
      go_enter Tryd.func22, Tryd.ntmps22
      go_wp2_with (rw [HW0.out])
      refine (HPE2.out _).mono ?_
      rintro e w1 ⟨rfl, g1⟩
      have hb1 := g1.heap HB0.out (by simp)
      have hlt1 := g1.size
      have HG1 := Lib.hid (grownBy_trans HG0.out g1)
      have hltB : w.heap.size < w1.heap.size := Nat.lt_of_lt_of_le (Array.getElem?_eq_some_iff.1 HB0.out).1 hlt1
      clear g1 x0 x1 x2 x3 x4 HB0 hlt1
      have hWB : WrAt (w1.alloc (.cells #[.pointer none, .int .i64 0, .int .i64 0] 82)) w1.heap.size ⟨[], 0⟩ := ⟨.pointer none, heap_alloc_at w1 _ _ rfl, rfl⟩
      have hg1 : w1.grownBy (w1.alloc (.cells #[.pointer none, .int .i64 0, .int .i64 0] 82)) none := World.grownBy_alloc _ _ _
      have hb2 := hg1.heap hb1 (by simp)
      obtain ⟨XB, hXB⟩ : ∃ XB, w.heap.size = XB := ⟨_, rfl⟩
      obtain ⟨WB, hWBn⟩ : ∃ WB, w1.heap.size = WB := ⟨_, rfl⟩
      obtain ⟨W1, hW1⟩ : ∃ W1, w1.alloc (.cells #[.pointer none, .int .i64 0, .int .i64 0] 82) = W1 := ⟨_, rfl⟩
      rw [hW1] at hWB hg1 hb2
      rw [hWBn] at hWB hltB
      rw [hXB] at hb2 hltB ⊢
      have HLT := Lib.hid hltB
      have HX := Lib.hid hXB
      have HG2 := Lib.hid (grownBy_trans HG1.out hg1)
      have HWBn := Lib.hid hWBn
      have HW1 := Lib.hid hW1
      have HWR := Lib.hid hWB
      obtain ⟨y0, _, _, _, y4⟩ := cells5 hb2
      have hne2 : ∀ (w' w'' : World) (o : Nat) (u : Value), w'.grownBy w'' (some WB) → w'.cell? ⟨XB, o, none⟩ = some u → w''.cell? ⟨XB, o, none⟩ = some u := fun w' w'' o u g h => g.cell h (fun e => by have := HLT.out; simp at e; omega)
      have HNE := Lib.hid hne2
      have hnew : ∀ g, some WB = some g → w.heap.size ≤ g := fun g e => by cases e; have := HLT.out; have := HX.out; omega
      have HNEW := Lib.hid hnew
      have t0 : total (⟨[], 0⟩ : WSt).ts = 0 := rfl
      have t1 := total_num (⟨[], 0⟩ : WSt) v 4
      have t2 := total_fixed ((⟨[], 0⟩ : WSt).num v 4) K 33
      have t3 := entW_total v K p
      have HF1 := Lib.hid (fun (w' : World) (q : WrAt w' WB ⟨[], 0⟩) => wr_numS v hv 4 q (by show 0 ≤ _; omega))
      have HF2 := Lib.hid (fun (w' : World) (q : WrAt w' WB ((⟨[], 0⟩ : WSt).num v 4)) => wr_fixedS K 33 q (by omega))
      have hF3 := fun (w' : World) (q : WrAt w' WB (((⟨[], 0⟩ : WSt).num v 4).fixed K 33)) => wr_fixedS p 16 q (by omega)
      have hBY := fun (w' : World) (q : WrAt w' WB (entW v K p)) => wr_bytesS q (by omega)
      have hpw : (((⟨[], 0⟩ : WSt).num v 4).fixed K 33).fixed p 16 = entW v K p := rfl
      rw [hpw] at hF3
      have HF3 := Lib.hid hF3
      rw [HA.out.1, HA.out.2] at hBY
      have HBY := Lib.hid hBY
      clear hWB hg1 hb1 hb2 hXB hWBn hW1 hltB hne2 hnew t0 t1 t2 t3 hF3 hBY hpw hv ho hr hp hKs HPE2
      go_wp2_with (rw [HW1.out, HWBn.out])
      have hdw : WrAt W1.drew WB ⟨[], 0⟩ := HWR.out.grown (grownBy_drew (World.grownBy.refl _ _))
      go_region_held3 (fun w' => w'.cell? ⟨XB, 0, none⟩ = some (.int .u64 v) ∧ w'.cell? ⟨XB, 4, none⟩ = some (.string p)) (first | exact ck | exact ⟨y0, y4⟩)
        (first
        | (go_at_call 41; (with_reducible refine (HF1.out _ hdw).mono ?_); rintro e w3 ⟨rfl, hw3, g3⟩; have ck := And.intro (HNE.out _ _ _ _ g3 y0) (HNE.out _ _ _ _ g3 y4))
        | (go_at_call 42; (with_reducible refine (HF2.out _ hw3).mono ?_); rintro e w4 ⟨rfl, hw4, g4⟩; have ck := And.intro (HNE.out _ _ _ _ g4 ck.1) (HNE.out _ _ _ _ g4 ck.2))
        | (go_at_call 42; (with_reducible refine (HF3.out _ hw4).mono ?_); rintro e w5 ⟨rfl, hw5, g5⟩; have ck := And.intro (HNE.out _ _ _ _ g5 ck.1) (HNE.out _ _ _ _ g5 ck.2))
        | (go_at_call 43; (with_reducible refine (HBY.out _ hw5).mono ?_); rintro e w6 ⟨rfl, g6⟩; have ck := And.intro (g6.cell ck.1 (by simp)) (g6.cell ck.2 (by simp))))
      have HG6 := Lib.hid (grownBy_trans (grown_row (grown_row (grown_row (grownBy_drew HG2.out) g3 HNEW.out) g4 HNEW.out) g5 HNEW.out) g6)
      clear ck g3 g4 g5 g6 hw3 hw4 hw5
      go_wp2_with fail
      go_returns
      exact ⟨rfl, HG6.out⟩
    · obtain ⟨e1, e2⟩ := EntS.not_pub (x := ⟨v, o, r, h, p⟩) (by show 1 ≤ v ∧ v ≤ 4294967295; omega) hk
      rw [e1, e2]
      have hpe := HPE.out
      unfold pubEnc pubErr at hpe
      rw [if_neg hk, if_neg hk] at hpe
      have HPE2 := Lib.hid hpe
      clear HPE hpe hk hvv e1 e2
      go_enter Tryd.func22, Tryd.ntmps22
      go_wp2_with (rw [HW0.out])
      refine (HPE2.out _).mono ?_
      rintro e w1 ⟨rfl, g1⟩
      have HG1 := Lib.hid (grownBy_trans HG0.out g1)
      clear g1 x0 x1 x2 x3 x4 HB0
      go_wp2_with fail
      go_returns
      exact ⟨rfl, HG1.out⟩

set_option maxRecDepth 100000 in
set_option maxHeartbeats 1600000 in
theorem evalue_any (x : EntS) (hx : x.small) (w : World) (hr : ShaReady w) :
    Calls Tryd.prog 24 #[x.val] w fun e w' => e = .returned (.string x.value) ∧ w.grownBy w' none := by
  have HEN := Lib.hid (fun w' => eencode_any x hx w')
  have hb0 := heap_alloc_at w (.cells #[.int .u64 x.v, .string x.o, .string x.r, .int .i64 x.h, .string x.p] 52) _ rfl
  have hg0 : w.grownBy (w.alloc (.cells #[.int .u64 x.v, .string x.o, .string x.r, .int .i64 x.h, .string x.p] 52)) none := World.grownBy_alloc _ _ _
  obtain ⟨W0, hW0⟩ : ∃ W0, w.alloc (.cells #[.int .u64 x.v, .string x.o, .string x.r, .int .i64 x.h, .string x.p] 52) = W0 := ⟨_, rfl⟩
  rw [hW0] at hb0 hg0
  obtain ⟨x0, x1, x2, x3, x4⟩ := cells5 hb0
  have HG0 := Lib.hid hg0
  have HW0 := Lib.hid hW0
  have HR := Lib.hid hr
  clear hb0 hg0 hW0 hr
  unfold EntS.val at HEN ⊢
  by_cases he : x.err = 0
  · have h1 : x.enc = str x.bytes := by unfold EntS.enc; rw [if_pos he]
    have h2 : x.value = tagS 12 [str x.bytes] := by unfold EntS.value; rw [if_pos he]
    have hl : (str x.bytes).size ≤ 53 := by rw [str_size, EntS.len he]; exact Nat.le_refl _
    rw [h1, he] at HEN
    rw [h2]
    generalize str x.bytes = z at HEN hl ⊢
    have HL := Lib.hid hl
    clear h1 h2 he hl hx
    go_enter Tryd.func24, Tryd.ntmps24
    go_wp2_with (rw [HW0.out])
    refine (HEN.out _).mono ?_
    rintro e w1 ⟨rfl, g1⟩
    have HG1 := Lib.hid (grownBy_trans HG0.out g1)
    clear g1 x0 x1 x2 x3 x4
    have HT := Lib.hid (tagged_new w1 12 [z] [.string z] 1 12 rfl rfl rfl (HR.out.grown HG1.out) (by simp) (by intro s hs; have := HL.out; simp at hs; subst hs; omega))
    go_wp2_with fail
    refine HT.out.mono ?_
    rintro e w2 ⟨rfl, g2⟩
    have HG2 := Lib.hid (grownBy_trans HG1.out g2)
    clear g2
    go_wp2_with fail
    go_ret
    exact ⟨rfl, HG2.out⟩
  · have h1 : x.enc = ⟨#[]⟩ := by unfold EntS.enc; rw [if_neg he]
    have h2 : x.value = ⟨#[]⟩ := by unfold EntS.value; rw [if_neg he]
    rw [h1] at HEN
    rw [h2]
    generalize x.err = z at HEN he
    have hz : (z != 0) = true := by simp [he]
    have hz2 : (z == 0) = false := by simp [he]
    clear h1 h2 he hx
    go_enter Tryd.func24, Tryd.ntmps24
    go_wp2_with (rw [HW0.out])
    refine (HEN.out _).mono ?_
    rintro e w1 ⟨rfl, g1⟩
    have HG1 := Lib.hid (grownBy_trans HG0.out g1)
    clear g1 x0 x1 x2 x3 x4
    go_wp2_with fail
    go_ret
    exact ⟨rfl, HG1.out⟩

set_option maxHeartbeats 1600000 in
theorem ename_any (s : ByteArray) (hs : s.size ≤ 1000000000000) (w : World) (hr : ShaReady w) :
    Calls Tryd.prog 26 #[.string s] w fun e w' => e = .returned (.string (tagS 11 [s])) ∧ w.grownBy w' none := by
  have HT := Lib.hid (tagged_new w 11 [s] [.string s] 1 11 rfl rfl rfl hr (by simp) (by intro t ht; simp at ht; subst ht; exact hs))
  clear hr hs
  go_enter Tryd.func26, Tryd.ntmps26
  go_wp2_with fail
  refine HT.out.mono ?_
  rintro e w2 ⟨rfl, g2⟩
  have HG2 := Lib.hid g2
  clear g2
  go_wp2_with fail
  go_ret
  exact ⟨rfl, HG2.out⟩
end Go.Proofs.YtgaenpbdfelhhaaDoor

namespace Go.Proofs.YtgaenpbdfelhhaaDoor
open Go.RowKit

theorem row_string_w (w : World) (vs : List Value) (l : List UInt8) (hl : vs = u8s l) :
    (convert 72 9 (.slice (some ⟨w.heap.size, 0, none⟩) l.length l.length)).run Tryd.prog (w.alloc (.cells vs.toArray 5)) = .ok (.string (str l)) (w.alloc (.cells vs.toArray 5)) := by
  subst hl
  exact row_string (w := w.alloc (.cells (u8s l).toArray 5)) (g := w.heap.size) (t := 5) (heap_alloc_at _ _ _ rfl) _
theorem be4 (n : Nat) : be n 4 = [UInt8.ofNat (n / 256 ^ 3 % 256), UInt8.ofNat (n / 256 ^ 2 % 256), UInt8.ofNat (n / 256 ^ 1 % 256), UInt8.ofNat (n / 256 ^ 0 % 256)] := by
  simp [be, Nat.div_div_eq_div_mul]
theorem four_bytes (n : Nat) : [Value.int .u8 ((n : Int) / 16777216 % 256), .int .u8 ((n : Int) / 65536 % 256), .int .u8 ((n : Int) / 256 % 256), .int .u8 ((n : Int) % 256)] = u8s (be n 4) := by
  rw [be4]
  simp [u8s]
end Go.Proofs.YtgaenpbdfelhhaaDoor

namespace Go.Proofs.YtgaenpbdfelhhaaDoor
open Go.ChangeShapes Go.WideShapes Go.ChangeAt Go.RowKit Go.Lib Go.Shelf

/-- a listed array of 32-bit numbers, cell by cell -/
theorem u32_of_reads {w : World} {name : String} {g t : Nat} {n : Nat} (L : List Nat) (hL : L.length = n) (hn : Tryd.prog.globalNamed name = some g) (hy : (Tryd.prog.globals[g]?).map (·.type) = some t)
    (hu : Tryd.prog.underlying t = some (.array n 124)) (hc : Tryd.prog.cellsOf 124 = 1)
    (h : VarReads Tryd.prog w name (.agg (L.map fun n : Nat => .lit (.int .u32 (n : Int))))) (i : Nat) (hi : i < n) : w.cell? ⟨g, i, none⟩ = some (.int .u32 (L.getD i 0 : Nat)) := by
  obtain ⟨g', t', cs, fuel, p, hg, hty, hvar, hd⟩ := h
  obtain rfl := Option.some.inj (hn.symm.trans hg)
  obtain rfl := Option.some.inj (hy.symm.trans hty)
  obtain ⟨fuel', d, q, hdi, he⟩ := array_elem hu hd i hi
  rw [hc] at he
  obtain ⟨z, e0, x0, _⟩ := DataW.trod_int Tryd.underlying124 he
  have hd2 : d = .lit (.int .u32 (L.getD i 0 : Nat)) := by
    have hlt : i < L.length := by omega
    rw [List.getElem?_map, List.getElem?_eq_getElem hlt] at hdi
    rw [List.getD_eq_getElem?_getD, List.getElem?_eq_getElem hlt]
    exact (Option.some.inj hdi).symm
  rw [hd2] at x0
  rw [World.var?_cell hn hvar i]
  have := congrArg (fun l : List Value => l[0]?) e0
  simp [List.getElem?_take, List.getElem?_drop] at this
  rw [this]
  simp only [Prod.mk.injEq, DataW.lit.injEq, Lit.int.injEq, true_and] at x0
  rw [x0.1]

theorem start_is : (Rows.laid_plumbob_sha_start : DataW Unit) = .agg (start.list.map fun n : Nat => .lit (.int .u32 (n : Int))) := by kernel_rfl
theorem roots_is : (Rows.laid_plumbob_sha_roots : DataW Unit) = .agg (rootsL.map fun n : Nat => .lit (.int .u32 (n : Int))) := by kernel_rfl
theorem nStart : Tryd.prog.globalNamed "plumbob/sha.start" = some 0 := by kernel_rfl
theorem yStart : (Tryd.prog.globals[0]?).map (·.type) = some 125 := by kernel_rfl
theorem nRoots : Tryd.prog.globalNamed "plumbob/sha.roots" = some 1 := by kernel_rfl
theorem yRoots : (Tryd.prog.globals[1]?).map (·.type) = some 133 := by kernel_rfl
theorem cU32 : Tryd.prog.cellsOf 124 = 1 := by kernel_rfl
theorem shaReady_of_laid {w : World} (h : laidMet Tryd.prog [("plumbob/sha.start", Rows.laid_plumbob_sha_start), ("plumbob/sha.roots", Rows.laid_plumbob_sha_roots)] w) : ShaReady w := by
  have h1 := Lib.laidMet.reads h (.head _)
  have h2 := Lib.laidMet.reads h (.tail _ (.head _))
  rw [start_is] at h1
  rw [roots_is] at h2
  refine ⟨fun j v hv => ?_, fun i hi => u32_of_reads rootsL rfl nRoots yRoots Tryd.underlying133 cU32 h2 i hi⟩
  have hj : j < 8 := by
    have := (List.getElem?_eq_some_iff.1 hv).1
    rwa [u32s_length, St.list_length] at this
  rw [Nat.zero_add, u32_of_reads start.list rfl nStart yStart Tryd.underlying125 cU32 h1 j hj, ← hv, u32s_at _ _ (by rw [St.list_length]; exact hj)]

/-- the settled world, the two variables holding what their texts lay -/
noncomputable def shaWorld (os : Os) : World :=
  let w0 := World.holding Tryd.prog os ⟨#[], #[], []⟩
  let put (h : Array Obj) (g : Nat) (cs : Array Value) : Array Obj := h.modify g fun
    | .cells _ t frozen => .cells cs t frozen
    | o => o
  let h1 := put w0.heap 0 (u32s start.list).toArray
  let h2 := put h1 1 (u32s rootsL).toArray
  { w0 with heap := h2 }
theorem sha_met (os : Os) (args : Array Value) : laidMet Tryd.prog [("plumbob/sha.start", Rows.laid_plumbob_sha_start), ("plumbob/sha.roots", Rows.laid_plumbob_sha_roots)] ((shaWorld os).forCall (fun _ _ => 0) ⟨#[], args, []⟩).memory :=
  (LaidIn.of_run (l := [("plumbob/sha.start", Rows.laid_plumbob_sha_start), ("plumbob/sha.roots", Rows.laid_plumbob_sha_roots)]) [0, 1] 8 (by kernel_rfl) (by kernel_rfl) (by kernel_rfl) (by kernel_rfl)).met
theorem own : ownKnob Tryd.prog.godebug = none := by kernel_rfl
end Go.Proofs.YtgaenpbdfelhhaaDoor

namespace Go.Proofs.YtgaenpbdfelhhaaDoor
open Go.RowKit

def ints (L : List Int) : List Value := L.map (Value.int .i64)
theorem ints_length (L : List Int) : (ints L).length = L.length := by simp [ints]
theorem ints_append (L M : List Int) : ints (L ++ M) = ints L ++ ints M := by simp [ints]
theorem ints_at (L : List Int) (i : Nat) (h : i < L.length) : (ints L)[i]? = some (.int .i64 L[i]) := by simp [ints, List.getElem?_eq_getElem h]
/-- a slice that holds these numbers -/
def IntsAt (w : World) (v : Value) (L : List Int) : Prop :=
  ∃ a cap, v = .slice a L.length cap ∧ ∀ i (h : i < L.length), ∃ g o, a = some ⟨g, o, none⟩ ∧ w.cell? ⟨g, o + i, none⟩ = some (.int .i64 L[i])
theorem IntsAt.kept {w w' : World} {v : Value} {L : List Int} (h : IntsAt w v L) (hb : w.grownBy w' none) : IntsAt w' v L := by
  obtain ⟨a, cap, rfl, hc⟩ := h
  refine ⟨a, cap, rfl, fun i hi => ?_⟩
  obtain ⟨g, o, ha, hcell⟩ := hc i hi
  exact ⟨g, o, ha, hb.cell hcell (by simp)⟩
theorem IntsAt.nil (w : World) (a : Option Addr) (cap : Nat) : IntsAt w (.slice a 0 cap) [] := ⟨a, cap, rfl, fun i h => absurd h (by simp)⟩
theorem ints_of_own {w : World} {B n : Nat} {t : TypeId} {a : Option Addr} {cap : Nat} {L : List Int} (h : w.ownsRow B t 1 (.slice a n cap) n (ints L)) : IntsAt w (.slice a n cap) L := by
  have hl := h.1
  simp [ints] at hl
  subst hl
  refine ⟨a, cap, rfl, fun i hi => ?_⟩
  rcases h.2 with ⟨_, h0⟩ | ⟨g, cap', cur, he, hB, hg, hnc, hm, hcs, htake⟩
  · omega
  · cases he
    refine ⟨g, 0, rfl, ?_⟩
    rw [Nat.zero_add, cell_of hg]
    have : (ints L)[i]? = some (.int .i64 L[i]) := ints_at L i hi
    rw [← htake, List.getElem?_take, if_pos (by omega)] at this
    simpa using this
theorem own_kept {w w' : World} {B n : Nat} {t : TypeId} {v : Value} {xs : List Value} (h : w.ownsRow B t 1 v n xs) (hg : w.grownBy w' none) : w'.ownsRow B t 1 v n xs := by
  obtain ⟨hl, h⟩ := h
  refine ⟨hl, ?_⟩
  rcases h with h' | ⟨g, cap, cur, rfl, a, hgg, r⟩
  · exact .inl h'
  · refine .inr ⟨g, cap, cur, rfl, a, ?_, r⟩
    rw [hg.block g (Array.getElem?_eq_some_iff.1 hgg).1 (by simp)]
    exact hgg
end Go.Proofs.YtgaenpbdfelhhaaDoor
