/- Plain functions for package wots: places, secrets, walks, public keys. No walk of the program. · A public key's and an entry's bytes: written, read, each of the other. No walk. · Plain words: texts of 16 bytes one behind another, a signature's bytes, an update's bytes. No walk. · A proof's bytes: written, read, each of the other. No walk. · Plain words: an attestation's bytes, what a Reader reads of bytes as one. No walk. · A Writer's calls at its block, at every state. · A Reader's calls at its block, at every state. -/
import Derived.Test.YtioahjdojgcfdaaDoorShaCalls
import Derived.Test.YtioahjdojgcfdaaDoorAttestParsesB1
namespace Go.Proofs.YtioahjdojgcfdaaDoor
attribute [local irreducible] shaL

/-- the short digest of a tag and texts -/
def tagS (tag : UInt8) (L : List ByteArray) : ByteArray := str ((shaL (tagB tag L)).take 16)
theorem tagS_size (tag : UInt8) (L : List ByteArray) : (tagS tag L).size = 16 := by
  unfold tagS
  rw [str_size, List.length_take, shaL_length]
  rfl
def placeL (leaf chain step : Nat) : List UInt8 := be leaf 4 ++ [UInt8.ofNat chain, UInt8.ofNat step]
def placeS (leaf chain step : Nat) : ByteArray := str (placeL leaf chain step)
theorem placeS_size (leaf chain step : Nat) : (placeS leaf chain step).size = 6 := by
  unfold placeS placeL
  rw [str_size, List.length_append, be_length]
  rfl
def openS (seed : ByteArray) : ByteArray := tagS 3 [seed]
def stepS (o : ByteArray) (leaf chain k : Nat) (x : ByteArray) : ByteArray := tagS 2 [o, placeS leaf chain k, x]
/-- n steps, from step a on -/
def walkS (o : ByteArray) (leaf chain a : Nat) : Nat → ByteArray → ByteArray
  | 0, x => x
  | n + 1, x => stepS o leaf chain (a + n) (walkS o leaf chain a n x)
theorem walkS_zero (o : ByteArray) (leaf chain a : Nat) (x : ByteArray) : walkS o leaf chain a 0 x = x := rfl
theorem walkS_succ (o : ByteArray) (leaf chain a n : Nat) (x : ByteArray) : walkS o leaf chain a (n + 1) x = stepS o leaf chain (a + n) (walkS o leaf chain a n x) := rfl
theorem walkS_add (o : ByteArray) (leaf chain a m n : Nat) (x : ByteArray) : walkS o leaf chain (a + m) n (walkS o leaf chain a m x) = walkS o leaf chain a (m + n) x := by
  induction n with
  | zero => rfl
  | succ n ih => rw [walkS_succ, ih, ← Nat.add_assoc, walkS_succ, Nat.add_assoc]
theorem walkS_size (o : ByteArray) (leaf chain a n : Nat) (x : ByteArray) (N : Nat) (h : x.size ≤ N) (h16 : 16 ≤ N) : (walkS o leaf chain a n x).size ≤ N := by
  cases n with
  | zero => exact h
  | succ n => rw [walkS_succ]; unfold stepS; rw [tagS_size]; exact h16
theorem walkS_16 (o : ByteArray) (leaf chain a n : Nat) (x : ByteArray) (h : x.size = 16) : (walkS o leaf chain a n x).size = 16 := by
  cases n with
  | zero => exact h
  | succ n => rw [walkS_succ]; unfold stepS; rw [tagS_size]
/-- from and to as they come: below 0 as 0, above 15 as 15 -/
def walkZ (o : ByteArray) (leaf chain : Nat) (a b : Int) (x : ByteArray) : ByteArray := walkS o leaf chain (max a 0).toNat (min b 15 - max a 0).toNat x
def secretS (seed : ByteArray) (leaf chain : Nat) : ByteArray := tagS 1 [seed, placeS leaf chain 0]
def publicOfS (o : ByteArray) (leaf : Nat) (ends : List ByteArray) : ByteArray := tagS 4 ([o, placeS leaf 0 0] ++ ends)
def endsS (seed : ByteArray) (leaf : Nat) : Nat → List ByteArray
  | 0 => []
  | c + 1 => endsS seed leaf c ++ [walkS (openS seed) leaf c 0 15 (secretS seed leaf c)]
def publicS (seed : ByteArray) (leaf : Nat) : ByteArray := publicOfS (openS seed) leaf (endsS seed leaf 35)
/-- a signature's first c texts -/
def sigS (seed : ByteArray) (leaf : Nat) (d : List Int) : Nat → List ByteArray
  | 0 => []
  | c + 1 => sigS seed leaf d c ++ [walkS (openS seed) leaf c 0 (d.getD c 0).toNat (secretS seed leaf c)]
/-- the first c ends of what a signature's texts are walked to -/
def recS (o : ByteArray) (leaf : Nat) (d : List Int) (sig : List ByteArray) : Nat → List ByteArray
  | 0 => []
  | c + 1 => recS o leaf d sig c ++ [walkS o leaf c (d.getD c 0).toNat (15 - d.getD c 0).toNat (sig.getD c ByteArray.empty)]
theorem endsS_length (seed : ByteArray) (leaf c : Nat) : (endsS seed leaf c).length = c := by
  induction c with
  | zero => rfl
  | succ c ih => simp [endsS, ih]
theorem sigS_length (seed : ByteArray) (leaf : Nat) (d : List Int) (c : Nat) : (sigS seed leaf d c).length = c := by
  induction c with
  | zero => rfl
  | succ c ih => simp [sigS, ih]
theorem recS_length (o : ByteArray) (leaf : Nat) (d : List Int) (sig : List ByteArray) (c : Nat) : (recS o leaf d sig c).length = c := by
  induction c with
  | zero => rfl
  | succ c ih => simp [recS, ih]
theorem sigS_at (seed : ByteArray) (leaf : Nat) (d : List Int) (c i : Nat) (h : i < c) : (sigS seed leaf d c)[i]? = some (walkS (openS seed) leaf i 0 (d.getD i 0).toNat (secretS seed leaf i)) := by
  induction c with
  | zero => omega
  | succ c ih =>
    rw [sigS]
    by_cases e : i = c
    · subst e
      rw [List.getElem?_append_right (by rw [sigS_length]; omega), sigS_length, Nat.sub_self]
      rfl
    · rw [List.getElem?_append_left (by rw [sigS_length]; omega), ih (by omega)]
theorem secretS_size (seed : ByteArray) (leaf chain : Nat) : (secretS seed leaf chain).size = 16 := tagS_size _ _
theorem openS_size (seed : ByteArray) : (openS seed).size = 16 := tagS_size _ _
theorem sigS_all (seed : ByteArray) (leaf : Nat) (d : List Int) (c : Nat) : ∀ s ∈ sigS seed leaf d c, s.size = 16 := by
  induction c with
  | zero => intro s h; cases h
  | succ c ih =>
    intro s h
    rw [sigS] at h
    rcases List.mem_append.1 h with h | h
    · exact ih s h
    · obtain rfl := List.mem_singleton.1 h
      exact walkS_16 _ _ _ _ _ _ (secretS_size _ _ _)
theorem endsS_all (seed : ByteArray) (leaf c : Nat) : ∀ s ∈ endsS seed leaf c, s.size = 16 := by
  induction c with
  | zero => intro s h; cases h
  | succ c ih =>
    intro s h
    rw [endsS] at h
    rcases List.mem_append.1 h with h | h
    · exact ih s h
    · obtain rfl := List.mem_singleton.1 h
      exact walkS_16 _ _ _ _ _ _ (secretS_size _ _ _)
theorem recS_all (o : ByteArray) (leaf : Nat) (d : List Int) (sig : List ByteArray) (hs : ∀ s ∈ sig, s.size = 16) (c : Nat) (hc : c ≤ sig.length) : ∀ s ∈ recS o leaf d sig c, s.size = 16 := by
  induction c with
  | zero => intro s h; cases h
  | succ c ih =>
    intro s h
    rw [recS] at h
    rcases List.mem_append.1 h with h | h
    · exact ih (by omega) s h
    · obtain rfl := List.mem_singleton.1 h
      refine walkS_16 _ _ _ _ _ _ (hs _ ?_)
      rw [List.getD_eq_getElem?_getD, List.getElem?_eq_getElem (by omega)]
      exact List.getElem_mem _
/-- P6.3: what a signature tells is the public key -/
theorem rec_sig (seed : ByteArray) (leaf : Nat) (d : List Int) (hd : ∀ x ∈ d, 0 ≤ x ∧ x ≤ 15) (n : Nat) (hn : n ≤ d.length) (c : Nat) (hc : c ≤ n) : recS (openS seed) leaf d (sigS seed leaf d n) c = endsS seed leaf c := by
  induction c with
  | zero => rfl
  | succ c ih =>
    rw [recS, endsS, ih (by omega)]
    have h1 := sigS_at seed leaf d n c (by omega)
    rw [List.getD_eq_getElem?_getD (l := sigS seed leaf d n), h1]
    have hx := hd (d.getD c 0) (by rw [List.getD_eq_getElem?_getD, List.getElem?_eq_getElem (by omega)]; exact List.getElem_mem _)
    simp only [Option.getD_some]
    have e := walkS_add (openS seed) leaf c 0 (d.getD c 0).toNat (15 - d.getD c 0).toNat (secretS seed leaf c)
    rw [Nat.zero_add] at e
    rw [e, show (d.getD c 0).toNat + (15 - d.getD c 0).toNat = 15 from by omega]
/-- a tagged text's length -/
theorem tagB_length (tag : UInt8) (L : List ByteArray) (N : Nat) (h : ∀ s ∈ L, s.size ≤ N) : (tagB tag L).length ≤ 1 + L.length * (4 + N) := by
  unfold tagB
  rw [List.length_cons]
  suffices (L.flatMap fun s => be s.size 4 ++ s.data.toList).length ≤ L.length * (4 + N) by omega
  induction L with
  | nil => simp
  | cons s L ih =>
    have := ih (fun t ht => h t (by simp [ht]))
    have hs := h s (by simp)
    rw [List.flatMap_cons, List.length_append, List.length_append, be_length, List.length_cons, Nat.succ_mul]
    have e : s.data.toList.length = s.size := rfl
    omega
end Go.Proofs.YtioahjdojgcfdaaDoor

namespace Go.Proofs.YtioahjdojgcfdaaDoor
attribute [local irreducible] shaL

theorem be_val_rev (l : List UInt8) : be (val l.reverse) l.length = l.reverse := by
  induction l with
  | nil => rfl
  | cons c l ih =>
    have hc := c.toNat_lt
    rw [List.reverse_cons, val_snoc, List.length_cons, be, show (256 * val l.reverse + c.toNat) / 256 = val l.reverse from by omega, show (256 * val l.reverse + c.toNat) % 256 = c.toNat from by omega, ih]
    simp
theorem be_val (l : List UInt8) (k : Nat) (h : l.length = k) : be (val l) k = l := by
  subst h
  have := be_val_rev l.reverse
  simpa using this
theorem val_pos (l : List UInt8) : val l = 0 ↔ l = List.replicate l.length 0 := by
  have hz : ∀ k, be 0 k = List.replicate k 0 := by
    intro k
    induction k with
    | zero => rfl
    | succ k ih => rw [be, ih, List.replicate_succ']; rfl
  constructor
  · intro h
    have := be_val l _ rfl
    rw [h, hz] at this
    exact this.symm
  · intro h
    rw [h, ← hz]
    exact val_be 0 _ (Nat.pow_pos (by decide))

/-! what a Reader does with a text -/
theorem rd_take (l : List UInt8) (k : Nat) (h : k ≤ l.length) : (⟨str l, 0⟩ : RSt).fixed k = (str (l.take k), ⟨str (l.drop k), 0⟩) := by
  have := fixed_str (l.take k) (l.drop k)
  rw [List.take_append_drop, List.length_take, Nat.min_eq_left h] at this
  exact this
theorem rd_less (l : List UInt8) (k : Nat) (h : l.length < k) : (⟨str l, 0⟩ : RSt).fixed k = (ByteArray.empty, ⟨str l, 3⟩) := by
  unfold RSt.fixed
  simp only
  rw [if_neg (by simp), if_neg (by omega), if_pos (by rw [str_size]; omega)]
  rfl
theorem rd_err (s : ByteArray) (e : Int) (he : e ≠ 0) (k : Int) : (⟨s, e⟩ : RSt).fixed k = (ByteArray.empty, ⟨s, e⟩) := by
  unfold RSt.fixed
  rw [if_pos he]
theorem num_of (s : RSt) (k : Nat) (h : 1 ≤ k ∧ k ≤ 8) : s.num k = (val (s.fixed k).1.data.toList, (s.fixed k).2) := by
  unfold RSt.num
  rw [if_pos (by omega)]

/-! a public key -/
def pubOk (o r : ByteArray) (h : Int) : Prop := (0 ≤ h ∧ h ≤ 6) ∧ o.size = 16 ∧ r.size = 16
instance (o r : ByteArray) (h : Int) : Decidable (pubOk o r h) := by unfold pubOk; infer_instance
def pubB (o r : ByteArray) (h : Int) : List UInt8 := o.data.toList ++ (r.data.toList ++ be h.toNat 1)
def pubErr (o r : ByteArray) (h : Int) : Int := if pubOk o r h then 0 else 10
def pubEnc (o r : ByteArray) (h : Int) : ByteArray := if pubOk o r h then str (pubB o r h) else ⟨#[]⟩
/-- what the Writer holds -/
def pubW (o r : ByteArray) (h : Nat) : WSt := (((⟨[], 0⟩ : WSt).fixed o 16).fixed r 16).num h 1
theorem wput_ok (ts : List ByteArray) (t : ByteArray) (k : Int) (h : (t.size : Int) = k) : (⟨ts, 0⟩ : WSt).fixed t k = ⟨t :: ts, 0⟩ := by
  unfold WSt.fixed
  rw [if_pos h]
  rfl
theorem wput_not (ts : List ByteArray) (t : ByteArray) (k : Int) (h : (t.size : Int) ≠ k) : (⟨ts, 0⟩ : WSt).fixed t k = ⟨ts, 10⟩ := by
  unfold WSt.fixed
  rw [if_neg h]
  rfl
theorem wput_err (s : WSt) (he : s.err ≠ 0) (t : ByteArray) (k : Int) : s.fixed t k = s := by
  unfold WSt.fixed WSt.put WSt.fail
  rw [if_neg he, if_neg he]
  split <;> rfl
theorem wnum_ok (ts : List ByteArray) (n : Nat) (k : Int) (h : 1 ≤ k ∧ k ≤ 8 ∧ n < 256 ^ k.toNat) : (⟨ts, 0⟩ : WSt).num n k = ⟨str (be n k.toNat) :: ts, 0⟩ := by
  unfold WSt.num
  rw [if_pos h]
  rfl
theorem wnum_err (s : WSt) (he : s.err ≠ 0) (n : Nat) (k : Int) : s.num n k = s := by
  unfold WSt.num WSt.put WSt.fail
  rw [if_neg he, if_neg he]
  split <;> rfl
theorem pubW_ok {o r : ByteArray} {h : Nat} (k : pubOk o r h) : pubW o r h = ⟨[str (be h 1), r, o], 0⟩ := by
  obtain ⟨⟨h1, h2⟩, h3, h4⟩ := k
  unfold pubW
  rw [wput_ok [] o 16 (by omega), wput_ok [o] r 16 (by omega), wnum_ok [r, o] h 1 ⟨by omega, by omega, by show h < 256; omega⟩]
  rfl
theorem pubW_not {o r : ByteArray} {h : Nat} (hh : h ≤ 6) (k : ¬ pubOk o r h) : (pubW o r h).err = 10 := by
  unfold pubW
  have hn : ¬ (o.size = 16 ∧ r.size = 16) := fun q => k ⟨by omega, q⟩
  by_cases h1 : o.size = 16
  · rw [wput_ok [] o 16 (by omega), wput_not [o] r 16 (by omega), wnum_err _ (by simp)]
  · rw [wput_not [] o 16 (by omega), wput_err _ (by simp), wnum_err _ (by simp)]
theorem total_fixed (s : WSt) (t : ByteArray) (k : Int) : total (s.fixed t k).ts ≤ t.size + total s.ts := by
  unfold WSt.fixed
  split
  · exact total_put s t
  · rw [total_fail]; omega
theorem total_num (s : WSt) (n : Nat) (k : Int) : total (s.num n k).ts ≤ 8 + total s.ts := by
  unfold WSt.num
  split
  · rename_i h
    have := total_put s (str (be n k.toNat))
    rw [str_size, be_length] at this
    omega
  · rw [total_fail]; omega
theorem pubW_total (o r : ByteArray) (h : Nat) : total (pubW o r h).ts ≤ 8 + (r.size + o.size) := by
  have h1 := total_num (((⟨[], 0⟩ : WSt).fixed o 16).fixed r 16) h 1
  have h2 := total_fixed ((⟨[], 0⟩ : WSt).fixed o 16) r 16
  have h3 := total_fixed (⟨[], 0⟩ : WSt) o 16
  have h4 : total (⟨[], 0⟩ : WSt).ts = 0 := rfl
  unfold pubW
  omega
/-- a Writer's answer -/
def WSt.ans (s : WSt) : ByteArray := if s.err = 0 then str (flat s.ts) else ⟨#[]⟩
theorem pubW_ans (o r : ByteArray) (h : Nat) (hh : h ≤ 6) : (pubW o r h).ans = pubEnc o r h ∧ (pubW o r h).err = pubErr o r h := by
  by_cases k : pubOk o r h
  · rw [pubW_ok k]
    unfold pubEnc pubErr WSt.ans
    rw [if_pos k, if_pos k, if_pos rfl]
    refine ⟨?_, rfl⟩
    simp [flat, pubB, str]
  · unfold pubEnc pubErr WSt.ans
    rw [pubW_not hh k, if_neg k, if_neg k]
    exact ⟨rfl, rfl⟩
/-- what is read of bytes, as a public key -/
structure DecP where
  o : ByteArray
  r : ByteArray
  h : Nat
  s : RSt
def decP (s : ByteArray) : DecP :=
  let a := (⟨s, 0⟩ : RSt).fixed 16
  let b := a.2.fixed 16
  let c := b.2.num 1
  ⟨a.1, b.1, c.1, c.2⟩
def DecP.err (d : DecP) : Int := if d.s.done ≠ 0 then d.s.done else if 6 < d.h then 4 else 0
theorem decP_h (s : ByteArray) : (decP s).h < 256 := by
  have h1 := num_of (((⟨s, 0⟩ : RSt).fixed 16).2.fixed 16).2 1 (by omega)
  have h2 : (decP s).h = ((((⟨s, 0⟩ : RSt).fixed 16).2.fixed 16).2.num (1 : Nat)).1 := rfl
  rw [h2, h1]
  have h3 := fixed_size (((⟨s, 0⟩ : RSt).fixed 16).2.fixed 16).2 1
  have h4 := val_lt (((((⟨s, 0⟩ : RSt).fixed 16).2.fixed 16).2.fixed (1 : Nat)).1.data.toList)
  have h5 : 256 ^ (((((⟨s, 0⟩ : RSt).fixed 16).2.fixed 16).2.fixed (1 : Nat)).1.data.toList).length ≤ 256 ^ 1 := Nat.pow_le_pow_right (by decide) (by rw [Array.length_toList]; exact h3)
  exact Nat.lt_of_lt_of_le h4 h5
theorem decP_33 (l : List UInt8) (hl : l.length = 33) : decP (str l) = ⟨str (l.take 16), str ((l.drop 16).take 16), val (l.drop 32), ⟨str [], 0⟩⟩ := by
  have h1 := rd_take l 16 (by omega)
  have h2 := rd_take (l.drop 16) 16 (by simp; omega)
  have h3 := num_of (⟨str ((l.drop 16).drop 16), 0⟩ : RSt) 1 (by omega)
  rw [rd_take _ 1 (by simp; omega)] at h3
  have h1' : (⟨str l, 0⟩ : RSt).fixed 16 = (str (l.take 16), ⟨str (l.drop 16), 0⟩) := h1
  have h2' : (⟨str (l.drop 16), 0⟩ : RSt).fixed 16 = (str ((l.drop 16).take 16), ⟨str ((l.drop 16).drop 16), 0⟩) := h2
  have h3' : (⟨str ((l.drop 16).drop 16), 0⟩ : RSt).num 1 = (val (str (((l.drop 16).drop 16).take 1)).data.toList, ⟨str (((l.drop 16).drop 16).drop 1), 0⟩) := h3
  have e1 : ((l.drop 16).drop 16).take 1 = l.drop 32 := by rw [List.drop_drop]; exact List.take_of_length_le (by simp; omega)
  have e2 : ((l.drop 16).drop 16).drop 1 = [] := by rw [List.drop_drop, List.drop_drop]; exact List.drop_of_length_le (by omega)
  rw [e1, e2] at h3'
  unfold decP
  rw [h1']
  simp only
  rw [h2']
  simp only
  rw [h3']
  rfl

/-! an entry -/
structure EntS where
  v : Nat
  o : ByteArray
  r : ByteArray
  h : Int
  p : ByteArray
def EntS.err (x : EntS) : Int := if x.v < 1 ∨ 4294967295 < x.v then 13 else if pubOk x.o x.r x.h ∧ x.p.size = 16 then 0 else 10
def EntS.bytes (x : EntS) : List UInt8 := be x.v 4 ++ (pubB x.o x.r x.h ++ x.p.data.toList)
def EntS.enc (x : EntS) : ByteArray := if x.err = 0 then str x.bytes else ⟨#[]⟩
def EntS.value (x : EntS) : ByteArray := if x.err = 0 then tagS 12 [str x.bytes] else ⟨#[]⟩
theorem EntS.fit {x : EntS} (h : x.err = 0) : (1 ≤ x.v ∧ x.v ≤ 4294967295) ∧ pubOk x.o x.r x.h ∧ x.p.size = 16 := by
  unfold EntS.err at h
  split at h
  · omega
  · split at h
    · exact ⟨by omega, by assumption⟩
    · omega
theorem EntS.of_fit {x : EntS} (h : (1 ≤ x.v ∧ x.v ≤ 4294967295) ∧ pubOk x.o x.r x.h ∧ x.p.size = 16) : x.err = 0 := by
  unfold EntS.err
  rw [if_neg (by omega), if_pos h.2]
/-- what the Writer holds, where the key has bytes -/
def entW (v : Nat) (k p : ByteArray) : WSt := (((⟨[], 0⟩ : WSt).num v 4).fixed k 33).fixed p 16
theorem pubB_len {o r : ByteArray} {h : Int} (k : pubOk o r h) : (pubB o r h).length = 33 := by
  obtain ⟨_, h1, h2⟩ := k
  unfold pubB
  rw [List.length_append, List.length_append, be_length, Array.length_toList, Array.length_toList]
  show o.size + (r.size + 1) = 33
  omega
theorem EntS.len {x : EntS} (h : x.err = 0) : x.bytes.length = 53 := by
  obtain ⟨_, h2, h3⟩ := EntS.fit h
  unfold EntS.bytes
  rw [List.length_append, List.length_append, be_length, pubB_len h2, Array.length_toList]
  show 4 + (33 + x.p.size) = 53
  omega
theorem entW_total (v : Nat) (k p : ByteArray) : total (entW v k p).ts ≤ p.size + (k.size + 8) := by
  have h1 := total_fixed (((⟨[], 0⟩ : WSt).num v 4).fixed k 33) p 16
  have h2 := total_fixed ((⟨[], 0⟩ : WSt).num v 4) k 33
  have h3 := total_num (⟨[], 0⟩ : WSt) v 4
  have h4 : total (⟨[], 0⟩ : WSt).ts = 0 := rfl
  unfold entW
  omega
theorem entW_ans (x : EntS) (hv : 1 ≤ x.v ∧ x.v ≤ 4294967295) (hk : pubOk x.o x.r x.h) : (entW x.v (str (pubB x.o x.r x.h)) x.p).ans = x.enc ∧ (entW x.v (str (pubB x.o x.r x.h)) x.p).err = x.err := by
  have hn : (⟨[], 0⟩ : WSt).num x.v 4 = ⟨[str (be x.v 4)], 0⟩ := by
    unfold WSt.num
    rw [if_pos ⟨by omega, by omega, by show x.v < 4294967296; omega⟩]
    rfl
  have hf : (⟨[str (be x.v 4)], 0⟩ : WSt).fixed (str (pubB x.o x.r x.h)) 33 = ⟨[str (pubB x.o x.r x.h), str (be x.v 4)], 0⟩ := by
    unfold WSt.fixed
    rw [str_size, pubB_len hk, if_pos (by rfl)]
    rfl
  unfold entW
  rw [hn, hf]
  by_cases hp : x.p.size = 16
  · have he : x.err = 0 := EntS.of_fit ⟨hv, hk, hp⟩
    unfold WSt.fixed EntS.enc
    rw [if_pos (by omega), he]
    refine ⟨?_, rfl⟩
    unfold WSt.ans
    simp only [WSt.put, if_true]
    simp [flat, EntS.bytes, str]
  · have he : x.err = 10 := by
      unfold EntS.err
      rw [if_neg (by omega), if_neg (fun q => hp q.2)]
    unfold WSt.fixed EntS.enc
    rw [if_neg (by omega), he]
    refine ⟨?_, rfl⟩
    unfold WSt.ans
    simp [WSt.fail]
theorem EntS.not_pub {x : EntS} (hv : 1 ≤ x.v ∧ x.v ≤ 4294967295) (hk : ¬ pubOk x.o x.r x.h) : x.err = 10 ∧ x.enc = ⟨#[]⟩ := by
  have he : x.err = 10 := by
    unfold EntS.err
    rw [if_neg (by omega), if_neg (fun q => hk q.1)]
  refine ⟨he, ?_⟩
  unfold EntS.enc
  rw [he]
  rfl
theorem EntS.not_ver {x : EntS} (hv : x.v < 1 ∨ 4294967295 < x.v) : x.err = 13 ∧ x.enc = ⟨#[]⟩ := by
  have he : x.err = 13 := by
    unfold EntS.err
    rw [if_pos hv]
  refine ⟨he, ?_⟩
  unfold EntS.enc
  rw [he]
  rfl
theorem EntS.value_size {x : EntS} (h : x.err = 0) : x.value.size = 16 := by
  unfold EntS.value
  rw [if_pos h]
  exact tagS_size _ _
theorem EntS.value_empty (x : EntS) : x.value.size = 0 ↔ x.err ≠ 0 := by
  constructor
  · intro h e
    rw [EntS.value_size e] at h
    cases h
  · intro h
    unfold EntS.value
    rw [if_neg h]
    rfl
/-- may an entry follow another one? -/
def EntS.next (x y : EntS) : Int := if y.v = 0 ∨ y.v - 1 ≠ x.v then 13 else if x.err ≠ 0 ∨ y.p ≠ x.value then 15 else 0
def noughtsS : ByteArray := ⟨#[0, 0, 0, 0, 0, 0, 0, 0, 0, 0, 0, 0, 0, 0, 0, 0]⟩
/-- each one and the one behind it -/
def chainE : List EntS → Int
  | [] => 0
  | [_] => 0
  | x :: y :: l => if x.next y ≠ 0 then x.next y else chainE (y :: l)
def histE : List EntS → Int
  | [] => 20
  | x :: l => if x.v ≠ 1 then 13 else if x.p ≠ noughtsS then 15 else chainE (x :: l)

/-- what is read of bytes, as an entry -/
structure DecE where
  v : Nat
  k : ByteArray
  p : ByteArray
  s : RSt
def decE (s : ByteArray) : DecE :=
  let a := (⟨s, 0⟩ : RSt).num 4
  let b := a.2.fixed 33
  let c := b.2.fixed 16
  ⟨a.1, b.1, c.1, c.2⟩
def DecE.err (d : DecE) : Int := if d.s.done ≠ 0 then d.s.done else if (decP d.k).err ≠ 0 then (decP d.k).err else if d.v < 1 then 13 else 0
def DecE.ent (d : DecE) : EntS := if d.err = 0 then ⟨d.v, (decP d.k).o, (decP d.k).r, (decP d.k).h, d.p⟩ else ⟨0, ⟨#[]⟩, ⟨#[]⟩, 0, ⟨#[]⟩⟩
theorem decE_53 (l : List UInt8) (hl : l.length = 53) : decE (str l) = ⟨val (l.take 4), str ((l.drop 4).take 33), str (l.drop 37), ⟨str [], 0⟩⟩ := by
  have h1 := num_of (⟨str l, 0⟩ : RSt) 4 (by omega)
  rw [rd_take l 4 (by omega)] at h1
  have h2 := rd_take (l.drop 4) 33 (by simp; omega)
  have h3 := rd_take ((l.drop 4).drop 33) 16 (by simp; omega)
  have h1' : (⟨str l, 0⟩ : RSt).num 4 = (val (str (l.take 4)).data.toList, ⟨str (l.drop 4), 0⟩) := h1
  have h2' : (⟨str (l.drop 4), 0⟩ : RSt).fixed 33 = (str ((l.drop 4).take 33), ⟨str ((l.drop 4).drop 33), 0⟩) := h2
  have h3' : (⟨str ((l.drop 4).drop 33), 0⟩ : RSt).fixed 16 = (str (((l.drop 4).drop 33).take 16), ⟨str (((l.drop 4).drop 33).drop 16), 0⟩) := h3
  have e1 : ((l.drop 4).drop 33).take 16 = l.drop 37 := by rw [List.drop_drop]; exact List.take_of_length_le (by simp; omega)
  have e2 : ((l.drop 4).drop 33).drop 16 = [] := by rw [List.drop_drop, List.drop_drop]; exact List.drop_of_length_le (by omega)
  rw [e1, e2] at h3'
  unfold decE
  rw [h1']
  simp only
  rw [h2']
  simp only
  rw [h3']
  rfl
theorem decE_less (l : List UInt8) (hl : l.length < 53) : (decE (str l)).err = 3 := by
  have key : (decE (str l)).s.err = 3 := by
    have h1 := num_of (⟨str l, 0⟩ : RSt) 4 (by omega)
    have h1' : (⟨str l, 0⟩ : RSt).num 4 = (val ((⟨str l, 0⟩ : RSt).fixed (4 : Nat)).1.data.toList, ((⟨str l, 0⟩ : RSt).fixed (4 : Nat)).2) := h1
    unfold decE
    rw [h1']
    simp only
    by_cases c1 : l.length < 4
    · rw [rd_less l 4 c1]
      simp only
      rw [rd_err (str l) 3 (by decide)]
      simp only
      rw [rd_err (str l) 3 (by decide)]
    · rw [rd_take l 4 (by omega)]
      simp only
      by_cases c2 : l.length < 37
      · have h2 := rd_less (l.drop 4) 33 (by simp; omega)
        have h2' : (⟨str (l.drop 4), 0⟩ : RSt).fixed 33 = _ := h2
        rw [h2']
        simp only
        rw [rd_err _ _ (by decide)]
      · have h2 := rd_take (l.drop 4) 33 (by simp; omega)
        have h2' : (⟨str (l.drop 4), 0⟩ : RSt).fixed 33 = _ := h2
        have h3 := rd_less ((l.drop 4).drop 33) 16 (by simp; omega)
        have h3' : (⟨str ((l.drop 4).drop 33), 0⟩ : RSt).fixed 16 = _ := h3
        rw [h2']
        simp only
        rw [h3']
  have hd : (decE (str l)).s.done = 3 := by
    unfold RSt.done
    rw [key]
    rfl
  unfold DecE.err
  rw [hd]
  rfl
theorem decE_more (l : List UInt8) (hl : 53 < l.length) : (decE (str l)).err = 2 := by
  have h1 := num_of (⟨str l, 0⟩ : RSt) 4 (by omega)
  rw [rd_take l 4 (by omega)] at h1
  have h2 := rd_take (l.drop 4) 33 (by simp; omega)
  have h3 := rd_take ((l.drop 4).drop 33) 16 (by simp; omega)
  have h1' : (⟨str l, 0⟩ : RSt).num 4 = (val (str (l.take 4)).data.toList, ⟨str (l.drop 4), 0⟩) := h1
  have h2' : (⟨str (l.drop 4), 0⟩ : RSt).fixed 33 = (str ((l.drop 4).take 33), ⟨str ((l.drop 4).drop 33), 0⟩) := h2
  have h3' : (⟨str ((l.drop 4).drop 33), 0⟩ : RSt).fixed 16 = (str (((l.drop 4).drop 33).take 16), ⟨str (((l.drop 4).drop 33).drop 16), 0⟩) := h3
  have hd : (decE (str l)).s.done = 2 := by
    unfold decE
    rw [h1']
    simp only
    rw [h2']
    simp only
    rw [h3']
    unfold RSt.done
    rw [if_pos]
    refine ⟨rfl, ?_⟩
    show (((l.drop 4).drop 33).drop 16).length ≠ 0
    simp
    omega
  unfold DecE.err
  rw [hd]
  rfl
theorem done_nil : (⟨str [], 0⟩ : RSt).done = 0 := by
  unfold RSt.done
  rw [if_neg (fun q => q.2 rfl)]
/-- bytes of the right length -/
theorem decE_right (l : List UInt8) (hl : l.length = 53) : (decE (str l)).err = if 6 < val ((l.drop 36).take 1) then 4 else if val (l.take 4) < 1 then 13 else 0 := by
  unfold DecE.err
  rw [decE_53 l hl]
  simp only
  rw [done_nil, decP_33 _ (by simp; omega)]
  unfold DecP.err
  simp only
  rw [done_nil]
  have e : ((l.drop 4).take 33).drop 32 = (l.drop 36).take 1 := by rw [List.drop_take, List.drop_drop]
  rw [e]
  simp only [ne_eq, not_true_eq_false, if_false]
  split
  · simp
  · simp
theorem decE_back (l : List UInt8) (hl : l.length = 53) (he : (decE (str l)).err = 0) : (decE (str l)).ent.err = 0 ∧ (decE (str l)).ent.bytes = l := by
  have hr := decE_right l hl
  rw [he] at hr
  have hb := be_val ((l.drop 36).take 1) 1 (by simp; omega)
  have hv := be_val (l.take 4) 4 (by simp; omega)
  have h6 : ¬ 6 < val ((l.drop 36).take 1) := by intro h; rw [if_pos h] at hr; cases hr
  have h1 : ¬ val (l.take 4) < 1 := by intro h; rw [if_neg h6, if_pos h] at hr; cases hr
  have hlt : val (l.take 4) < 256 ^ 4 := by
    have := val_lt (l.take 4)
    rwa [List.length_take, Nat.min_eq_left (by omega)] at this
  have e : ((l.drop 4).take 33).drop 32 = (l.drop 36).take 1 := by rw [List.drop_take, List.drop_drop]
  unfold DecE.ent
  rw [if_pos he, decE_53 l hl]
  simp only
  rw [decP_33 _ (by simp; omega), e]
  have q1 : (((l.drop 4).take 33).take 16).length = 16 := by simp; omega
  have q2 : ((((l.drop 4).take 33).drop 16).take 16).length = 16 := by simp; omega
  refine ⟨EntS.of_fit ⟨⟨by show 1 ≤ val (l.take 4); omega, by show val (l.take 4) ≤ 4294967295; omega⟩, ⟨⟨by show (0 : Int) ≤ ((val ((l.drop 36).take 1) : Nat) : Int); omega, by show ((val ((l.drop 36).take 1) : Nat) : Int) ≤ 6; omega⟩, q1, q2⟩, ?_⟩, ?_⟩
  · show (l.drop 37).length = 16
    simp
    omega
  · show be (val (l.take 4)) 4 ++ ((((l.drop 4).take 33).take 16 ++ ((((l.drop 4).take 33).drop 16).take 16 ++ be (val ((l.drop 36).take 1)) 1)) ++ l.drop 37) = l
    rw [hb, hv]
    have t1 : ((l.drop 4).take 33).take 16 ++ ((((l.drop 4).take 33).drop 16).take 16 ++ (l.drop 36).take 1) = (l.drop 4).take 33 := by
      rw [← e]
      have : ((l.drop 4).take 33).drop 32 = (((l.drop 4).take 33).drop 16).drop 16 := by rw [List.drop_drop]
      rw [this, List.take_append_drop, List.take_append_drop]
    rw [t1]
    have t2 : (l.drop 4).drop 33 = l.drop 37 := by rw [List.drop_drop]
    rw [← t2, List.take_append_drop, List.take_append_drop]
theorem str_inj {a b : List UInt8} (h : str a = str b) : a = b := by
  have := congrArg (fun x : ByteArray => x.data.toList) h
  simpa [str] using this
theorem text_str (t : ByteArray) : str t.data.toList = t := by apply ByteArray.ext; simp [str]
theorem be_inj {a b k : Nat} (ha : a < 256 ^ k) (hb : b < 256 ^ k) (h : be a k = be b k) : a = b := by
  rw [← val_be a k ha, h, val_be b k hb]
/-- an entry that was written is read -/
theorem decE_enc (x : EntS) (h : x.err = 0) : (decE x.enc).err = 0 ∧ (decE x.enc).ent = x := by
  have hl := EntS.len h
  have hx : x.enc = str x.bytes := by unfold EntS.enc; rw [if_pos h]
  obtain ⟨⟨v1, v2⟩, ⟨⟨k1, k2⟩, k3, k4⟩, k5⟩ := EntS.fit h
  have hb3 : x.bytes = be x.v 4 ++ (x.o.data.toList ++ (x.r.data.toList ++ (be x.h.toNat 1 ++ x.p.data.toList))) := by unfold EntS.bytes pubB; simp only [List.append_assoc]
  have lo : x.o.data.toList.length = 16 := by rw [Array.length_toList]; exact k3
  have lr : x.r.data.toList.length = 16 := by rw [Array.length_toList]; exact k4
  have e1 : x.bytes.take 4 = be x.v 4 := by rw [hb3, List.take_append_of_le_length (by rw [be_length]; omega), List.take_of_length_le (by rw [be_length]; omega)]
  have d4 : x.bytes.drop 4 = x.o.data.toList ++ (x.r.data.toList ++ (be x.h.toNat 1 ++ x.p.data.toList)) := by rw [hb3]; exact List.drop_left' (be_length _ _)
  have d36 : x.bytes.drop 36 = be x.h.toNat 1 ++ x.p.data.toList := by
    have : x.bytes.drop 36 = ((x.bytes.drop 4).drop 16).drop 16 := by rw [List.drop_drop, List.drop_drop]
    rw [this, d4, List.drop_left' lo, List.drop_left' lr]
  have e2 : (x.bytes.drop 36).take 1 = be x.h.toNat 1 := by rw [d36, List.take_append_of_le_length (by rw [be_length]; omega), List.take_of_length_le (by rw [be_length]; omega)]
  have vv : val (be x.v 4) = x.v := val_be _ _ (by show x.v < 4294967296; omega)
  have vh : val (be x.h.toNat 1) = x.h.toNat := val_be _ _ (by show x.h.toNat < 256; omega)
  have he : (decE x.enc).err = 0 := by
    rw [hx, decE_right _ hl, e1, e2, vv, vh, if_neg (by omega), if_neg (by omega)]
  refine ⟨he, ?_⟩
  rw [hx] at he ⊢
  unfold DecE.ent
  rw [if_pos he, decE_53 _ hl]
  simp only
  rw [decP_33 _ (by simp; omega)]
  have e : ((x.bytes.drop 4).take 33).drop 32 = (x.bytes.drop 36).take 1 := by rw [List.drop_take, List.drop_drop]
  have eo : ((x.bytes.drop 4).take 33).take 16 = x.o.data.toList := by
    rw [List.take_take, d4, show min 16 33 = 16 from rfl, List.take_append_of_le_length (by omega), List.take_of_length_le (by omega)]
  have er : (((x.bytes.drop 4).take 33).drop 16).take 16 = x.r.data.toList := by
    rw [List.drop_take, List.take_take, d4, List.drop_left' lo, show min 16 (33 - 16) = 16 from rfl, List.take_append_of_le_length (by omega), List.take_of_length_le (by omega)]
  have ep : x.bytes.drop 37 = x.p.data.toList := by
    have : x.bytes.drop 37 = (x.bytes.drop 36).drop 1 := by rw [List.drop_drop]
    rw [this, d36]
    exact List.drop_left' (be_length _ _)
  simp only
  rw [e, e1, e2, vv, vh, eo, er, ep, text_str, text_str, text_str]
  have : ((x.h.toNat : Nat) : Int) = x.h := by omega
  rw [this]
end Go.Proofs.YtioahjdojgcfdaaDoor

namespace Go.Proofs.YtioahjdojgcfdaaDoor

def catS : List ByteArray → List UInt8
  | [] => []
  | t :: r => t.data.toList ++ catS r
theorem catS_append (a b : List ByteArray) : catS (a ++ b) = catS a ++ catS b := by
  induction a with
  | nil => rfl
  | cons t r ih =>
    show t.data.toList ++ catS (r ++ b) = (t.data.toList ++ catS r) ++ catS b
    rw [ih, List.append_assoc]
theorem text_len (t : ByteArray) : t.data.toList.length = t.size := by rw [Array.length_toList]; rfl
theorem catS_16 : ∀ (L : List ByteArray), (∀ t ∈ L, t.size = 16) → (catS L).length = 16 * L.length
  | [], _ => rfl
  | t :: r, h => by
    have h1 := catS_16 r (fun y hy => h y (List.mem_cons_of_mem _ hy))
    have h2 := h t List.mem_cons_self
    show (t.data.toList ++ catS r).length = _
    rw [List.length_append, h1, List.length_cons, text_len]
    omega
theorem flat_rev (L : List ByteArray) : ∀ ts, flat (L.reverse ++ ts) = flat ts ++ catS L := by
  induction L with
  | nil => intro ts; show flat ts = flat ts ++ []; rw [List.append_nil]
  | cons t r ih =>
    intro ts
    rw [List.reverse_cons, List.append_assoc, ih]
    show (flat ts ++ t.data.toList) ++ catS r = flat ts ++ (t.data.toList ++ catS r)
    rw [List.append_assoc]
theorem put16 (ts : List ByteArray) (t : ByteArray) (h : t.size = 16) : (⟨ts, 0⟩ : WSt).fixed t 16 = ⟨t :: ts, 0⟩ := wput_ok ts t 16 (by omega)
/-- the Reader behind n texts of 16 bytes, and these -/
def reads : Nat → RSt → List ByteArray × RSt
  | 0, s => ([], s)
  | n + 1, s => ((reads n s).1 ++ [((reads n s).2.fixed 16).1], ((reads n s).2.fixed 16).2)
theorem reads_len (s : RSt) : ∀ n, (reads n s).1.length = n
  | 0 => rfl
  | n + 1 => by show ((reads n s).1 ++ [_]).length = _; rw [List.length_append, reads_len s n]; rfl
theorem reads_rest (s : RSt) : ∀ n, (reads n s).2.rest.size ≤ s.rest.size
  | 0 => Nat.le_refl _
  | n + 1 => Nat.le_trans (rest_le _ _).2 (reads_rest s n)
theorem take_at {L : List ByteArray} {k : Nat} {t : ByteArray} (h : L[k]? = some t) : L.take (k + 1) = L.take k ++ [t] ∧ L.drop k = t :: L.drop (k + 1) := by
  obtain ⟨hk, rfl⟩ := List.getElem?_eq_some_iff.1 h
  exact ⟨by rw [List.take_add_one, List.getElem?_eq_getElem hk]; rfl, List.drop_eq_getElem_cons hk⟩
theorem reads_some (L : List ByteArray) (more : List UInt8) (h : ∀ t ∈ L, t.size = 16) : ∀ k, k ≤ L.length → reads k ⟨str (catS L ++ more), 0⟩ = (L.take k, ⟨str (catS (L.drop k) ++ more), 0⟩)
  | 0, _ => rfl
  | k + 1, hk => by
    obtain ⟨t, ht⟩ : ∃ t, L[k]? = some t := ⟨_, List.getElem?_eq_getElem (by omega)⟩
    have h16 := h t (List.mem_of_getElem? ht)
    obtain ⟨e1, e2⟩ := take_at ht
    have hf := rd_fixed t (catS (L.drop (k + 1)) ++ more)
    rw [h16] at hf
    show ((reads k _).1 ++ [((reads k _).2.fixed 16).1], ((reads k _).2.fixed 16).2) = _
    rw [reads_some L more h k (by omega), e1, e2]
    show (L.take k ++ [((⟨str ((t.data.toList ++ catS (L.drop (k + 1))) ++ more), 0⟩ : RSt).fixed 16).1], ((⟨str ((t.data.toList ++ catS (L.drop (k + 1))) ++ more), 0⟩ : RSt).fixed 16).2) = _
    rw [List.append_assoc]
    have hf : (⟨str (t.data.toList ++ (catS (L.drop (k + 1)) ++ more)), 0⟩ : RSt).fixed 16 = _ := hf
    rw [hf]
theorem reads_all (L : List ByteArray) (more : List UInt8) (h : ∀ t ∈ L, t.size = 16) (n : Nat) (hn : L.length = n) : reads n ⟨str (catS L ++ more), 0⟩ = (L, ⟨str more, 0⟩) := by
  rw [← hn, reads_some L more h L.length (Nat.le_refl _), List.take_of_length_le (Nat.le_refl _), List.drop_of_length_le (Nat.le_refl _)]
  rfl

/-! a signature -/
def sigB (i : Nat) (C P : List ByteArray) : List UInt8 := be i 1 ++ (catS C ++ (be P.length 1 ++ catS P))
theorem sigB_len (i : Nat) (C P : List ByteArray) (hC : C.length = 35) (h1 : ∀ t ∈ C, t.size = 16) (h2 : ∀ t ∈ P, t.size = 16) : (sigB i C P).length = 562 + 16 * P.length := by
  unfold sigB
  rw [List.length_append, List.length_append, List.length_append, be_length, be_length, catS_16 C h1, catS_16 P h2, hC]
  omega
structure DecG where
  i : Nat
  C : List ByteArray
  n : Nat
  P : List ByteArray
  s : RSt
def decG (s : ByteArray) : DecG :=
  ⟨((⟨s, 0⟩ : RSt).num 1).1, (reads 35 ((⟨s, 0⟩ : RSt).num 1).2).1, ((reads 35 ((⟨s, 0⟩ : RSt).num 1).2).2.num 1).1, (reads (min ((reads 35 ((⟨s, 0⟩ : RSt).num 1).2).2.num 1).1 6) ((reads 35 ((⟨s, 0⟩ : RSt).num 1).2).2.num 1).2).1, (reads (min ((reads 35 ((⟨s, 0⟩ : RSt).num 1).2).2.num 1).1 6) ((reads 35 ((⟨s, 0⟩ : RSt).num 1).2).2.num 1).2).2⟩
def DecG.err (d : DecG) : Int := if d.s.done ≠ 3 ∧ (63 < d.i ∨ 6 < d.n) then 4 else d.s.done
theorem decG_fine (i : Nat) (C P : List ByteArray) (hi : i ≤ 63) (hC : C.length = 35) (hP : P.length ≤ 6) (h1 : ∀ t ∈ C, t.size = 16) (h2 : ∀ t ∈ P, t.size = 16) : decG (str (sigB i C P)) = ⟨i, C, P.length, P, ⟨str [], 0⟩⟩ := by
  have e1 : (1 : Int).toNat = 1 := rfl
  have a1 := rd_num (n := i) (k := 1) ⟨by omega, by omega, by show i < 256; omega⟩ (catS C ++ (be P.length 1 ++ catS P))
  rw [e1] at a1
  have a2 := reads_all C (be P.length 1 ++ catS P) h1 35 hC
  have a3 := rd_num (n := P.length) (k := 1) ⟨by omega, by omega, by show P.length < 256; omega⟩ (catS P)
  rw [e1] at a3
  have a4 := reads_all P [] h2 (min P.length 6) (by omega)
  rw [List.append_nil] at a4
  unfold decG sigB
  rw [a1]
  simp only
  rw [a2]
  simp only
  rw [a3]
  simp only
  rw [a4]
theorem decG_ok (i : Nat) (C P : List ByteArray) (hi : i ≤ 63) (hP : P.length ≤ 6) : (⟨i, C, P.length, P, ⟨str [], 0⟩⟩ : DecG).err = 0 := by
  unfold DecG.err
  rw [done_nil, if_neg (by simp only; omega)]

/-! an update -/
def textU (t : ByteArray) : List UInt8 := be t.size 2 ++ t.data.toList
theorem textU_len (t : ByteArray) : (textU t).length = 2 + t.size := by unfold textU; rw [List.length_append, be_length, text_len]
def updB (l x s : ByteArray) : List UInt8 := textU l ++ (textU x ++ textU s)
structure DecU where
  l : ByteArray
  x : ByteArray
  g : ByteArray
  s : RSt
def decU (b : ByteArray) : DecU := ⟨(⟨b, 0⟩ : RSt).text.1, (⟨b, 0⟩ : RSt).text.2.text.1, (⟨b, 0⟩ : RSt).text.2.text.2.text.1, (⟨b, 0⟩ : RSt).text.2.text.2.text.2⟩
theorem decU_more (l x g : ByteArray) (y : List UInt8) (h1 : l.size ≤ 4096) (h2 : x.size ≤ 4096) (h3 : g.size ≤ 4096) : decU (str (updB l x g ++ y)) = ⟨l, x, g, ⟨str y, 0⟩⟩ := by
  have a1 := rd_text h1 (textU x ++ (textU g ++ y))
  have a2 := rd_text h2 (textU g ++ y)
  have a3 := rd_text h3 y
  have e : updB l x g ++ y = (be l.size 2 ++ l.data.toList) ++ (textU x ++ (textU g ++ y)) := by unfold updB textU; simp only [List.append_assoc]
  rw [e]
  unfold decU
  rw [a1]
  simp only
  rw [show textU x ++ (textU g ++ y) = (be x.size 2 ++ x.data.toList) ++ (textU g ++ y) from rfl, a2]
  simp only
  rw [show textU g ++ y = (be g.size 2 ++ g.data.toList) ++ y from rfl, a3]
theorem decU_fine (l x g : ByteArray) (h1 : l.size ≤ 4096) (h2 : x.size ≤ 4096) (h3 : g.size ≤ 4096) : decU (str (updB l x g)) = ⟨l, x, g, ⟨str [], 0⟩⟩ := by
  have := decU_more l x g [] h1 h2 h3
  rwa [List.append_nil] at this
/-- bytes that stop within a text -/
theorem text_less (t : ByteArray) (ht : t.size ≤ 4096) (k : Nat) (hk : k < 2 + t.size) : (⟨str ((textU t).take k), 0⟩ : RSt).text.2.err = 3 := by
  by_cases h2 : k < 2
  · have hl : ((textU t).take k).length = k := by rw [List.length_take, textU_len]; omega
    have hf : (⟨str ((textU t).take k), 0⟩ : RSt).fixed ((2 : Nat) : Int) = _ := rd_less ((textU t).take k) 2 (by omega)
    have hn := num_of (⟨str ((textU t).take k), 0⟩ : RSt) 2 (by decide)
    rw [hf] at hn
    have hn : (⟨str ((textU t).take k), 0⟩ : RSt).num 2 = (0, ⟨str ((textU t).take k), 3⟩) := hn
    unfold RSt.text
    rw [hn]
    simp only
    rw [if_neg (by decide)]
    have := rd_err (str ((textU t).take k)) 3 (by decide) ((0 : Nat) : Int)
    rw [this]
  · have hs : (textU t).take k = be t.size 2 ++ t.data.toList.take (k - 2) := by
      unfold textU
      rw [List.take_append, be_length, List.take_of_length_le (by rw [be_length]; omega)]
    have hn := rd_num (n := t.size) (k := 2) ⟨by omega, by omega, by show t.size < 65536; omega⟩ (t.data.toList.take (k - 2))
    have e2 : (2 : Int).toNat = 2 := rfl
    rw [e2] at hn
    rw [hs]
    unfold RSt.text
    rw [hn]
    simp only
    rw [if_neg (by omega), rd_less _ t.size (by rw [List.length_take, text_len]; omega)]
theorem fixed_errP {s : RSt} (h : s.err ≠ 0) (k : Int) : s.fixed k = (ByteArray.empty, s) := by
  obtain ⟨r, e⟩ := s
  exact rd_err r e h k
theorem text_errP {s : RSt} (h : s.err ≠ 0) : s.text.2.err = s.err := by
  have hn := num_of s 2 (by decide)
  have hf : s.fixed ((2 : Nat) : Int) = _ := fixed_errP h 2
  rw [hf] at hn
  have hn : s.num 2 = (0, s) := hn
  unfold RSt.text
  rw [hn]
  simp only
  rw [if_neg (by decide), fixed_errP h]
theorem done_err {s : RSt} (h : s.err = 3) : s.done = 3 := by
  unfold RSt.done
  rw [if_neg (by rw [h]; simp), h]
theorem decU_less (l x g : ByteArray) (k : Nat) (h1 : l.size ≤ 4096) (h2 : x.size ≤ 4096) (h3 : g.size ≤ 4096) (hk : k < (updB l x g).length) : (decU (str ((updB l x g).take k))).s.done = 3 := by
  refine done_err ?_
  show (⟨str ((updB l x g).take k), 0⟩ : RSt).text.2.text.2.text.2.err = 3
  have hlen : (updB l x g).length = (2 + l.size) + ((2 + x.size) + (2 + g.size)) := by unfold updB; rw [List.length_append, List.length_append, textU_len, textU_len, textU_len]
  by_cases k1 : k < 2 + l.size
  · have e : (updB l x g).take k = (textU l).take k := by
      unfold updB
      rw [List.take_append, show k - (textU l).length = 0 from by rw [textU_len]; omega, List.take_zero, List.append_nil]
    rw [e]
    have a := text_less l h1 k k1
    have b := text_errP (s := (⟨str ((textU l).take k), 0⟩ : RSt).text.2) (by rw [a]; decide)
    rw [a] at b
    have c := text_errP (s := (⟨str ((textU l).take k), 0⟩ : RSt).text.2.text.2) (by rw [b]; decide)
    rw [c, b]
  · have e : (updB l x g).take k = textU l ++ (textU x ++ textU g).take (k - (2 + l.size)) := by
      unfold updB
      rw [List.take_append, textU_len, List.take_of_length_le (by rw [textU_len]; omega)]
    rw [e, show textU l ++ (textU x ++ textU g).take (k - (2 + l.size)) = (be l.size 2 ++ l.data.toList) ++ (textU x ++ textU g).take (k - (2 + l.size)) from rfl, rd_text h1]
    simp only
    by_cases k2 : k - (2 + l.size) < 2 + x.size
    · have e : (textU x ++ textU g).take (k - (2 + l.size)) = (textU x).take (k - (2 + l.size)) := by
        rw [List.take_append, show k - (2 + l.size) - (textU x).length = 0 from by rw [textU_len]; omega, List.take_zero, List.append_nil]
      rw [e]
      have a := text_less x h2 _ k2
      have b := text_errP (s := (⟨str ((textU x).take (k - (2 + l.size))), 0⟩ : RSt).text.2) (by rw [a]; decide)
      rw [b, a]
    · have e : (textU x ++ textU g).take (k - (2 + l.size)) = textU x ++ (textU g).take (k - (2 + l.size) - (2 + x.size)) := by
        rw [List.take_append, textU_len, List.take_of_length_le (by rw [textU_len]; omega)]
      rw [e, show textU x ++ (textU g).take (k - (2 + l.size) - (2 + x.size)) = (be x.size 2 ++ x.data.toList) ++ (textU g).take (k - (2 + l.size) - (2 + x.size)) from rfl, rd_text h2]
      exact text_less g h3 _ (by omega)
end Go.Proofs.YtioahjdojgcfdaaDoor

namespace Go.Proofs.YtioahjdojgcfdaaDoor

theorem str_self' (s : ByteArray) : str s.data.toList = s := by apply ByteArray.ext; simp [str]
/-- a text's bytes -/
def textB (t : ByteArray) : List UInt8 := be t.size 2 ++ t.data.toList
def textsB (L : List ByteArray) : List UInt8 := L.flatMap textB
/-- a proof's bytes -/
def encB (L : List ByteArray) (t : Bool) (k y : ByteArray) : List UInt8 := be L.length 1 ++ (textsB L ++ (be (if t then 1 else 0) 1 ++ (textB k ++ textB y)))
theorem textsB_snoc (L : List ByteArray) (x : ByteArray) : textsB (L ++ [x]) = textsB L ++ textB x := by simp [textsB]
/-- some texts, read one by one -/
def readK (s : RSt) : Nat → List ByteArray × RSt
  | 0 => ([], s)
  | i + 1 => ((readK s i).1 ++ [(readK s i).2.text.1], (readK s i).2.text.2)
theorem readK_len (s : RSt) : ∀ i, (readK s i).1.length = i
  | 0 => rfl
  | i + 1 => by simp [readK, readK_len s i]
structure DecS where
  L : List ByteArray
  t : Nat
  k : ByteArray
  y : ByteArray
  s : RSt
/-- what is read of bytes, whatever they are -/
def decS (j : ByteArray) : DecS :=
  let a := (⟨j, 0⟩ : RSt).num 1
  let b := readK a.2 a.1
  let c := b.2.num 1
  ⟨b.1, c.1, c.2.text.1, c.2.text.2.text.1, c.2.text.2.text.2⟩

/-! what was written is read -/
theorem read_texts (r : List UInt8) : ∀ (M L : List ByteArray), (∀ x ∈ L ++ M, x.size ≤ 4096) → readK ⟨str (textsB (L ++ M) ++ r), 0⟩ L.length = (L, ⟨str (textsB M ++ r), 0⟩) := by
  have key : ∀ (n : Nat) (A : List ByteArray), (∀ x ∈ A, x.size ≤ 4096) → n ≤ A.length → readK ⟨str (textsB A ++ r), 0⟩ n = (A.take n, ⟨str (textsB (A.drop n) ++ r), 0⟩) := by
    intro n
    induction n with
    | zero => intro A _ _; rfl
    | succ n ih =>
      intro A hA hn
      have h := ih A hA (by omega)
      have hd : A.drop n = A[n] :: A.drop (n + 1) := List.drop_eq_getElem_cons (by omega)
      have e : textsB (A.drop n) ++ r = (be A[n].size 2 ++ A[n].data.toList) ++ (textsB (A.drop (n + 1)) ++ r) := by
        rw [hd]
        show (textB A[n] ++ textsB (A.drop (n + 1))) ++ r = _
        rw [List.append_assoc]
        rfl
      rw [e] at h
      have ht := rd_text (hA A[n] (List.getElem_mem _)) (textsB (A.drop (n + 1)) ++ r)
      show ((readK _ n).1 ++ [(readK _ n).2.text.1], (readK _ n).2.text.2) = _
      rw [h]
      simp only
      rw [ht, List.take_succ_eq_append_getElem (by omega)]
  intro M L h
  have := key L.length (L ++ M) h (by simp)
  simpa using this
theorem dec_enc (L : List ByteArray) (t : Bool) (k y : ByteArray) (hl : L.length ≤ 128) (hL : ∀ x ∈ L, x.size ≤ 4096) (hk : k.size ≤ 4096) (hy : y.size ≤ 4096) : decS (str (encB L t k y)) = ⟨L, (if t then 1 else 0), k, y, ⟨str [], 0⟩⟩ := by
  have h1 := rd_num (n := L.length) (k := 1) ⟨by omega, by omega, by show L.length < 256; omega⟩ (textsB L ++ (be (if t then 1 else 0) 1 ++ (textB k ++ textB y)))
  have e1 : (1 : Int).toNat = 1 := rfl
  rw [e1] at h1
  have h2 := read_texts (be (if t then 1 else 0) 1 ++ (textB k ++ textB y)) [] L (by simpa using hL)
  rw [List.append_nil] at h2
  have h3 := rd_num (n := if t then 1 else 0) (k := 1) ⟨by omega, by omega, by cases t <;> decide⟩ (textB k ++ textB y)
  rw [e1] at h3
  have h4 := rd_text hk (textB y)
  have h5 := rd_text hy []
  rw [List.append_nil] at h5
  unfold decS encB
  simp only
  rw [h1]
  simp only
  rw [h2]
  simp only
  rw [show textsB [] ++ (be (if t then 1 else 0) 1 ++ (textB k ++ textB y)) = be (if t then 1 else 0) 1 ++ (textB k ++ textB y) from rfl, h3]
  simp only
  rw [show textB k ++ textB y = (be k.size 2 ++ k.data.toList) ++ textB y from rfl, h4]
  simp only
  rw [show textB y = be y.size 2 ++ y.data.toList from rfl, h5]

/-! what was read, written again -/
/-- a state in which nothing was wrong yet, or what may be wrong -/
def errOK (s : RSt) : Prop := s.err = 0 ∨ s.err = 3 ∨ s.err = 4
theorem fixed_err {s : RSt} (h : errOK s) (k : Int) : errOK (s.fixed k).2 := by
  unfold RSt.fixed
  split
  · exact h
  · rename_i h0
    have h0' : s.err = 0 := by omega
    split
    · unfold RSt.fail; rw [if_pos h0']; exact Or.inr (Or.inr rfl)
    · split
      · unfold RSt.fail; rw [if_pos h0']; exact Or.inr (Or.inl rfl)
      · exact Or.inl h0'
theorem failR_err {s : RSt} (h : errOK s) : errOK (s.fail 4) := by
  unfold RSt.fail
  split
  · exact Or.inr (Or.inr rfl)
  · exact h
theorem num_err {s : RSt} (h : errOK s) (k : Int) : errOK (s.num k).2 := by
  unfold RSt.num
  split
  · exact fixed_err h k
  · exact failR_err h
theorem text_err {s : RSt} (h : errOK s) : errOK s.text.2 := by
  unfold RSt.text
  split
  · exact failR_err (num_err h 2)
  · exact fixed_err (num_err h 2) _
theorem readK_err {s : RSt} (h : errOK s) : ∀ i, errOK (readK s i).2
  | 0 => h
  | i + 1 => text_err (readK_err h i)
/-- an error stays -/
theorem fixed_stay {s : RSt} {k : Int} (h : (s.fixed k).2.err = 0) : s.err = 0 := by
  unfold RSt.fixed at h
  split at h
  · exact h
  · omega
theorem fail_stay {s : RSt} : (s.fail 4).err ≠ 0 := by
  unfold RSt.fail
  split
  · simp
  · assumption
theorem num_back {s : RSt} {k : Int} (hk : 1 ≤ k ∧ k ≤ 8) (h : (s.num k).2.err = 0) : s.err = 0 ∧ ∃ l : List UInt8, l.length = k.toNat ∧ (s.num k).1 = val l ∧ s.rest.data.toList = l ++ (s.num k).2.rest.data.toList := by
  unfold RSt.num at h ⊢
  rw [if_pos hk] at h ⊢
  have h0 := fixed_stay h
  refine ⟨h0, ?_⟩
  unfold RSt.fixed at h ⊢
  rw [if_neg (by omega)] at h ⊢
  rw [if_neg (by omega)] at h ⊢
  split at h
  · exact absurd h (by unfold RSt.fail; rw [if_pos h0]; show ¬ ((3 : Int) = 0); decide)
  · rename_i hs
    rw [if_neg hs]
    have hle : k.toNat ≤ s.rest.size := by omega
    refine ⟨s.rest.data.toList.take k.toNat, by rw [List.length_take, Array.length_toList]; exact Nat.min_eq_left hle, ?_, ?_⟩
    · simp
    · show s.rest.data.toList = _ ++ (s.rest.extract k.toNat s.rest.size).data.toList
      rw [ByteArray.data_extract, Array.toList_extract]
      have e : (s.rest.data.toList.drop k.toNat).take (s.rest.size - k.toNat) = s.rest.data.toList.drop k.toNat := List.take_of_length_le (by rw [List.length_drop, Array.length_toList]; exact Nat.le_refl _)
      show _ = _ ++ ((s.rest.data.toList.drop k.toNat).take (s.rest.size - k.toNat))
      rw [e, List.take_append_drop]
theorem be_one (l : List UInt8) (h : l.length = 1) : be (val l) 1 = l := by
  match l, h with
  | [c], _ => simp [be, val]
theorem be_two (l : List UInt8) (h : l.length = 2) : be (val l) 2 = l := by
  match l, h with
  | [c, d], _ =>
    have hc := c.toNat_lt
    have hd := d.toNat_lt
    simp only [be, val, List.foldl_cons, List.foldl_nil, List.nil_append, List.cons_append, Nat.mul_zero, Nat.zero_add]
    have e1 : (256 * c.toNat + d.toNat) / 256 = c.toNat := by omega
    have e2 : (256 * c.toNat + d.toNat) % 256 = d.toNat := by omega
    rw [e1, e2, Nat.mod_eq_of_lt hc]
    simp
theorem val_one_small (l : List UInt8) (h : l.length = 1) : val l < 256 := by have := val_lt l; rw [h] at this; omega
theorem text_back {s : RSt} (h : s.text.2.err = 0) : s.err = 0 ∧ s.text.1.size ≤ 4096 ∧ s.rest.data.toList = textB s.text.1 ++ s.text.2.rest.data.toList := by
  unfold RSt.text at h ⊢
  split at h
  · exact absurd h fail_stay
  · rename_i hn
    rw [if_neg hn]
    have h1 := fixed_stay h
    obtain ⟨h0, l, hl, hv, hr⟩ := num_back (k := 2) ⟨by omega, by omega⟩ h1
    obtain ⟨N, hN⟩ : ∃ N, (s.num 2).1 = N := ⟨_, rfl⟩
    obtain ⟨s2, hs2⟩ : ∃ s2, (s.num 2).2 = s2 := ⟨_, rfl⟩
    rw [hN, hs2] at h ⊢
    rw [hs2] at h1 hr
    rw [hN] at hn hv
    refine ⟨h0, ?_⟩
    unfold RSt.fixed at h ⊢
    rw [if_neg (by omega)] at h ⊢
    rw [if_neg (by omega)] at h ⊢
    split at h
    · exact absurd h (by unfold RSt.fail; rw [if_pos h1]; show ¬ ((3 : Int) = 0); decide)
    · rename_i hsz
      rw [if_neg hsz]
      have hle : N ≤ s2.rest.size := by omega
      have hsize : (s2.rest.extract 0 (N : Int).toNat).size = N := by rw [ByteArray.size_extract]; simp; omega
      refine ⟨by show (s2.rest.extract 0 (N : Int).toNat).size ≤ 4096; rw [hsize]; omega, ?_⟩
      have hx : (s2.rest.extract 0 (N : Int).toNat).data.toList ++ (s2.rest.extract (N : Int).toNat s2.rest.size).data.toList = s2.rest.data.toList := by
        rw [ByteArray.data_extract, ByteArray.data_extract, Array.toList_extract, Array.toList_extract]
        show ((s2.rest.data.toList.drop 0).take ((N : Int).toNat - 0)) ++ ((s2.rest.data.toList.drop (N : Int).toNat).take (s2.rest.size - (N : Int).toNat)) = _
        have e : (s2.rest.data.toList.drop (N : Int).toNat).take (s2.rest.size - (N : Int).toNat) = s2.rest.data.toList.drop (N : Int).toNat := List.take_of_length_le (by rw [List.length_drop, Array.length_toList]; exact Nat.le_refl _)
        rw [e, List.drop_zero, Nat.sub_zero, List.take_append_drop]
      show s.rest.data.toList = textB (s2.rest.extract 0 (N : Int).toNat) ++ (s2.rest.extract (N : Int).toNat s2.rest.size).data.toList
      unfold textB
      rw [hsize, List.append_assoc, hx, hr]
      congr 1
      rw [hv, be_two l hl]
theorem readK_back {s : RSt} : ∀ i, (readK s i).2.err = 0 → s.err = 0 ∧ (∀ x ∈ (readK s i).1, x.size ≤ 4096) ∧ s.rest.data.toList = textsB (readK s i).1 ++ (readK s i).2.rest.data.toList
  | 0, h => ⟨h, (fun x hx => by cases hx), rfl⟩
  | i + 1, h => by
    have h1 := text_back h
    obtain ⟨h2, h3, h4⟩ := readK_back i h1.1
    refine ⟨h2, fun x hx => ?_, ?_⟩
    · rcases List.mem_append.1 hx with q | q
      · exact h3 x q
      · rw [List.mem_singleton.1 q]; exact h1.2.1
    · show s.rest.data.toList = textsB ((readK s i).1 ++ [(readK s i).2.text.1]) ++ _
      rw [textsB_snoc, List.append_assoc, h4]
      congr 1
      exact h1.2.2
theorem enc_dec' (j : ByteArray) (a : Nat × RSt) (b : List ByteArray × RSt) (c : Nat × RSt) (ha : (⟨j, 0⟩ : RSt).num 1 = a) (hb : readK a.2 a.1 = b) (hc : b.2.num 1 = c) (h : c.2.text.2.text.2.err = 0) (hr : c.2.text.2.text.2.rest.size = 0) (ht : c.1 ≤ 1) :
    b.1.length ≤ 255 ∧ (∀ x ∈ b.1, x.size ≤ 4096) ∧ c.2.text.1.size ≤ 4096 ∧ c.2.text.2.text.1.size ≤ 4096 ∧ str (encB b.1 (decide (c.1 = 1)) c.2.text.1 c.2.text.2.text.1) = j := by
  have h5 := text_back h
  have h4 := text_back h5.1
  have h3 := num_back (s := b.2) (k := 1) ⟨by omega, by omega⟩ (by rw [hc]; exact h4.1)
  rw [hc] at h3
  obtain ⟨h30, l3, hl3, hv3, hr3⟩ := h3
  have h2 := readK_back (s := a.2) a.1 (by rw [hb]; exact h30)
  rw [hb] at h2
  have h1 := num_back (s := (⟨j, 0⟩ : RSt)) (k := 1) ⟨by omega, by omega⟩ (by rw [ha]; exact h2.1)
  rw [ha] at h1
  obtain ⟨_, l1, hl1, hv1, hr1⟩ := h1
  have hlen : b.1.length = a.1 := by rw [← hb]; exact readK_len _ _
  refine ⟨by rw [hlen, hv1]; have := val_one_small l1 hl1; omega, h2.2.1, h4.2.1, h5.2.1, ?_⟩
  have hrest : c.2.text.2.text.2.rest.data.toList = [] := by rw [List.eq_nil_iff_length_eq_zero, Array.length_toList]; exact hr
  have ht1 : be (if decide (c.1 = 1) then 1 else 0) 1 = l3 := by
    have e : (if decide (c.1 = 1) then 1 else 0) = c.1 := by
      have : c.1 = 0 ∨ c.1 = 1 := by omega
      rcases this with q | q <;> simp [q]
    rw [e, hv3]
    exact be_one l3 hl3
  have hj : j.data.toList = encB b.1 (decide (c.1 = 1)) c.2.text.1 c.2.text.2.text.1 := by
    unfold encB
    rw [ht1, hlen, hv1, show (1 : Nat) = 1 from rfl, be_one l1 hl1]
    show (⟨j, 0⟩ : RSt).rest.data.toList = _
    rw [hr1, h2.2.2, hr3, h4.2.2, h5.2.2, hrest, List.append_nil]
  rw [← hj, str_self']
/-- bytes that are a proof's, written again -/
theorem enc_dec (j : ByteArray) (h : (decS j).s.err = 0) (hr : (decS j).s.rest.size = 0) (ht : (decS j).t ≤ 1) : (decS j).L.length ≤ 255 ∧ (∀ x ∈ (decS j).L, x.size ≤ 4096) ∧ (decS j).k.size ≤ 4096 ∧ (decS j).y.size ≤ 4096 ∧ str (encB (decS j).L (decide ((decS j).t = 1)) (decS j).k (decS j).y) = j :=
  enc_dec' j _ _ _ rfl rfl rfl h hr ht
theorem dec_codes (j : ByteArray) : errOK (decS j).s := by
  unfold decS
  simp only
  exact text_err (text_err (num_err (readK_err (num_err (Or.inl rfl) 1) _) 1))
end Go.Proofs.YtioahjdojgcfdaaDoor

namespace Go.Proofs.YtioahjdojgcfdaaDoor
attribute [local irreducible] shaL

def attOk (e : Nat) (b n : Int) (h : ByteArray) : Bool := decide (e ≤ 4294967295) && (decide (0 ≤ b) && (decide (b ≤ 15) && (decide (0 ≤ n) && (decide (n ≤ 63) && decide (h.size = 16)))))
theorem attOk_iff {e : Nat} {b n : Int} {h : ByteArray} : attOk e b n h = true ↔ e ≤ 4294967295 ∧ (0 ≤ b ∧ b ≤ 15) ∧ (0 ≤ n ∧ n ≤ 63) ∧ h.size = 16 := by
  unfold attOk
  simp only [Bool.and_eq_true, decide_eq_true_eq]
  constructor
  · rintro ⟨a, b, c, d, e, f⟩; exact ⟨a, ⟨b, c⟩, ⟨d, e⟩, f⟩
  · rintro ⟨a, ⟨b, c⟩, ⟨d, e⟩, f⟩; exact ⟨a, b, c, d, e, f⟩
def placeB (e b n : Nat) : List UInt8 := be e 4 ++ (be b 1 ++ be n 2)
theorem placeB_len (e b n : Nat) : (placeB e b n).length = 7 := by unfold placeB; rw [List.length_append, List.length_append, be_length, be_length, be_length]
def attB (e b n : Nat) (h g : ByteArray) : List UInt8 := placeB e b n ++ (h.data.toList ++ textU g)
theorem attB_len (e b n : Nat) (h g : ByteArray) (hh : h.size = 16) : (attB e b n h g).length = 25 + g.size := by
  unfold attB
  rw [List.length_append, List.length_append, placeB_len, textU_len, text_len, hh]
  omega
structure DecA where
  e : Nat
  b : Nat
  n : Nat
  h : ByteArray
  t : ByteArray
  s : RSt
def decA (j : ByteArray) : DecA :=
  ⟨((⟨j, 0⟩ : RSt).num 4).1, (((⟨j, 0⟩ : RSt).num 4).2.num 1).1, ((((⟨j, 0⟩ : RSt).num 4).2.num 1).2.num 2).1, (((((⟨j, 0⟩ : RSt).num 4).2.num 1).2.num 2).2.fixed 16).1, (((((⟨j, 0⟩ : RSt).num 4).2.num 1).2.num 2).2.fixed 16).2.text.1, (((((⟨j, 0⟩ : RSt).num 4).2.num 1).2.num 2).2.fixed 16).2.text.2⟩
def DecA.err (d : DecA) : Int := if d.s.done ≠ 0 then d.s.done else if (decG d.t).err ≠ 0 then (decG d.t).err else if attOk d.e d.b d.n d.h then 0 else 10
theorem decA_more (e b n : Nat) (h g : ByteArray) (y : List UInt8) (he : e ≤ 4294967295) (hb : b ≤ 15) (hn : n ≤ 63) (hh : h.size = 16) (hg : g.size ≤ 4096) : decA (str (attB e b n h g ++ y)) = ⟨e, b, n, h, g, ⟨str y, 0⟩⟩ := by
  have e4 : (4 : Int).toNat = 4 := rfl
  have e1 : (1 : Int).toNat = 1 := rfl
  have e2 : (2 : Int).toNat = 2 := rfl
  have a1 := rd_num (n := e) (k := 4) ⟨by omega, by omega, by show e < 4294967296; omega⟩ (be b 1 ++ (be n 2 ++ (h.data.toList ++ ((be g.size 2 ++ g.data.toList) ++ y))))
  rw [e4] at a1
  have a2 := rd_num (n := b) (k := 1) ⟨by omega, by omega, by show b < 256; omega⟩ (be n 2 ++ (h.data.toList ++ ((be g.size 2 ++ g.data.toList) ++ y)))
  rw [e1] at a2
  have a3 := rd_num (n := n) (k := 2) ⟨by omega, by omega, by show n < 65536; omega⟩ (h.data.toList ++ ((be g.size 2 ++ g.data.toList) ++ y))
  rw [e2] at a3
  have a4 := rd_fixed h ((be g.size 2 ++ g.data.toList) ++ y)
  rw [hh] at a4
  have a4 : (⟨str (h.data.toList ++ ((be g.size 2 ++ g.data.toList) ++ y)), 0⟩ : RSt).fixed 16 = _ := a4
  have a5 := rd_text hg y
  have hx : attB e b n h g ++ y = be e 4 ++ (be b 1 ++ (be n 2 ++ (h.data.toList ++ ((be g.size 2 ++ g.data.toList) ++ y)))) := by unfold attB placeB textU; simp only [List.append_assoc]
  rw [hx]
  unfold decA
  rw [a1]
  simp only
  rw [a2]
  simp only
  rw [a3]
  simp only
  rw [a4]
  simp only
  rw [a5]
theorem num_errP {s : RSt} (h : s.err ≠ 0) (k : Nat) (hk : 1 ≤ k ∧ k ≤ 8) : (s.num k).2 = s := by
  rw [num_of s k hk, fixed_errP h]
/-- bytes that stop -/
theorem num_less (l : List UInt8) (k : Nat) (hk : 1 ≤ k ∧ k ≤ 8) (h : l.length < k) : ((⟨str l, 0⟩ : RSt).num k).2.err = 3 := by
  rw [num_of _ k hk, rd_less l k h]
theorem stay3 {s : RSt} (h : s.err = 3) : (s.num 1).2.err = 3 ∧ (s.num 2).2.err = 3 ∧ (s.fixed 16).2.err = 3 ∧ s.text.2.err = 3 := by
  have h0 : s.err ≠ 0 := by rw [h]; decide
  have h1 : (s.num 1).2 = s := num_errP h0 1 (by decide)
  have h2 : (s.num 2).2 = s := num_errP h0 2 (by decide)
  refine ⟨by rw [h1]; exact h, by rw [h2]; exact h, by rw [fixed_errP h0]; exact h, by rw [text_errP h0]; exact h⟩
theorem decA_less (e b n : Nat) (h g : ByteArray) (k : Nat) (he : e ≤ 4294967295) (hb : b ≤ 15) (hn : n ≤ 63) (hh : h.size = 16) (hg : g.size ≤ 4096) (hk : k < (attB e b n h g).length) : (decA (str ((attB e b n h g).take k))).s.done = 3 := by
  rw [attB_len e b n h g hh] at hk
  refine done_err ?_
  show (((((⟨str ((attB e b n h g).take k), 0⟩ : RSt).num 4).2.num 1).2.num 2).2.fixed 16).2.text.2.err = 3
  have hx : attB e b n h g = be e 4 ++ (be b 1 ++ (be n 2 ++ (h.data.toList ++ textU g))) := by unfold attB placeB; simp only [List.append_assoc]
  have hhl : h.data.toList.length = 16 := by rw [text_len, hh]
  have e4 : (4 : Int).toNat = 4 := rfl
  have e1 : (1 : Int).toNat = 1 := rfl
  have e2 : (2 : Int).toNat = 2 := rfl
  rw [hx]
  by_cases k1 : k < 4
  · rw [List.take_append_of_le_length (by rw [be_length]; omega)]
    exact (stay3 (stay3 (stay3 (stay3 (num_less _ 4 (by decide) (by rw [List.length_take, be_length]; omega))).1).2.1).2.2.1).2.2.2
  · rw [List.take_append, List.take_of_length_le (by rw [be_length]; omega), be_length]
    have a1 := rd_num (n := e) (k := 4) ⟨by omega, by omega, by show e < 4294967296; omega⟩ ((be b 1 ++ (be n 2 ++ (h.data.toList ++ textU g))).take (k - 4))
    rw [e4] at a1
    rw [a1]
    simp only
    obtain ⟨k2, hk2⟩ : ∃ k2, k - 4 = k2 := ⟨_, rfl⟩
    rw [hk2]
    by_cases q1 : k2 < 1
    · rw [List.take_append_of_le_length (by rw [be_length]; omega)]
      exact (stay3 (stay3 (stay3 (num_less _ 1 (by decide) (by rw [List.length_take, be_length]; omega))).2.1).2.2.1).2.2.2
    · rw [List.take_append, List.take_of_length_le (by rw [be_length]; omega), be_length]
      have a2 := rd_num (n := b) (k := 1) ⟨by omega, by omega, by show b < 256; omega⟩ ((be n 2 ++ (h.data.toList ++ textU g)).take (k2 - 1))
      rw [e1] at a2
      rw [a2]
      simp only
      obtain ⟨k3, hk3⟩ : ∃ k3, k2 - 1 = k3 := ⟨_, rfl⟩
      rw [hk3]
      by_cases q2 : k3 < 2
      · rw [List.take_append_of_le_length (by rw [be_length]; omega)]
        exact (stay3 (stay3 (num_less _ 2 (by decide) (by rw [List.length_take, be_length]; omega))).2.2.1).2.2.2
      · rw [List.take_append, List.take_of_length_le (by rw [be_length]; omega), be_length]
        have a3 := rd_num (n := n) (k := 2) ⟨by omega, by omega, by show n < 65536; omega⟩ ((h.data.toList ++ textU g).take (k3 - 2))
        rw [e2] at a3
        rw [a3]
        simp only
        obtain ⟨k4, hk4⟩ : ∃ k4, k3 - 2 = k4 := ⟨_, rfl⟩
        rw [hk4]
        by_cases q3 : k4 < 16
        · rw [List.take_append_of_le_length (by omega)]
          have hf : (⟨str (h.data.toList.take k4), 0⟩ : RSt).fixed ((16 : Nat) : Int) = _ := rd_less _ 16 (by rw [List.length_take]; omega)
          have hf : (⟨str (h.data.toList.take k4), 0⟩ : RSt).fixed 16 = _ := hf
          rw [hf]
          exact (stay3 (s := ⟨str (h.data.toList.take k4), 3⟩) rfl).2.2.2
        · rw [List.take_append, List.take_of_length_le (by omega), hhl]
          have a4 := rd_fixed h ((textU g).take (k4 - 16))
          rw [hh] at a4
          have a4 : (⟨str (h.data.toList ++ (textU g).take (k4 - 16)), 0⟩ : RSt).fixed 16 = _ := a4
          rw [a4]
          exact text_less g hg _ (by omega)

/-! and back -/
theorem fixed_backA {s : RSt} {k : Nat} (h : (s.fixed k).2.err = 0) : s.err = 0 ∧ (s.fixed k).1.size = k ∧ s.rest.data.toList = (s.fixed k).1.data.toList ++ (s.fixed k).2.rest.data.toList := by
  have h0 := fixed_stay h
  obtain ⟨j, e⟩ := s
  have h0 : e = 0 := h0
  subst h0
  refine ⟨rfl, ?_⟩
  have hj : j = str j.data.toList := by cases j; rfl
  by_cases hl : k ≤ j.data.toList.length
  · have := rd_take j.data.toList k hl
    rw [← hj] at this
    rw [this]
    refine ⟨by rw [str_size, List.length_take]; omega, ?_⟩
    show j.data.toList = j.data.toList.take k ++ j.data.toList.drop k
    rw [List.take_append_drop]
  · have := rd_less j.data.toList k (by omega)
    rw [← hj] at this
    rw [this] at h
    exact absurd h (show ¬ ((3 : Int) = 0) by decide)
theorem reads_back {s : RSt} : ∀ n, (reads n s).2.err = 0 → s.err = 0 ∧ (∀ t ∈ (reads n s).1, t.size = 16) ∧ s.rest.data.toList = catS (reads n s).1 ++ (reads n s).2.rest.data.toList
  | 0, h => ⟨h, fun t ht => (by cases ht), rfl⟩
  | n + 1, h => by
    have h1 : ((reads n s).2.fixed 16).2.err = 0 := h
    obtain ⟨e1, e2, e3⟩ := fixed_backA (k := 16) h1
    obtain ⟨f1, f2, f3⟩ := reads_back n e1
    refine ⟨f1, ?_, ?_⟩
    · intro t ht
      have ht : t ∈ (reads n s).1 ++ [((reads n s).2.fixed 16).1] := ht
      rcases List.mem_append.1 ht with ht | ht
      · exact f2 t ht
      · rw [List.mem_singleton.1 ht]; exact e2
    · show s.rest.data.toList = catS ((reads n s).1 ++ [((reads n s).2.fixed 16).1]) ++ ((reads n s).2.fixed 16).2.rest.data.toList
      have e3 : (reads n s).2.rest.data.toList = ((reads n s).2.fixed 16).1.data.toList ++ ((reads n s).2.fixed 16).2.rest.data.toList := e3
      rw [f3, e3, catS_append, List.append_assoc]
      show catS (reads n s).1 ++ _ = catS (reads n s).1 ++ ((((reads n s).2.fixed 16).1.data.toList ++ []) ++ _)
      rw [List.append_nil]
theorem done_zeroA {s : RSt} (h : s.done = 0) : s.err = 0 ∧ s.rest.data.toList = [] := by
  unfold RSt.done at h
  split at h
  · omega
  · rename_i q
    refine ⟨h, ?_⟩
    have : s.rest.size = 0 := Nat.eq_zero_of_not_pos fun q2 => q ⟨h, by omega⟩
    exact List.length_eq_zero_iff.1 (by rw [text_len]; exact this)
theorem decG_back (s : ByteArray) (h : (decG s).err = 0) : (decG s).i ≤ 63 ∧ (decG s).n ≤ 6 ∧ (decG s).C.length = 35 ∧ (decG s).P.length = (decG s).n ∧ (∀ t ∈ (decG s).C, t.size = 16) ∧ (∀ t ∈ (decG s).P, t.size = 16) ∧ s = str (sigB (decG s).i (decG s).C (decG s).P) := by
  have hd : (decG s).s.done = 0 ∧ ¬ (63 < (decG s).i ∨ 6 < (decG s).n) := by
    unfold DecG.err at h
    split at h
    · omega
    · rename_i q
      exact ⟨h, fun k => q ⟨by rw [h]; decide, k⟩⟩
  obtain ⟨hd, hin⟩ := hd
  obtain ⟨he, hr⟩ := done_zeroA hd
  revert he hr hin
  unfold decG
  simp only
  obtain ⟨s1, hs1⟩ : ∃ x, ((⟨s, 0⟩ : RSt).num 1) = x := ⟨_, rfl⟩
  rw [hs1]
  obtain ⟨s2, hs2⟩ : ∃ x, reads 35 s1.2 = x := ⟨_, rfl⟩
  rw [hs2]
  obtain ⟨s3, hs3⟩ : ∃ x, (s2.2.num 1) = x := ⟨_, rfl⟩
  rw [hs3]
  obtain ⟨M, hM⟩ : ∃ M, min s3.1 6 = M := ⟨_, rfl⟩
  rw [hM]
  obtain ⟨s4, hs4⟩ : ∃ x, reads M s3.2 = x := ⟨_, rfl⟩
  rw [hs4]
  intro hin he hr
  have b4 := reads_back (s := s3.2) M (by rw [hs4]; exact he)
  rw [hs4, hr, List.append_nil] at b4
  have b3 := num_back (s := s2.2) (k := 1) (by decide) (by rw [hs3]; exact b4.1)
  rw [hs3] at b3
  obtain ⟨b30, l3, l3l, l3v, l3e⟩ := b3
  have b2 := reads_back (s := s1.2) 35 (by rw [hs2]; exact b30)
  rw [hs2] at b2
  have b1 := num_back (s := (⟨s, 0⟩ : RSt)) (k := 1) (by decide) (by rw [hs1]; exact b2.1)
  rw [hs1] at b1
  obtain ⟨b10, l1, l1l, l1v, l1e⟩ := b1
  have hC : s2.1.length = 35 := by rw [← hs2]; exact reads_len _ _
  have hP : s4.1.length = M := by rw [← hs4]; exact reads_len _ _
  refine ⟨by omega, by omega, hC, by omega, b2.2.1, b4.2.1, ?_⟩
  have e : s.data.toList = sigB s1.1 s2.1 s4.1 := by
    have l1e : s.data.toList = l1 ++ s1.2.rest.data.toList := l1e
    rw [l1e, b2.2.2, l3e, b4.2.2]
    unfold sigB
    have l1l : l1.length = 1 := l1l
    have l3l : l3.length = 1 := l3l
    have hn : s4.1.length = val l3 := by rw [hP, ← l3v]; omega
    rw [l1v, hn, be_one l1 l1l, be_one l3 l3l]
  rw [← e]
  cases s; rfl
theorem decA_back (j : ByteArray) (h : (decA j).err = 0) : attOk (decA j).e (decA j).b (decA j).n (decA j).h = true ∧ (decG (decA j).t).err = 0 ∧ (decA j).t.size ≤ 4096 ∧ j = str (attB (decA j).e (decA j).b (decA j).n (decA j).h (decA j).t) := by
  have hd : (decA j).s.done = 0 ∧ (decG (decA j).t).err = 0 ∧ attOk (decA j).e (decA j).b (decA j).n (decA j).h = true := by
    unfold DecA.err at h
    split at h
    · omega
    · rename_i q
      split at h
      · omega
      · rename_i q2
        split at h
        · rename_i q3
          exact ⟨by omega, by omega, q3⟩
        · omega
  obtain ⟨hd, hg, ho⟩ := hd
  refine ⟨ho, hg, ?_⟩
  clear h
  obtain ⟨he, hr⟩ := done_zeroA hd
  revert he hr
  clear hd hg ho
  unfold decA
  simp only
  obtain ⟨s1, hs1⟩ : ∃ x, ((⟨j, 0⟩ : RSt).num 4) = x := ⟨_, rfl⟩
  rw [hs1]
  obtain ⟨s2, hs2⟩ : ∃ x, (s1.2.num 1) = x := ⟨_, rfl⟩
  rw [hs2]
  obtain ⟨s3, hs3⟩ : ∃ x, (s2.2.num 2) = x := ⟨_, rfl⟩
  rw [hs3]
  obtain ⟨s4, hs4⟩ : ∃ x, (s3.2.fixed 16) = x := ⟨_, rfl⟩
  rw [hs4]
  obtain ⟨s5, hs5⟩ : ∃ x, s4.2.text = x := ⟨_, rfl⟩
  rw [hs5]
  intro he hr
  have b5 := text_back (s := s4.2) (by rw [hs5]; exact he)
  rw [hs5, hr, List.append_nil] at b5
  have b4 := fixed_backA (s := s3.2) (k := 16) (by show (s3.2.fixed 16).2.err = 0; rw [hs4]; exact b5.1)
  have b4 : s3.2.err = 0 ∧ (s3.2.fixed 16).1.size = 16 ∧ s3.2.rest.data.toList = (s3.2.fixed 16).1.data.toList ++ (s3.2.fixed 16).2.rest.data.toList := b4
  rw [hs4] at b4
  have b3 := num_back (s := s2.2) (k := 2) (by decide) (by rw [hs3]; exact b4.1)
  rw [hs3] at b3
  obtain ⟨b30, l3, l3l, l3v, l3e⟩ := b3
  have b2 := num_back (s := s1.2) (k := 1) (by decide) (by rw [hs2]; exact b30)
  rw [hs2] at b2
  obtain ⟨b20, l2, l2l, l2v, l2e⟩ := b2
  have b1 := num_back (s := (⟨j, 0⟩ : RSt)) (k := 4) (by decide) (by rw [hs1]; exact b20)
  rw [hs1] at b1
  obtain ⟨b10, l1, l1l, l1v, l1e⟩ := b1
  refine ⟨b5.2.1, ?_⟩
  have e : j.data.toList = attB s1.1 s2.1 s3.1 s4.1 s5.1 := by
    have l1e : j.data.toList = l1 ++ s1.2.rest.data.toList := l1e
    rw [l1e, l2e, l3e, b4.2.2, b5.2.2]
    unfold attB placeB textU textB
    rw [l1v, l2v, l3v, be_val l1 4 l1l, be_val l2 1 l2l, be_val l3 2 l3l]
    simp only [List.append_assoc]
  rw [← e]
  cases j; rfl
end Go.Proofs.YtioahjdojgcfdaaDoor

namespace Go.Proofs.YtioahjdojgcfdaaDoor
open Go.RowKit
attribute [local irreducible] shaL

theorem wr_numS {w : World} {b : Nat} {st : WSt} (n : Nat) (hn : n ≤ 18446744073709551615) (k : Int) (h : WrAt w b st) (hr : total st.ts ≤ 1000000000) :
    Calls Tryd.prog 83 #[.pointer (some ⟨b, 0, none⟩), .int .u64 n, .int .i64 k] w fun e w' => e = .returned (.pointer (some ⟨b, 0, none⟩)) ∧ WrAt w' b (st.num n k) ∧ w.grownBy w' (some b) := by
  refine (wnum_any n hn k w (some ⟨b, 0, none⟩) (some st) ⟨b, rfl, h⟩ (fun x e => by cases e; omega)).mono ?_
  rintro e w' ⟨rfl, hw, g⟩
  obtain ⟨b', e', hw⟩ := hw
  cases e'
  exact ⟨rfl, hw, g⟩
theorem wr_fixedS {w : World} {b : Nat} {st : WSt} (s : ByteArray) (k : Int) (h : WrAt w b st) (hr : s.size + total st.ts ≤ 1000000000) :
    Calls Tryd.prog 60 #[.pointer (some ⟨b, 0, none⟩), .string s, .int .i64 k] w fun e w' => e = .returned (.pointer (some ⟨b, 0, none⟩)) ∧ WrAt w' b (st.fixed s k) ∧ w.grownBy w' (some b) := by
  refine (wfixed_any s k w (some ⟨b, 0, none⟩) (some st) ⟨b, rfl, h⟩ (fun x e => by cases e; omega)).mono ?_
  rintro e w' ⟨rfl, hw, g⟩
  obtain ⟨b', e', hw⟩ := hw
  cases e'
  exact ⟨rfl, hw, g⟩
theorem wr_bytesS {w : World} {b : Nat} {st : WSt} (h : WrAt w b st) (hr : total st.ts ≤ 1000000000) :
    Calls Tryd.prog 62 #[.pointer (some ⟨b, 0, none⟩)] w fun e w' => e = .returned (.tuple #[.string st.ans, .int .i64 st.err]) ∧ w.grownBy w' none := by
  by_cases he : st.err = 0
  · obtain ⟨ts, err⟩ := st
    have he' : err = 0 := he
    subst he'
    exact bytes_ok w b ts h (Nat.le_trans hr (by decide))
  · refine (bytes_err w b st h he).mono ?_
    rintro e w' ⟨rfl, g⟩
    refine ⟨?_, g⟩
    unfold WSt.ans
    rw [if_neg he]
    rfl
end Go.Proofs.YtioahjdojgcfdaaDoor

namespace Go.Proofs.YtioahjdojgcfdaaDoor
open Go.RowKit

theorem rd_numS {w : World} {b : Nat} {s : RSt} (k : Int) (h : RdAt w b s.rest s.err) (hm : s.rest.size ≤ maxLen) :
    Calls Tryd.prog 64 #[.pointer (some ⟨b, 0, none⟩), .int .i64 k] w fun e w' => e = .returned (.int .u64 (s.num k).1) ∧ RdAt w' b (s.num k).2.rest (s.num k).2.err ∧ w.grownBy w' (some b) := by
  refine (rnum_any k w (some ⟨b, 0, none⟩) (some s) ⟨b, rfl, h⟩ (by rintro x ⟨⟩; exact hm)).mono ?_
  rintro e w' ⟨rfl, hw, g⟩
  obtain ⟨b', e', hw⟩ := hw
  cases e'
  exact ⟨rfl, hw, g⟩
theorem rd_fixedS {w : World} {b : Nat} {s : RSt} (k : Int) (h : RdAt w b s.rest s.err) (hm : s.rest.size ≤ maxLen) :
    Calls Tryd.prog 65 #[.pointer (some ⟨b, 0, none⟩), .int .i64 k] w fun e w' => e = .returned (.string (s.fixed k).1) ∧ RdAt w' b (s.fixed k).2.rest (s.fixed k).2.err ∧ w.grownBy w' (some b) := by
  refine (rfixed_any k w (some ⟨b, 0, none⟩) (some s) ⟨b, rfl, h⟩ (by rintro x ⟨⟩; exact hm)).mono ?_
  rintro e w' ⟨rfl, hw, g⟩
  obtain ⟨b', e', hw⟩ := hw
  cases e'
  exact ⟨rfl, hw, g⟩
theorem rd_endS {w : World} {b : Nat} {s : RSt} (h : RdAt w b s.rest s.err) :
    Calls Tryd.prog 67 #[.pointer (some ⟨b, 0, none⟩)] w fun e w' => e = .returned (.int .i64 s.done) ∧ w = w' :=
  end_any w (some ⟨b, 0, none⟩) (some s) ⟨b, rfl, h⟩
end Go.Proofs.YtioahjdojgcfdaaDoor
