/- Plain functions for package wots: places, secrets, walks, public keys. No walk of the program. · Plain functions for package logbook. No walk. · sha.Tagged of texts in a new block. · Lists of texts in memory. No walk. · The walk of a Writer's Bytes. · The walks of logbook's Parts, noughts, nameOf. · The walk of a half's next. · The walks of a disk's small methods, and of the document's Full. · The walks of On, Start, New; what burns while there is a fuse. · Bits of numbers of kind i64 that are not below 0. No walk. · The four bytes of a number. No walk. · Slices of integers in memory. No walk. -/
import Derived.Test.YtbhoeiopckmfhaaGreatDoorShaCalls
import Derived.Test.YtbhoeiopckmfhaaGreatDoorTopBandsB1
import Derived.Lib.BufferWrite
import Derived.Laws.CopyOwn
import Derived.Deep.LoopGhost
import Derived.Deep.QuietTactic
import Derived.BigQuiet
import Derived.Test.YtbhoeiopckmfhaaGreatDoorLay
import Derived.Lib.Repeat
import Derived.WalkSpells
import Derived.WalkLawsBesides
import Derived.Laws.IdiomStrings
import Derived.Deep.DeepCutAuto
import Derived.Deep.CutBlock
import Derived.Deep.RegionWith
import Derived.IntWalk
import Derived.Handy
import Derived.OwnWalk
import Derived.Laws.Bits64b
import Derived.WalkKit
namespace Go.Proofs.YtbhoeiopckmfhaaGreatDoor
attribute [local irreducible] shaL

/-- the short digest of a tag and texts -/
def tagS (tag : UInt8) (L : List ByteArray) : ByteArray := str ((shaL (tagB tag L)).take 16)
theorem tagS_size (tag : UInt8) (L : List ByteArray) : (tagS tag L).size = 16 := by
  unfold tagS
  rw [str_size, List.length_take, shaL_length]
  rfl
def placeL (leaf chain step : Nat) : List UInt8 := be leaf 4 ++ [UInt8.ofNat chain, UInt8.ofNat step]
def placeS (leaf chain step : Nat) : ByteArray := str (placeL leaf chain step)
theorem placeS_size (leaf chain step : Nat) : (placeS leaf chain step).size = 6 := by
  unfold placeS placeL
  rw [str_size, List.length_append, be_length]
  rfl
def openS (seed : ByteArray) : ByteArray := tagS 3 [seed]
def stepS (o : ByteArray) (leaf chain k : Nat) (x : ByteArray) : ByteArray := tagS 2 [o, placeS leaf chain k, x]
/-- n steps, from step a on -/
def walkS (o : ByteArray) (leaf chain a : Nat) : Nat → ByteArray → ByteArray
  | 0, x => x
  | n + 1, x => stepS o leaf chain (a + n) (walkS o leaf chain a n x)
theorem walkS_zero (o : ByteArray) (leaf chain a : Nat) (x : ByteArray) : walkS o leaf chain a 0 x = x := rfl
theorem walkS_succ (o : ByteArray) (leaf chain a n : Nat) (x : ByteArray) : walkS o leaf chain a (n + 1) x = stepS o leaf chain (a + n) (walkS o leaf chain a n x) := rfl
theorem walkS_add (o : ByteArray) (leaf chain a m n : Nat) (x : ByteArray) : walkS o leaf chain (a + m) n (walkS o leaf chain a m x) = walkS o leaf chain a (m + n) x := by
  induction n with
  | zero => rfl
  | succ n ih => rw [walkS_succ, ih, ← Nat.add_assoc, walkS_succ, Nat.add_assoc]
theorem walkS_size (o : ByteArray) (leaf chain a n : Nat) (x : ByteArray) (N : Nat) (h : x.size ≤ N) (h16 : 16 ≤ N) : (walkS o leaf chain a n x).size ≤ N := by
  cases n with
  | zero => exact h
  | succ n => rw [walkS_succ]; unfold stepS; rw [tagS_size]; exact h16
theorem walkS_16 (o : ByteArray) (leaf chain a n : Nat) (x : ByteArray) (h : x.size = 16) : (walkS o leaf chain a n x).size = 16 := by
  cases n with
  | zero => exact h
  | succ n => rw [walkS_succ]; unfold stepS; rw [tagS_size]
/-- from and to as they come: below 0 as 0, above 15 as 15 -/
def walkZ (o : ByteArray) (leaf chain : Nat) (a b : Int) (x : ByteArray) : ByteArray := walkS o leaf chain (max a 0).toNat (min b 15 - max a 0).toNat x
def secretS (seed : ByteArray) (leaf chain : Nat) : ByteArray := tagS 1 [seed, placeS leaf chain 0]
def publicOfS (o : ByteArray) (leaf : Nat) (ends : List ByteArray) : ByteArray := tagS 4 ([o, placeS leaf 0 0] ++ ends)
def endsS (seed : ByteArray) (leaf : Nat) : Nat → List ByteArray
  | 0 => []
  | c + 1 => endsS seed leaf c ++ [walkS (openS seed) leaf c 0 15 (secretS seed leaf c)]
def publicS (seed : ByteArray) (leaf : Nat) : ByteArray := publicOfS (openS seed) leaf (endsS seed leaf 35)
/-- a signature's first c texts -/
def sigS (seed : ByteArray) (leaf : Nat) (d : List Int) : Nat → List ByteArray
  | 0 => []
  | c + 1 => sigS seed leaf d c ++ [walkS (openS seed) leaf c 0 (d.getD c 0).toNat (secretS seed leaf c)]
/-- the first c ends of what a signature's texts are walked to -/
def recS (o : ByteArray) (leaf : Nat) (d : List Int) (sig : List ByteArray) : Nat → List ByteArray
  | 0 => []
  | c + 1 => recS o leaf d sig c ++ [walkS o leaf c (d.getD c 0).toNat (15 - d.getD c 0).toNat (sig.getD c ByteArray.empty)]
theorem endsS_length (seed : ByteArray) (leaf c : Nat) : (endsS seed leaf c).length = c := by
  induction c with
  | zero => rfl
  | succ c ih => simp [endsS, ih]
theorem sigS_length (seed : ByteArray) (leaf : Nat) (d : List Int) (c : Nat) : (sigS seed leaf d c).length = c := by
  induction c with
  | zero => rfl
  | succ c ih => simp [sigS, ih]
theorem recS_length (o : ByteArray) (leaf : Nat) (d : List Int) (sig : List ByteArray) (c : Nat) : (recS o leaf d sig c).length = c := by
  induction c with
  | zero => rfl
  | succ c ih => simp [recS, ih]
theorem sigS_at (seed : ByteArray) (leaf : Nat) (d : List Int) (c i : Nat) (h : i < c) : (sigS seed leaf d c)[i]? = some (walkS (openS seed) leaf i 0 (d.getD i 0).toNat (secretS seed leaf i)) := by
  induction c with
  | zero => omega
  | succ c ih =>
    rw [sigS]
    by_cases e : i = c
    · subst e
      rw [List.getElem?_append_right (by rw [sigS_length]; omega), sigS_length, Nat.sub_self]
      rfl
    · rw [List.getElem?_append_left (by rw [sigS_length]; omega), ih (by omega)]
theorem secretS_size (seed : ByteArray) (leaf chain : Nat) : (secretS seed leaf chain).size = 16 := tagS_size _ _
theorem openS_size (seed : ByteArray) : (openS seed).size = 16 := tagS_size _ _
theorem sigS_all (seed : ByteArray) (leaf : Nat) (d : List Int) (c : Nat) : ∀ s ∈ sigS seed leaf d c, s.size = 16 := by
  induction c with
  | zero => intro s h; cases h
  | succ c ih =>
    intro s h
    rw [sigS] at h
    rcases List.mem_append.1 h with h | h
    · exact ih s h
    · obtain rfl := List.mem_singleton.1 h
      exact walkS_16 _ _ _ _ _ _ (secretS_size _ _ _)
theorem endsS_all (seed : ByteArray) (leaf c : Nat) : ∀ s ∈ endsS seed leaf c, s.size = 16 := by
  induction c with
  | zero => intro s h; cases h
  | succ c ih =>
    intro s h
    rw [endsS] at h
    rcases List.mem_append.1 h with h | h
    · exact ih s h
    · obtain rfl := List.mem_singleton.1 h
      exact walkS_16 _ _ _ _ _ _ (secretS_size _ _ _)
theorem recS_all (o : ByteArray) (leaf : Nat) (d : List Int) (sig : List ByteArray) (hs : ∀ s ∈ sig, s.size = 16) (c : Nat) (hc : c ≤ sig.length) : ∀ s ∈ recS o leaf d sig c, s.size = 16 := by
  induction c with
  | zero => intro s h; cases h
  | succ c ih =>
    intro s h
    rw [recS] at h
    rcases List.mem_append.1 h with h | h
    · exact ih (by omega) s h
    · obtain rfl := List.mem_singleton.1 h
      refine walkS_16 _ _ _ _ _ _ (hs _ ?_)
      rw [List.getD_eq_getElem?_getD, List.getElem?_eq_getElem (by omega)]
      exact List.getElem_mem _
/-- P6.3: what a signature tells is the public key -/
theorem rec_sig (seed : ByteArray) (leaf : Nat) (d : List Int) (hd : ∀ x ∈ d, 0 ≤ x ∧ x ≤ 15) (n : Nat) (hn : n ≤ d.length) (c : Nat) (hc : c ≤ n) : recS (openS seed) leaf d (sigS seed leaf d n) c = endsS seed leaf c := by
  induction c with
  | zero => rfl
  | succ c ih =>
    rw [recS, endsS, ih (by omega)]
    have h1 := sigS_at seed leaf d n c (by omega)
    rw [List.getD_eq_getElem?_getD (l := sigS seed leaf d n), h1]
    have hx := hd (d.getD c 0) (by rw [List.getD_eq_getElem?_getD, List.getElem?_eq_getElem (by omega)]; exact List.getElem_mem _)
    simp only [Option.getD_some]
    have e := walkS_add (openS seed) leaf c 0 (d.getD c 0).toNat (15 - d.getD c 0).toNat (secretS seed leaf c)
    rw [Nat.zero_add] at e
    rw [e, show (d.getD c 0).toNat + (15 - d.getD c 0).toNat = 15 from by omega]
/-- a tagged text's length -/
theorem tagB_length (tag : UInt8) (L : List ByteArray) (N : Nat) (h : ∀ s ∈ L, s.size ≤ N) : (tagB tag L).length ≤ 1 + L.length * (4 + N) := by
  unfold tagB
  rw [List.length_cons]
  suffices (L.flatMap fun s => be s.size 4 ++ s.data.toList).length ≤ L.length * (4 + N) by omega
  induction L with
  | nil => simp
  | cons s L ih =>
    have := ih (fun t ht => h t (by simp [ht]))
    have hs := h s (by simp)
    rw [List.flatMap_cons, List.length_append, List.length_append, be_length, List.length_cons, Nat.succ_mul]
    have e : s.data.toList.length = s.size := rfl
    omega
end Go.Proofs.YtbhoeiopckmfhaaGreatDoor

namespace Go.Proofs.YtbhoeiopckmfhaaGreatDoor
open Go.RowKit
attribute [local irreducible] shaL

/-- how many parts a record of so many bytes has -/
def partsN (n : Nat) : Nat := if n < 1 then 1 else (n - 1) / 39 + 1
theorem partsN_pos (n : Nat) : 1 ≤ partsN n := by unfold partsN; split <;> omega
theorem partsN_le (n : Nat) (h : n ≤ 900) : partsN n ≤ 24 := by unfold partsN; split <;> omega
theorem partsN_in (n i : Nat) (h : i < partsN n) : 39 * i ≤ n := by unfold partsN at h; split at h <;> omega
theorem partsN_mid (n i : Nat) (h : i + 1 < partsN n) : 39 * (i + 1) ≤ n := by unfold partsN at h; split at h <;> omega
theorem partsN_last (n i : Nat) (h : i + 1 = partsN n) : n ≤ 39 * (i + 1) := by unfold partsN at h; split at h <;> omega
theorem partsN_part (n i : Nat) (h : i < partsN n) : min (39 * (i + 1)) n - 39 * i ≤ 39 := by omega
/-- a record's name -/
def nameS (turn num : Nat) (s : ByteArray) : ByteArray := (tagS 7 [str (be turn 4), str (be num 2), s]).extract 0 8
theorem nameS_size (turn num : Nat) (s : ByteArray) : (nameS turn num s).size = 8 := by
  unfold nameS
  rw [ByteArray.size_extract, tagS_size]
  rfl
/-- a part of a record -/
def partS (s : ByteArray) (i : Nat) : ByteArray := s.extract (39 * i) (min (39 * (i + 1)) s.size)
theorem partS_size (s : ByteArray) (i : Nat) : (partS s i).size = min (39 * (i + 1)) s.size - 39 * i := by
  unfold partS
  rw [ByteArray.size_extract]
  omega
/-- what a part's sector begins with -/
def bodyL (turn num : Nat) (s : ByteArray) (i : Nat) : List UInt8 :=
  be turn 4 ++ be num 2 ++ be i 1 ++ be (partsN s.size) 1 ++ be (partS s i).size 1 ++ (nameS turn num s).data.toList ++ (partS s i).data.toList ++ List.replicate (39 - (partS s i).size) 0
theorem bodyL_length (turn num : Nat) (s : ByteArray) (i : Nat) : (bodyL turn num s i).length = 56 := by
  have h1 : (nameS turn num s).data.toList.length = 8 := nameS_size turn num s
  have h2 : (partS s i).data.toList.length = (partS s i).size := rfl
  have h3 := partS_size s i
  unfold bodyL
  simp only [List.length_append, be_length, List.length_replicate, h1, h2]
  omega
/-- a part's sector -/
def sumS (body : ByteArray) : ByteArray := body ++ (tagS 8 [body]).extract 0 8
def secS (turn num : Nat) (s : ByteArray) (i : Nat) : ByteArray := sumS (str (bodyL turn num s i))
theorem secS_size (turn num : Nat) (s : ByteArray) (i : Nat) : (secS turn num s i).size = 64 := by
  unfold secS sumS
  rw [ByteArray.size_append, ByteArray.size_extract, tagS_size, str_size, bodyL_length]
  rfl
/-- a record's sectors: the first k of them -/
def nextK (turn num : Nat) (s : ByteArray) (k : Nat) : List ByteArray := (List.range k).map (secS turn num s)
theorem nextK_length (turn num : Nat) (s : ByteArray) (k : Nat) : (nextK turn num s k).length = k := by simp [nextK]
theorem nextK_succ (turn num : Nat) (s : ByteArray) (k : Nat) : nextK turn num s (k + 1) = nextK turn num s k ++ [secS turn num s k] := by simp [nextK, List.range_succ]
def nextS (turn num : Nat) (s : ByteArray) : List ByteArray := nextK turn num s (partsN s.size)
theorem nextS_length (turn num : Nat) (s : ByteArray) : (nextS turn num s).length = partsN s.size := nextK_length _ _ _ _
theorem nextS_size (turn num : Nat) (s : ByteArray) : ∀ t ∈ nextS turn num s, t.size = 64 := by
  intro t ht
  obtain ⟨i, _, rfl⟩ := List.mem_map.1 ht
  exact secS_size _ _ _ _
end Go.Proofs.YtbhoeiopckmfhaaGreatDoor

namespace Go.Proofs.YtbhoeiopckmfhaaGreatDoor
open Go.RowKit
attribute [local irreducible] shaL

theorem grown_row {a b c : World} {row : Option Nat} (h : a.grownBy b none) (k : b.grownBy c row) (hn : ∀ g, row = some g → a.heap.size ≤ g) : a.grownBy c none :=
  ⟨k.os.trans h.os, k.tape.trans h.tape, k.output.trans h.output, Nat.le_trans h.size k.size, fun i hi hne => (k.block i (Nat.lt_of_lt_of_le hi h.size) (by intro e; have := hn i e.symm; omega)).trans (h.block i hi hne)⟩
theorem ShaReady.grown {w w' : World} (h : ShaReady w) (hg : w.grownBy w' none) : ShaReady w' := h.kept hg (by simp) (by simp)

/-- sha.Tagged of texts in a new block -/
theorem tagged_new (w : World) (tag : UInt8) (L : List ByteArray) (vs : List Value) (n : Nat) (tg : Int) (hv : vs = L.map Value.string) (hn : n = L.length) (ht : (tag.toNat : Int) = tg) (hr : ShaReady w) (hN : L.length ≤ 1000) (hs : ∀ s ∈ L, s.size ≤ 1000000000000) :
    Calls Tryz.prog 26 #[.int .u8 tg, .slice (some ⟨w.heap.size, 0, none⟩) n n] (w.alloc (.cells vs.toArray 9)) fun e w' => e = .returned (.string (tagS tag L)) ∧ w.grownBy w' none := by
  subst hv
  subst ht
  refine (tagged_any _ tag _ L (strs_new w L 9 n hn) (hr.grown (World.grownBy_alloc _ _ _)) (by unfold maxLen; omega) ?_).mono fun e w' h => ⟨h.1, grownBy_trans (World.grownBy_alloc _ _ _) h.2⟩
  have := tagB_length tag L _ hs
  have h2 : L.length * (4 + 1000000000000) ≤ 1000 * (4 + 1000000000000) := Nat.mul_le_mul_right _ hN
  omega

end Go.Proofs.YtbhoeiopckmfhaaGreatDoor

namespace Go.Proofs.YtbhoeiopckmfhaaGreatDoor
open Go.RowKit

def strsV (L : List ByteArray) : List Value := L.map Value.string
theorem strsV_length (L : List ByteArray) : (strsV L).length = L.length := by simp [strsV]
theorem infoStrW : (Tryz.prog.info? 9).map (fun i => (i.zero, i.size, i.bytes)) = some (some (.string ⟨#[]⟩), 1, 16) := by kernel_rfl
theorem strs_own {w : World} {B n : Nat} {a : Option Addr} {cap : Nat} {L : List ByteArray} (h : w.ownsRow B 9 1 (.slice a n cap) n (strsV L)) : StrsAt w (.slice a n cap) L := by
  have hl := h.1
  simp [strsV] at hl
  subst hl
  refine ⟨a, cap, rfl, fun i hi => ?_⟩
  rcases h.2 with ⟨_, h0⟩ | ⟨g, cap', cur, he, hB, hg, hnc, hm, hcs, htake⟩
  · omega
  · cases he
    refine ⟨g, 0, rfl, ?_⟩
    rw [Nat.zero_add, cell_of hg]
    have : (strsV L)[i]? = some (.string L[i]) := by simp [strsV, List.getElem?_eq_getElem hi]
    rw [← htake, List.getElem?_take, if_pos (by omega)] at this
    simpa using this
theorem StrsAt.grown {w w' : World} {v : Value} {L : List ByteArray} (h : StrsAt w v L) (hg : w.grownBy w' none) : StrsAt w' v L := h.kept (below_grownBy hg)
theorem StrsAt.form {w : World} {v : Value} {L : List ByteArray} (h : StrsAt w v L) : ∃ a cap, v = .slice a L.length cap := by
  obtain ⟨a, cap, rfl, _⟩ := h
  exact ⟨a, cap, rfl⟩
theorem StrsAt.at_ {w : World} {a : Option Addr} {n cap : Nat} {L : List ByteArray} (h : StrsAt w (.slice a n cap) L) (i : Nat) (x : ByteArray) (hx : L[i]? = some x) : ∃ g o, a = some ⟨g, o, none⟩ ∧ w.cell? ⟨g, o + i, none⟩ = some (.string x) := by
  obtain ⟨a', cap', he, hc⟩ := h
  cases he
  obtain ⟨hi, rfl⟩ := List.getElem?_eq_some_iff.1 hx
  exact hc i hi
theorem made_strs (n : Nat) : (madeCells #[Value.string ⟨#[]⟩] n).toList = strsV (List.replicate n ⟨#[]⟩) := by
  apply List.ext_getElem?
  intro i
  simp [madeCells, strsV, List.getElem?_replicate]
  by_cases h : i < n <;> simp [h, Nat.mod_one]
/-- a list being filled: what is done, then empty texts -/
def fillS (L : List ByteArray) (n : Nat) : List ByteArray := L ++ List.replicate (n - L.length) ⟨#[]⟩
theorem fillS_put (L : List ByteArray) (n : Nat) (x : ByteArray) (h : L.length < n) : (strsV (fillS L n)).set L.length (.string x) = strsV (fillS (L ++ [x]) n) := by
  have e : strsV (fillS L n) = strsV L ++ (.string ⟨#[]⟩) :: strsV (List.replicate (n - (L.length + 1)) ⟨#[]⟩) := by
    rw [fillS, show n - L.length = (n - (L.length + 1)) + 1 from by omega, List.replicate_succ]
    simp [strsV]
  have hl := strsV_length L
  rw [e, List.set_append_right _ _ (by omega), hl, Nat.sub_self, List.set_cons_zero]
  simp [strsV, fillS]
theorem fillS_at (L : List ByteArray) (n : Nat) (h : L.length < n) : (strsV (fillS L n))[L.length]? = some (.string ⟨#[]⟩) := by
  have hl := strsV_length L
  rw [fillS, show n - L.length = (n - (L.length + 1)) + 1 from by omega, List.replicate_succ]
  simp only [strsV, List.map_append, List.map_cons]
  rw [List.getElem?_append_right (by simp), List.length_map, Nat.sub_self]
  rfl
theorem fillS_full (L : List ByteArray) (n : Nat) (h : L.length = n) : fillS L n = L := by
  rw [fillS, h, Nat.sub_self]
  simp

theorem StrsAt.news {w : World} {g o n cap : Nat} {L : List ByteArray} (h : StrsAt w (.slice (some ⟨g, o, none⟩) n cap) L) : ∀ j u, (strsV L)[j]? = some u → w.cell? ((⟨g, o, none⟩ : Addr).add j) = some u := by
  intro j u hj
  have hj' : j < L.length := by have := (List.getElem?_eq_some_iff.1 hj).1; rwa [strsV_length] at this
  obtain ⟨g', o', he, hc⟩ := h.at_ j _ (List.getElem?_eq_getElem hj')
  cases he
  rw [show Addr.add ⟨g, o, none⟩ j = (⟨g, o + j, none⟩ : Addr) from by simp [Addr.add], hc, ← hj]
  simp [strsV, List.getElem?_eq_getElem hj']
theorem strsV_one (L : List ByteArray) : ∀ u ∈ strsV L, u.oneCell' = true := by
  intro u hu
  obtain ⟨x, _, rfl⟩ := List.mem_map.1 hu
  rfl
theorem slice_own' {w : World} {B n : Nat} {t : TypeId} {v : Value} {xs : List Value} (h : w.ownsRow B t 1 v n xs) : ∃ a cap, v = .slice a n cap := by
  rcases h.2 with ⟨rfl, rfl⟩ | ⟨g, cap, cur, rfl, _⟩
  · exact ⟨none, 0, rfl⟩
  · exact ⟨_, _, rfl⟩

theorem StrsAt.lt {w : World} {g o n c : Nat} {L : List ByteArray} (h : StrsAt w (.slice (some ⟨g, o, none⟩) n c) L) (h0 : 0 < L.length) : g < w.heap.size := by
  obtain ⟨g', o', e, hc⟩ := h.at_ 0 _ (List.getElem?_eq_getElem h0)
  cases e
  exact cell_lt hc

theorem push_strs (P : List ByteArray) (x : ByteArray) : strsV P ++ [.string x] = strsV (P ++ [x]) := by simp [strsV]
theorem lit_one (w : World) (x : ByteArray) : ∀ j u, [Value.string x][j]? = some u → (w.alloc (.cells #[.string x] 9)).cell? ((⟨w.heap.size, 0, none⟩ : Addr).add j) = some u := by
  intro j u hj
  cases j with
  | zero =>
    simp at hj
    subst hj
    exact cell_of (heap_alloc_at _ _ _ rfl) 0
  | succ j => simp at hj
end Go.Proofs.YtbhoeiopckmfhaaGreatDoor

namespace Go.Proofs.YtbhoeiopckmfhaaGreatDoor
open Go.RowKit

/-- 'copy(b[off:], s)', s a text, as one step of a region that draws its order -/
theorem step_copy_text {P : Program} {ops : Array Oper} {o : Oper} {a : Act} {w : World} {K : Act → World → Prop} {Q : Exit → Act → World → Prop} {E : Prop} (hgd : o.guard = none) (d s : Operand) (dT sT : TypeId)
    (ho : o.op = .call { callee := .builtin .copy, args := #[d, s], argTypes := #[dT, sT] }) (elem : TypeId) (hu : P.underlying dT = some (.slice elem)) (hsz : (P.info? elem).map (·.size) = some 1)
    (dp : Option Addr) (dLen dCap : Nat) (x : ByteArray) (hd : a.eval d = .slice dp dLen dCap) (hs : a.eval s = .string x)
    (g off : Nat) (cur : List Value) (t : TypeId) (hg : w.heap[g]? = some (.cells cur.toArray t (0, 0))) (hn : x.size ≤ dLen)
    (hpos : 0 < x.size → dp = some ⟨g, off, none⟩) (hfit : off + x.size ≤ cur.length)
    (h : ∀ w', Hid (w'.heap[g]? = some (.cells (splice cur off (Lib.byteCells x.data.toList)).toArray t (0, 0))) → w.grownBy w' (some g) → K (a.put o.dst (goInt x.size)) w') :
    if Region.wanted o (yielded ops a.tmps) = true then Oper.wp P o a w K Q else E := by
  have hw : Region.wanted o (yielded ops a.tmps) = true := by simp [Region.wanted, hgd]
  rw [if_pos hw]
  by_cases h0 : x.size = 0
  · have hrun := Lib.run_copy_empty_string (P := P) w dT sT o.type elem dp dLen dCap x hu (by simp at hsz; obtain ⟨i, hi, _⟩ := hsz; simp [hi]) h0
    unfold Oper.wp
    simp [execOp, ho, resolve, invoke, builtin, hd, hs, hrun, Result.andThen]
    have hx : x.data.toList = [] := List.eq_nil_of_length_eq_zero (by simpa using h0)
    have := h w (show _ = _ by simpa [splice, hx, Lib.byteCells] using hg) (World.grownBy.refl _ _)
    rw [h0] at this
    exact this
  · obtain rfl := hpos (by omega)
    have hrun := Lib.run_copy_row_string (P := P) w dT sT o.type elem g off dLen dCap x cur.toArray t hu hsz hg hn (by simpa using hfit)
    have hlen : (Lib.byteCells x.data.toList).length = x.size := by simp [Lib.byteCells]
    unfold Oper.wp
    simp [execOp, ho, resolve, invoke, builtin, hd, hs, hrun, Result.andThen]
    refine h _ (show _ = _ from ?_) ⟨rfl, rfl, rfl, by simp [World.setRow], fun k _ hk => setRow_other w g k _ (by intro e; exact hk (by rw [e]))⟩
    rw [setRow_heap w g _ _ t _ hg]
    simp [splice, hlen]

/-- the pieces' bytes, put together -/
def flat : List ByteArray → List UInt8
  | [] => []
  | t :: ts => flat ts ++ t.data.toList
theorem flat_length (ts : List ByteArray) : (flat ts).length = total ts := by
  induction ts with
  | nil => rfl
  | cons t ts ih => rw [flat, List.length_append, ih, total_cons, Nat.add_comm]; rfl

theorem infoPtr : (Tryz.prog.info? 5).map (·.size) = some 1 := by kernel_rfl

set_option maxHeartbeats 400000 in
theorem bytes_nil (w : World) :
    Calls Tryz.prog 100 #[.pointer none] w fun e w' => e = .returned (.tuple #[.string ByteArray.empty, .int .i64 1]) ∧ w = w' := by
  go_enter Tryz.func100, Tryz.ntmps100
  go_wp2
  go_ret2
  exact ⟨rfl, rfl⟩
set_option maxHeartbeats 400000 in
theorem bytes_err (w : World) (b : Nat) (st : WSt) (h : WrAt w b st) (he : st.err ≠ 0) :
    Calls Tryz.prog 100 #[.pointer (some ⟨b, 0, none⟩)] w fun e w' => e = .returned (.tuple #[.string ByteArray.empty, .int .i64 st.err]) ∧ w.grownBy w' none := by
  obtain ⟨last, hl, hc⟩ := h
  have c2 := cell_of hl 2
  have hb : (st.err == 0) = false := by simpa using he
  have hb' : (st.err != 0) = true := by simpa using he
  clear hl hc
  simp at c2
  go_enter Tryz.func100, Tryz.ntmps100
  go_wp2
  go_quiet (fail)
  go_wp2
  go_ret2
  exact ⟨rfl, ⟨rfl, rfl, rfl, Nat.le_refl _, fun _ _ _ => rfl⟩⟩

/-- 'string(b)', b a whole block of bytes -/
theorem heap_string {wr : World} {g cap : Nat} {l : List UInt8} (h : wr.heap[g]? = some (.cells (Lib.byteCells l).toArray 5 (0, 0))) :
    (convert 23 9 (.slice (some ⟨g, 0, none⟩) l.length cap)).run Tryz.prog wr = .ok (.string (str l)) wr := by
  refine run_convert_bytes_back wr 23 9 5 _ cap l Tryz.underlying23 Tryz.underlying5 Tryz.underlying9 fun j hj => ?_
  rw [show Addr.add ⟨g, 0, none⟩ j = (⟨g, j, none⟩ : Addr) from by simp [Addr.add]; omega, cell_of h]
  simp [Lib.byteCells, List.getElem?_eq_getElem hj]

theorem heap_of_own {w : World} {B g n : Nat} {xs : List Value} (h : w.ownsRow B 5 1 (.slice (some ⟨g, 0, none⟩) n n) n xs) : w.heap[g]? = some (.cells xs.toArray 5 (0, 0)) := by
  rcases h.2 with ⟨h', _⟩ | ⟨g', cap', cur, h', _, hg, _, _, hcs, htake⟩
  · simp at h'
  · simp only [Value.slice.injEq, Option.some.injEq, Addr.mk.injEq, and_true, true_and] at h'
    obtain ⟨rfl, rfl⟩ := h'
    rw [hg, ← htake, List.take_of_length_le (by simp [hcs])]

theorem omade_bytes (n : Nat) : (madeCells #[Value.int .u8 0] n).toList = Lib.byteCells (List.replicate n 0) := by
  apply List.ext_getElem?
  intro i
  simp [madeCells, Lib.byteCells, List.getElem?_replicate]
  by_cases h : i < n <;> simp [h, Nat.mod_one]

theorem splice_end (n m : Nat) (x d : List UInt8) (h : n = x.length + m) : splice (Lib.byteCells (List.replicate n 0 ++ d)) m (Lib.byteCells x) = Lib.byteCells (List.replicate m 0 ++ (x ++ d)) := by
  subst h
  simp only [splice, Lib.byteCells, List.map_append, List.length_map]
  rw [List.take_append_of_le_length (by simp), List.drop_append]
  simp [Nat.add_comm]

set_option maxHeartbeats 1000000 in
theorem bytes_ok (w : World) (b : Nat) (ts : List ByteArray) (h : WrAt w b ⟨ts, 0⟩) (hs : total ts ≤ 281474976710656) :
    Calls Tryz.prog 100 #[.pointer (some ⟨b, 0, none⟩)] w fun e w' => e = .returned (.tuple #[.string (str (flat ts)), .int .i64 0]) ∧ w.grownBy w' none := by
  obtain ⟨i0, hi, hz0, hz1, hz2⟩ := info_parts infoByte
  have hlt := h.lt
  obtain ⟨last, hl, hc⟩ := h
  obtain ⟨p, rfl⟩ := hc.ptr
  have c0 := cell_of hl 0
  have c1 := cell_of hl 1
  have c2 := cell_of hl 2
  simp at c0 c1 c2
  have HC := Lib.hid hc
  have HL := Lib.hid hl
  clear hc hl
  obtain ⟨T, hT⟩ : ∃ T, T = total ts := ⟨_, rfl⟩
  rw [← hT] at hs c1
  have HT := Lib.hid hT
  clear hT
  go_enter Tryz.func100, Tryz.ntmps100
  go_wp2_with (at_make; refine wpList_make_full _ rfl _ _ 23 rfl w.heap.size 5 i0 (.int .u8 0) 1 Tryz.underlying23 hi hz0 hz1 _ _ _ _ T rfl rfl rfl rfl ?m1 ?m2 ?m3 ?_)
  case m2 => unfold maxLen; omega
  intro w1 hown hg
  have d0 := hg.cell c0 (by simp)
  have d1 := hg.cell c1 (by simp)
  have HO := Lib.hid (heap_of_own hown)
  have HG := Lib.hid hg
  clear hown hg c0 c1 c2
  go_wp2_with fail
  go_loopg [5, 6] ts.length (fun k e v wr => ∃ rem d, ∃ n : Nat, rem.length = k ∧ Aside (flat ts = flat rem ++ d) ∧ e = .int .i64 n ∧ Aside (n = total rem) ∧ n ≤ T ∧ Hid (Chain wr v rem) ∧
    Hid (wr.heap[w.heap.size]? = some (.cells (Lib.byteCells (List.replicate n 0 ++ d)).toArray 5 (0, 0))) ∧ Hid (w.grownBy wr none))
  case atStart =>
    refine ⟨ts, [], T, rfl, by simp [Aside], rfl, HT.out, Nat.le_refl _, ?_, ?_, HG.out⟩
    · exact HC.out.kept HG.out (by intro r e; cases e)
    · have := HO.out
      rw [omade_bytes] at this
      simpa [Hid] using this
  case round =>
    clear d0 d1 HO HG HC HL
    obtain ⟨rem, d, n, HK, HF, rfl, HN, hn, HC, HO, HB⟩ := hrel
    cases rem with
    | nil =>
      have hv : _ = Value.pointer none := HC.out
      subst hv
      have hf : d = flat ts := by have := HF.out; simpa [flat] using this.symm
      subst hf
      have hn0 : n = 0 := HN.out
      subst hn0
      have hstr := heap_string (cap := T) (by simpa using HO.out)
      rw [flat_length, ← HT.out] at hstr
      go_wp2
      go_ret2
      exact ⟨rfl, HB.out⟩
    | cons t rem =>
      obtain ⟨g, v', hv, hb, hc⟩ := HC.out
      subst hv
      obtain ⟨p', rfl⟩ := hc.ptr
      have e0 := cell_of hb 0
      have e1 := cell_of hb 1
      simp at e0 e1
      have hne : some g ≠ some w.heap.size := by
        intro e
        obtain rfl := Option.some.inj e
        have := HO.out
        rw [hb] at this
        simp at this
      have HB' := Lib.hid hb
      have HC' := Lib.hid hc
      clear hb hc
      have hn1 : t.size ≤ n := by have := HN.out; rw [total_cons] at this; omega
      have HN' : Hid (n = t.size + total rem) := by have := HN.out; rw [total_cons] at this; exact this
      clear HN
      have hle : (n : Int) - (t.size : Int) ≤ (T : Int) := by omega
      go_wp2_with fail
      go_region_law (refine step_copy_text rfl (.tmp 46) (.tmp 50) 23 9 rfl 5 Tryz.underlying23 infoPtr _ _ _ t rfl rfl w.heap.size (n - t.size) (Lib.byteCells (List.replicate n 0 ++ d)) 5 HO.out (by omega) (fun h => by rw [if_neg (by omega)]) (by simp [Lib.byteCells]; omega) ?_; intro w2 HO2 hg2; have e2 := hg2.cell e0 hne)
      generalize (if T = n - t.size then some (⟨w.heap.size, 0, none⟩ : Addr) else some ⟨w.heap.size, n - t.size, none⟩) = A
      have HG2 : Hid (wr.grownBy w2 (some w.heap.size)) := ⟨hg2.os, hg2.tape, hg2.output, hg2.size, hg2.block⟩
      clear hg2 e0 e1
      have hcast : (n : Int) - (t.size : Int) = ((n - t.size : Nat) : Int) := by omega
      have HX := Lib.hid hcast
      clear hcast
      go_wp2
      go_roundg rem.length
      case measure => have := HK; simp at this; omega
      case rel =>
        refine ⟨rem, t.data.toList ++ d, n - t.size, rfl, ?_, by rw [HX.out], ?_, by omega, ?_, ?_, ?_⟩
        · have := HF.out
          simpa [Aside, flat] using this
        · have := HN'.out
          show _ = _
          omega
        · refine HC'.out.kept HG2.out ?_
          intro r e v x hr
          cases e
          rw [HO.out] at hr
          simp at hr
        · have := HO2.out
          rw [splice_end n (n - t.size) t.data.toList d (by simp; omega)] at this
          exact this
        · have h1 := HB.out
          have h2 := HG2.out
          exact ⟨h2.os.trans h1.os, h2.tape.trans h1.tape, h2.output.trans h1.output, Nat.le_trans h1.size h2.size, fun i hi _ =>
            (h2.block i (Nat.lt_of_lt_of_le hi h1.size) (by intro e; have := Option.some.inj e; omega)).trans (h1.block i hi (by simp))⟩
end Go.Proofs.YtbhoeiopckmfhaaGreatDoor

namespace Go.Proofs.YtbhoeiopckmfhaaGreatDoor
open Go.RowKit
attribute [local irreducible] shaL

set_option maxHeartbeats 400000 in
theorem parts_any (n : Nat) (hn : n ≤ 9223372036854775807) (w : World) :
    Calls Tryz.prog 136 #[.int .i64 n] w fun e w' => e = .returned (.int .i64 (partsN n : Nat)) ∧ w = w' := by
  unfold partsN
  by_cases h : n < 1
  · have h1 : (n : Int) < 1 := by omega
    rw [if_pos h]
    go_enter Tryz.func136, Tryz.ntmps136
    go_wp2_with fail
    go_ret
    exact ⟨rfl, rfl⟩
  · have h1 : ¬ (n : Int) < 1 := by omega
    rw [if_neg h]
    obtain ⟨q, hq⟩ : ∃ q, (n - 1) / 39 = q := ⟨_, rfl⟩
    rw [hq]
    have h2 : ((n : Int) - 1) / 39 = (q : Int) := by omega
    have h3 : (q : Int) < 9223372036854775807 := by omega
    go_enter Tryz.func136, Tryz.ntmps136
    go_wp2_with fail
    go_ret
    exact ⟨rfl, rfl⟩

theorem repeat_zero : ∀ n, Lib.repeatL [0] n = List.replicate n 0
  | 0 => rfl
  | n + 1 => by rw [Lib.repeatL, repeat_zero n, List.replicate_succ]; rfl
set_option maxHeartbeats 400000 in
theorem noughts_any (n : Nat) (hn : n ≤ 39) (w : World) :
    Calls Tryz.prog 185 #[.int .i64 n] w fun e w' => e = .returned (.string (str (List.replicate n 0))) ∧ w.grownBy w' none := by
  have HR := Lib.hid (fun w => Tryz.strings_Repeat ⟨#[0]⟩ n w (by omega) (by show 1 * n ≤ _; omega))
  have e : Lib.repeatL (⟨#[0]⟩ : ByteArray).data.toList n = List.replicate n 0 := repeat_zero n
  rw [e] at HR
  clear e
  go_enter Tryz.func185, Tryz.ntmps185
  go_wp2_with fail
  refine (HR.out _).mono ?_
  rintro e w1 ⟨rfl, h1⟩
  go_wp2_with fail
  go_ret
  exact ⟨rfl, grownBy_below h1⟩

theorem num_ok (ts : List ByteArray) (n k : Nat) (h1 : 1 ≤ k) (h8 : k ≤ 8) (h : n < 256 ^ k) : (⟨ts, 0⟩ : WSt).num n k = ⟨str (be n k) :: ts, 0⟩ := by
  unfold WSt.num
  rw [if_pos ⟨by omega, by omega, by rw [Int.toNat_natCast]; exact h⟩, Int.toNat_natCast]
  rfl
theorem fixed_ok (ts : List ByteArray) (t : ByteArray) (k : Int) (h : (t.size : Int) = k) : (⟨ts, 0⟩ : WSt).fixed t k = ⟨t :: ts, 0⟩ := by
  unfold WSt.fixed
  rw [if_pos h]
  rfl
theorem wrap_u32 (n : Nat) (h : n ≤ 4294967295) : IntKind.u32.wrap (n : Int) = (n : Int) := by
  simp only [IntKind.wrap, IntKind.bits, IntKind.signed, IntKind.min, IntKind.max]; simp; omega
/-- one call of a Writer's Num -/
theorem wnum_at (n : Nat) (k : Nat) (h1 : 1 ≤ k) (h8 : k ≤ 8) (h : n < 256 ^ k) (hn : n ≤ 18446744073709551615) (w : World) (b : Nat) (ts : List ByteArray) (hw : WrAt w b ⟨ts, 0⟩) (hs : 8 + total ts ≤ 1000000000) :
    Calls Tryz.prog 97 #[.pointer (some ⟨b, 0, none⟩), .int .u64 n, .int .i64 k] w fun e w' => e = .returned (.pointer (some ⟨b, 0, none⟩)) ∧ WrAt w' b ⟨str (be n k) :: ts, 0⟩ ∧ w.grownBy w' (some b) := by
  refine (wnum_any n hn k w (some ⟨b, 0, none⟩) (some ⟨ts, 0⟩) ⟨b, rfl, hw⟩ (WRoom.of _ _ (by show 8 + total ts ≤ _; omega))).mono ?_
  rintro e w' ⟨rfl, h2, h3⟩
  rw [Option.map_some, num_ok ts n k h1 h8 h] at h2
  obtain ⟨b', hb, hw'⟩ := h2
  cases hb
  exact ⟨rfl, hw', h3⟩
theorem wfixed_at (t : ByteArray) (k : Int) (h : (t.size : Int) = k) (w : World) (b : Nat) (ts : List ByteArray) (hw : WrAt w b ⟨ts, 0⟩) (hs : t.size + total ts ≤ 1000000000) :
    Calls Tryz.prog 98 #[.pointer (some ⟨b, 0, none⟩), .string t, .int .i64 k] w fun e w' => e = .returned (.pointer (some ⟨b, 0, none⟩)) ∧ WrAt w' b ⟨t :: ts, 0⟩ ∧ w.grownBy w' (some b) := by
  refine (wfixed_any t k w (some ⟨b, 0, none⟩) (some ⟨ts, 0⟩) ⟨b, rfl, hw⟩ (WRoom.of _ _ (by show t.size + total ts ≤ _; omega))).mono ?_
  rintro e w' ⟨rfl, h2, h3⟩
  rw [Option.map_some, fixed_ok ts t k h] at h2
  obtain ⟨b', hb, hw'⟩ := h2
  cases hb
  exact ⟨rfl, hw', h3⟩
theorem wfresh (w : World) : WrAt (w.alloc (.cells #[.pointer none, .int .i64 0, .int .i64 0] 179)) w.heap.size ⟨[], 0⟩ := by
  obtain ⟨b, hb, hw⟩ := WsAt.fresh w
  cases hb
  exact hw
theorem WrAt.beside {w w' : World} {b c : Nat} {st : WSt} (h : WrAt w b st) (hg : w.grownBy w' (some c)) (hb : b ≠ c) (hc : ∃ st', WrAt w c st') : WrAt w' b st := by
  refine h.kept hg (by intro e; cases e; exact hb rfl) ?_
  rintro r e v t hr
  cases e
  obtain ⟨st', last, hl, _⟩ := hc
  rw [hl] at hr
  simp at hr

set_option maxRecDepth 100000 in
set_option maxHeartbeats 1600000 in
theorem nameOf_any (turn num : Nat) (ht : turn ≤ 4294967295) (hn : num ≤ 65535) (s : ByteArray) (hs : s.size ≤ 1000000) (w : World) (hr : ShaReady w) :
    Calls Tryz.prog 184 #[.int .u32 turn, .int .i64 num, .string s] w fun e w' => e = .returned (.string (nameS turn num s)) ∧ w.grownBy w' none := by
  have HR := Lib.hid hr
  clear hr
  have u1 := wrap_u64 turn (by omega)
  have u2 := wrap_u64 num (by omega)
  go_enter Tryz.func184, Tryz.ntmps184
  obtain ⟨B, hB⟩ : ∃ B, w.heap.size = B := ⟨_, rfl⟩
  have hw1 : WrAt ((w.alloc (.cells #[.pointer none, .int .i64 0, .int .i64 0] 179)).alloc (.cells #[.pointer none, .int .i64 0, .int .i64 0] 179)) B ⟨[], 0⟩ := by
    rw [← hB]; exact (wfresh w).grown (World.grownBy_alloc _ _ _)
  have hw2 : WrAt ((w.alloc (.cells #[.pointer none, .int .i64 0, .int .i64 0] 179)).alloc (.cells #[.pointer none, .int .i64 0, .int .i64 0] 179)) (B + 1) ⟨[], 0⟩ := by
    have := wfresh (w.alloc (.cells #[.pointer none, .int .i64 0, .int .i64 0] 179))
    simpa [hB] using this
  have hg0 : w.grownBy ((w.alloc (.cells #[.pointer none, .int .i64 0, .int .i64 0] 179)).alloc (.cells #[.pointer none, .int .i64 0, .int .i64 0] 179)) none := grownBy_alloc' (World.grownBy_alloc _ _ _) _
  go_wp2_with fail
  generalize (w.alloc (.cells #[.pointer none, .int .i64 0, .int .i64 0] 179)).alloc (.cells #[.pointer none, .int .i64 0, .int .i64 0] 179) = w1 at hw1 hw2 hg0 ⊢
  have HB := Lib.hid hB
  clear hB
  refine (wnum_at turn 4 (by decide) (by decide) (by omega) (by omega) w1 B [] hw1 (by decide)).mono ?_
  rintro e w2 ⟨rfl, h2, g2⟩
  have h2b := hw2.beside g2 (by omega) ⟨_, hw1⟩
  have HG2 := Lib.hid (grown_row hg0 g2 (by intro g e; cases e; have := HB.out; omega))
  have z4 : (str (be turn 4)).size = 4 := by rw [str_size, be_length]
  have f4 : str (flat [str (be turn 4)]) = str (be turn 4) := by simp [flat, str]
  have hby := bytes_ok w2 B _ h2 (by rw [total_cons, z4]; decide)
  rw [f4] at hby
  have HBY := Lib.hid hby
  have HW := Lib.hid h2b
  clear hby h2 g2 hw1 hw2 hg0 h2b f4
  go_wp2_with fail
  refine HBY.out.mono ?_
  rintro e w3 ⟨rfl, g3⟩
  have HW3 := Lib.hid (HW.out.grown g3)
  have HG3 := Lib.hid (grownBy_trans HG2.out g3)
  clear HBY g3 HW HG2
  go_wp2_with fail
  refine (wnum_at num 2 (by decide) (by decide) (by omega) (by omega) w3 (B + 1) [] HW3.out (by decide)).mono ?_
  rintro e w4 ⟨rfl, h4, g4⟩
  have HG4 := Lib.hid (grown_row HG3.out g4 (by intro g e; cases e; have := HB.out; omega))
  have z2 : (str (be num 2)).size = 2 := by rw [str_size, be_length]
  have f2 : str (flat [str (be num 2)]) = str (be num 2) := by simp [flat, str]
  have hby := bytes_ok w4 (B + 1) _ h4 (by rw [total_cons, z2]; decide)
  rw [f2] at hby
  have HBY := Lib.hid hby
  clear hby h4 g4 f2 HW3 HG3
  go_wp2_with fail
  refine HBY.out.mono ?_
  rintro e w5 ⟨rfl, g5⟩
  have HG5 := Lib.hid (grownBy_trans HG4.out g5)
  clear HBY g5 HG4
  have HT := Lib.hid (tagged_new w5 7 [str (be turn 4), str (be num 2), s] _ 3 7 rfl rfl rfl (HR.out.grown HG5.out) (by simp) (by
    intro x hx
    simp at hx
    rcases hx with rfl | rfl | rfl <;> omega))
  have HN := Lib.hid (show nameS turn num s = (tagS 7 [str (be turn 4), str (be num 2), s]).extract 0 8 from rfl)
  have h16 := tagS_size 7 [str (be turn 4), str (be num 2), s]
  generalize tagS 7 [str (be turn 4), str (be num 2), s] = T at HT HN h16
  generalize str (be turn 4) = x4 at *
  generalize str (be num 2) = x2 at *
  go_wp2_with fail
  refine HT.out.mono ?_
  rintro e w6 ⟨rfl, g6⟩
  have HG6 := Lib.hid (grownBy_trans HG5.out g6)
  clear g6 HT HG5
  have h16' : (8 : Int) ≤ (T.size : Int) := by omega
  go_wp2_with fail
  go_ret
  exact ⟨by rw [HN.out]; rfl, HG6.out⟩
end Go.Proofs.YtbhoeiopckmfhaaGreatDoor

namespace Go.Proofs.YtbhoeiopckmfhaaGreatDoor
open Go.RowKit
attribute [local irreducible] shaL

/-- what lies there in next: the half, the row of sectors -/
structure NextAt (w wr : World) (HB g n : Nat) (half : Array Value) (L : List ByteArray) : Prop where
  half : wr.heap[HB]? = some (.cells half 163 (0, 0))
  row : wr.ownsRow w.heap.size 9 1 (.slice (some ⟨g, 0, none⟩) n n) n (strsV L)
  grow : w.grownBy wr none
  old : w.heap.size ≤ HB ∧ w.heap.size ≤ g ∧ HB ≠ g
theorem NextAt.step {w wr w' : World} {HB g n : Nat} {half : Array Value} {L : List ByteArray} {r : Option Nat} (h : NextAt w wr HB g n half L) (k : wr.grownBy w' r) (hb : r ≠ some HB) (hg : r ≠ some g) (hn : ∀ x, r = some x → w.heap.size ≤ x) : NextAt w w' HB g n half L :=
  ⟨(k.block HB (Array.getElem?_eq_some_iff.1 h.half).1 (fun e => hb e.symm)).trans h.half,
   own_turn h.row ((Turn.refl (fun i => r = some i) wr).row k (fun i _ e => e)) (fun x hx e => by cases hx; exact hg e),
   grown_row h.grow k hn, h.old⟩
theorem NextAt.quiet {w wr w' : World} {HB g n : Nat} {half : Array Value} {L : List ByteArray} (h : NextAt w wr HB g n half L) (k : wr.grownBy w' none) : NextAt w w' HB g n half L := h.step k (by simp) (by simp) (by simp)
theorem NextAt.lt {w wr : World} {HB g n : Nat} {half : Array Value} {L : List ByteArray} (h : NextAt w wr HB g n half L) : HB < wr.heap.size ∧ g < wr.heap.size := ⟨(Array.getElem?_eq_some_iff.1 h.half).1, (h.row.lt g rfl).2⟩

theorem NextAt.store {w wr : World} {HB g n k : Nat} {half : Array Value} {L L' : List ByteArray} {v : Value} (h : NextAt w wr HB g n half L) (e : (strsV L).set k v = strsV L') : NextAt w (wr.setCell ⟨g, k, none⟩ v) HB g n half L' :=
  ⟨by rw [heap_setCell_ne _ _ _ _ (fun e => h.old.2.2 e.symm)]; exact h.half,
   by rw [← e]; exact (h.row.stored _ _).1, grownBy_setNew h.grow h.old.2.1 _ _, h.old⟩
/-- the Writer's pieces of a part's sector, the last one first -/
def piecesS (turn num : Nat) (s : ByteArray) (i : Nat) : List ByteArray :=
  [str (List.replicate (39 - (partS s i).size) 0), partS s i, nameS turn num s, str (be (partS s i).size 1), str (be (partsN s.size) 1), str (be i 1), str (be num 2), str (be turn 4)]
theorem pieces_flat (turn num : Nat) (s : ByteArray) (i : Nat) : str (flat (piecesS turn num s i)) = str (bodyL turn num s i) := by
  simp [piecesS, flat, bodyL, str]

set_option maxRecDepth 100000 in
set_option maxHeartbeats 6400000 in
theorem next_any (turn num : Nat) (ht : turn ≤ 4294967295) (hn : num ≤ 65535) (a : Option Addr) (c : Nat) (u : Value) (s : ByteArray) (hs : s.size ≤ 900) (w : World) (hr : ShaReady w) :
    Calls Tryz.prog 170 #[.agg #[.int .u32 turn, .slice a num c, u], .string s] w fun e w' => ∃ v, e = .returned v ∧ w'.ownsRow w.heap.size 9 1 v (partsN s.size) (strsV (nextS turn num s)) ∧ w.grownBy w' none := by
  obtain ⟨i0, hi, hz0, hz1, hz2⟩ := info_parts infoStrW
  have HR := Lib.hid hr
  have HNM := Lib.hid (fun w (h : ShaReady w) => nameOf_any turn num ht hn s (by omega) w h)
  have HPT := Lib.hid (fun w => parts_any s.size (by omega) w)
  have hpN := partsN_le s.size hs
  have HS := Lib.hid hs
  have hp1 := partsN_pos s.size
  have HPM := Lib.hid (partsN_mid s.size)
  have HPL := Lib.hid (partsN_last s.size)
  have HPI := Lib.hid (partsN_in s.size)
  have HNS := Lib.hid (nameS_size turn num s)
  have HPC := Lib.hid (pieces_flat turn num s)
  have HSE : Hid (∀ i, secS turn num s i = sumS (str (bodyL turn num s i))) := fun _ => rfl
  have HBL : Hid (∀ i, (str (bodyL turn num s i)).size = 56) := fun i => bodyL_length turn num s i
  have HPS := Lib.hid (fun i => partS_size s i)
  have HNX : Hid (∀ k, nextK turn num s (k + 1) = nextK turn num s k ++ [secS turn num s k]) := nextK_succ turn num s
  have HNL : Hid (∀ k, (nextK turn num s k).length = k) := nextK_length turn num s
  have HFIN : Hid (nextS turn num s = nextK turn num s (partsN s.size)) := rfl
  have HPD : Hid (∀ i, piecesS turn num s i = [str (List.replicate (39 - (partS s i).size) 0), partS s i, nameS turn num s, str (be (partS s i).size 1), str (be (partsN s.size) 1), str (be i 1), str (be num 2), str (be turn 4)]) := fun _ => rfl
  generalize nameS turn num s = NM at HNM HNS HPD
  obtain ⟨N, hN⟩ : ∃ N, partsN s.size = N := ⟨_, rfl⟩
  rw [hN] at HPT hpN hp1 HPM HPL HPI HFIN HPD ⊢
  have hN0 : (N : Int) ≤ 24 := by omega
  clear hr hs hN
  have ut := wrap_u64 turn (by omega)
  have un := wrap_u64 num (by omega)
  have uN := wrap_u64 N (by omega)
  go_enter Tryz.func170, Tryz.ntmps170
  go_wp2_with fail
  have hh1 : (w.alloc (.cells #[.int .u32 turn, .slice a num c, u] 163)).heap[w.heap.size]? = some (.cells #[.int .u32 turn, .slice a num c, u] 163 (0, 0)) := heap_alloc_at _ _ _ rfl
  have hg1 : w.grownBy (w.alloc (.cells #[.int .u32 turn, .slice a num c, u] 163)) none := World.grownBy_alloc _ _ _
  refine (HNM.out _ (HR.out.grown hg1)).mono ?_
  rintro e w2 ⟨rfl, g2⟩
  have HH2 := Lib.hid (g2.heap hh1 (by simp))
  have HG2 := Lib.hid (grownBy_trans hg1 g2)
  clear hh1 hg1 g2 HNM
  go_wp2_with (first
    | (go_at_call 136; refine (HPT.out _).mono ?_; rintro e wq ⟨rfl, rfl⟩)
    | (at_make; refine wpList_make_full _ rfl _ _ 33 rfl w.heap.size 9 i0 (.string ⟨#[]⟩) 1 Tryz.underlying33 hi hz0 hz1 _ _ _ _ N rfl rfl rfl rfl ?c1 ?c2 ?c3 ?_))
  case c1 => rw [hz2]; omega
  case c2 => unfold maxLen; omega
  case c3 => exact HG2.out.size
  intro w3 hown hg
  have hm : (madeCells #[Value.string ⟨#[]⟩] N).toList = strsV (fillS (nextK turn num s 0) N) := made_strs N
  rw [hm] at hown
  obtain ⟨g, hgg⟩ : ∃ g, w2.heap.size = g := ⟨_, rfl⟩
  rw [hgg] at hown ⊢
  have HA3 : Hid (NextAt w w3 w.heap.size g N #[.int .u32 turn, .slice a num c, u] (fillS (nextK turn num s 0) N)) :=
    ⟨hg.heap HH2.out (by simp), hown, grownBy_trans HG2.out hg, Nat.le_refl _, by have := HG2.out.size; omega, by have := (Array.getElem?_eq_some_iff.1 HH2.out).1; omega⟩
  clear hown hg hm hgg HG2 HH2
  go_wp2_with fail
  go_loopw [27] (fun iv wr => ∃ k : Nat, k ≤ N ∧ iv = .int .i64 k ∧ Hid (NextAt w wr w.heap.size g N #[.int .u32 turn, .slice a num c, u] (fillS (nextK turn num s k) N))) (fun iv _ => N - (intOf iv).toNat)
  case atStart => exact ⟨0, Nat.zero_le _, rfl, HA3.out⟩
  case round =>
    clear HA3
    obtain ⟨k, hk, rfl, HA⟩ := hrel
    by_cases hlt : k < N
    · have d1 : (k : Int) < (N : Int) := by omega
      have d0 : (0 : Int) ≤ (k : Int) := by omega
      obtain ⟨x, hx⟩ : ∃ x, 39 * k = x := ⟨_, rfl⟩
      obtain ⟨y, hy⟩ : ∃ y, 39 * (k + 1) = y := ⟨_, rfl⟩
      have hxs : x ≤ s.size := by have := HPI.out k hlt; omega
      have e1 : (k : Int) * 39 = (x : Int) := by omega
      have e2 : ((k : Int) + 1) * 39 = (y : Int) := by omega
      have e3 : (0 : Int) ≤ (x : Int) := by omega
      have hS9 := HS.out
      have HPK : Hid (partS s k = s.extract x (min y s.size)) := by
        show partS s k = _
        unfold partS
        rw [hx, hy]
      have hy9 : y ≤ 1000 := by omega
      have e5 : (s.size : Int) ≤ 900 := by omega
      have hxy : x ≤ y := by omega
      have HXY := Lib.hid (And.intro hx hy)
      clear hx hy
      go_upto_region 7 with (fail)
      go_cut [9] (fun pv wx => pv = .string (partS s k) ∧ Hid (wx = wr))
      case first =>
        by_cases hys : y ≤ s.size
        · have f1 : ¬ (s.size : Int) < (y : Int) := by omega
          have f2 : (y : Int) ≤ (s.size : Int) := by omega
          have f3 : (x : Int) ≤ (y : Int) := by omega
          go_wp2_with fail
          go_meet
          case rel => exact ⟨by rw [HPK.out]; congr 2; omega, rfl⟩
        · have f1 : (s.size : Int) < (y : Int) := by omega
          have f2 : ¬ (y : Int) ≤ (s.size : Int) := by omega
          have f3 : (x : Int) ≤ (s.size : Int) := by omega
          go_wp2_with fail
          go_meet
          case rel => exact ⟨by rw [HPK.out]; congr 2; omega, rfl⟩
      case rest =>
        obtain ⟨rfl, HWX⟩ := hcut
        have hq := HPS.out k
        have hq39 : (partS s k).size ≤ 39 := by rw [hq]; omega
        have HPDk := HPD.out k
        have HPCk := HPC.out k
        have HSEk := HSE.out k
        have HBLk := HBL.out k
        have HNXk := HNX.out k
        obtain rfl : wc = wr := HWX.out
        clear HWX hq HPK HXY
        generalize partS s k = P at hq39 HPDk ⊢
        obtain ⟨q, hPq⟩ : ∃ q, P.size = q := ⟨_, rfl⟩
        rw [hPq] at hq39 HPDk
        have uk := wrap_u64 k (by omega)
        have uq := wrap_u64 q (by omega)
        have hPqi : (P.size : Int) = (q : Int) := by omega
        have hnq : (39 : Int) - (q : Int) = ((39 - q : Nat) : Int) := by omega
        have hq9 : (q : Int) ≤ 39 := by omega
        have HN39 := Lib.hid (fun w => noughts_any (39 - q) (by omega) w)
        have hzl : (str (List.replicate (39 - q) (0 : UInt8))).size = 39 - q := by rw [str_size, List.length_replicate]
        obtain ⟨Z, hZ⟩ : ∃ Z, str (List.replicate (39 - q) (0 : UInt8)) = Z := ⟨_, rfl⟩
        rw [hZ] at HPDk HN39 hzl
        obtain ⟨t1, ht1⟩ : ∃ t, str (be turn 4) = t := ⟨_, rfl⟩
        obtain ⟨t2, ht2⟩ : ∃ t, str (be num 2) = t := ⟨_, rfl⟩
        obtain ⟨t3, ht3⟩ : ∃ t, str (be k 1) = t := ⟨_, rfl⟩
        obtain ⟨t4, ht4⟩ : ∃ t, str (be N 1) = t := ⟨_, rfl⟩
        obtain ⟨t5, ht5⟩ : ∃ t, str (be q 1) = t := ⟨_, rfl⟩
        have z1 : t1.size = 4 := by rw [← ht1, str_size, be_length]
        have z2 : t2.size = 2 := by rw [← ht2, str_size, be_length]
        have z3 : t3.size = 1 := by rw [← ht3, str_size, be_length]
        have z4 : t4.size = 1 := by rw [← ht4, str_size, be_length]
        have z5 : t5.size = 1 := by rw [← ht5, str_size, be_length]
        rw [ht1, ht2, ht3, ht4, ht5] at HPDk
        have HZ := Lib.hid (And.intro hZ (And.intro ht1 (And.intro ht2 (And.intro ht3 (And.intro ht4 ht5)))))
        clear hZ ht1 ht2 ht3 ht4 ht5
        have hcw : (wc.alloc (.cells #[.pointer none, .int .i64 0, .int .i64 0] 179)).heap[w.heap.size]? = _ := (World.grownBy_alloc wc (.cells #[.pointer none, .int .i64 0, .int .i64 0] 179) none).heap HA.out.half (by simp)
        have c0 := cell_of hcw 0
        simp at c0
        have hW0 := wfresh wc
        have HA0 := Lib.hid (HA.out.quiet (World.grownBy_alloc wc (.cells #[.pointer none, .int .i64 0, .int .i64 0] 179) none))
        have HAL := Lib.hid HA.out.lt
        have hWn : w.heap.size ≤ wc.heap.size := HA.out.grow.size
        have HCL : Hid (NextAt w wc w.heap.size g N #[.int .u32 turn, .slice a num c, u] (fillS (nextK turn num s k) N)) := HA.out
        clear HA hcw
        go_wp2_with fail
        obtain ⟨WB, hWB⟩ : ∃ WB, wc.heap.size = WB := ⟨_, rfl⟩
        rw [hWB] at hW0 hWn HAL ⊢
        obtain ⟨v0, hv0⟩ : ∃ v0, wc.alloc (.cells #[.pointer none, .int .i64 0, .int .i64 0] 179) = v0 := ⟨_, rfl⟩
        rw [hv0] at hW0 HA0 c0 ⊢
        clear hv0 hWB HCL
        have step : ∀ (wa wb : World), NextAt w wa w.heap.size g N #[.int .u32 turn, .slice a num c, u] (fillS (nextK turn num s k) N) → wa.grownBy wb (some WB) → NextAt w wb w.heap.size g N #[.int .u32 turn, .slice a num c, u] (fillS (nextK turn num s k) N) :=
          fun wa wb h q => h.step q (by intro e; cases e; have := HAL.out; omega) (by intro e; cases e; have := HAL.out; omega) (by intro x e; cases e; exact hWn)
        have HSTEP := Lib.hid step
        have HW0 := Lib.hid hW0
        clear step hW0
        refine (wnum_at turn 4 (by decide) (by decide) (by omega) (by omega) v0 WB [] HW0.out (by decide)).mono ?_
        rintro e v1 ⟨rfl, h1, g1⟩
        have HA1 := Lib.hid (HSTEP.out _ _ HA0.out g1)
        rw [HZ.out.2.1] at h1
        have HW1 := Lib.hid h1
        clear g1 h1 HA0 HW0 c0
        go_wp2_with fail
        refine (wnum_at num 2 (by decide) (by decide) (by omega) (by omega) v1 WB _ HW1.out (by simp only [total_cons, z1, z2, z3, z4, z5, hPq, HNS.out, hzl]; have : total [] = 0 := rfl; omega)).mono ?_
        rintro e v2 ⟨rfl, h2, g2⟩
        rw [HZ.out.2.2.1] at h2
        have HA2 := Lib.hid (HSTEP.out _ _ HA1.out g2)
        have HW2 := Lib.hid h2
        clear g2 h2 HA1 HW1
        go_wp2_with fail
        refine (wnum_at k 1 (by decide) (by decide) (by omega) (by omega) v2 WB _ HW2.out (by simp only [total_cons, z1, z2, z3, z4, z5, hPq, HNS.out, hzl]; have : total [] = 0 := rfl; omega)).mono ?_
        rintro e v3 ⟨rfl, h3, g3⟩
        rw [HZ.out.2.2.2.1] at h3
        have HA3 := Lib.hid (HSTEP.out _ _ HA2.out g3)
        have HW3 := Lib.hid h3
        clear g3 h3 HA2 HW2
        go_wp2_with fail
        refine (wnum_at N 1 (by decide) (by decide) (by omega) (by omega) v3 WB _ HW3.out (by simp only [total_cons, z1, z2, z3, z4, z5, hPq, HNS.out, hzl]; have : total [] = 0 := rfl; omega)).mono ?_
        rintro e v4 ⟨rfl, h4, g4⟩
        rw [HZ.out.2.2.2.2.1] at h4
        have HA4 := Lib.hid (HSTEP.out _ _ HA3.out g4)
        have HW4 := Lib.hid h4
        clear g4 h4 HA3 HW3
        go_wp2_with fail
        refine (wnum_at q 1 (by decide) (by decide) (by omega) (by omega) v4 WB _ HW4.out (by simp only [total_cons, z1, z2, z3, z4, z5, hPq, HNS.out, hzl]; have : total [] = 0 := rfl; omega)).mono ?_
        rintro e v5 ⟨rfl, h5, g5⟩
        rw [HZ.out.2.2.2.2.2] at h5
        have HA5 := Lib.hid (HSTEP.out _ _ HA4.out g5)
        have HW5 := Lib.hid h5
        clear g5 h5 HA4 HW4
        go_wp2_with fail
        refine (wfixed_at NM 8 (by rw [HNS.out]; rfl) v5 WB _ HW5.out (by simp only [total_cons, z1, z2, z3, z4, z5, hPq, HNS.out, hzl]; have : total [] = 0 := rfl; omega)).mono ?_
        rintro e v6 ⟨rfl, h6, g6⟩
        have HA6 := Lib.hid (HSTEP.out _ _ HA5.out g6)
        have HW6 := Lib.hid h6
        clear g6 h6 HA5 HW5
        go_wp2_with fail
        refine (wfixed_at P (q : Int) hPqi v6 WB _ HW6.out (by simp only [total_cons, z1, z2, z3, z4, z5, hPq, HNS.out, hzl]; have : total [] = 0 := rfl; omega)).mono ?_
        rintro e v7 ⟨rfl, h7, g7⟩
        have HA7 := Lib.hid (HSTEP.out _ _ HA6.out g7)
        have HW7 := Lib.hid h7
        clear g7 h7 HA6 HW6
        go_wp2_with fail
        refine (HN39.out _).mono ?_
        rintro e v8 ⟨rfl, g8⟩
        have HA8 := Lib.hid (HA7.out.quiet g8)
        have HW8 := Lib.hid (HW7.out.grown g8)
        clear g8 HA7 HW7
        go_wp2_with fail
        refine (wfixed_at Z ((39 - q : Nat) : Int) (by rw [hzl]) v8 WB _ HW8.out (by simp only [total_cons, z1, z2, z3, z4, z5, hPq, HNS.out, hzl]; have : total [] = 0 := rfl; omega)).mono ?_
        rintro e v9 ⟨rfl, h9, g9⟩
        have HA9 := Lib.hid (HSTEP.out _ _ HA8.out g9)
        have HW9 := Lib.hid h9
        clear g9 h9 HA8 HW8
        have hby := bytes_ok v9 WB _ HW9.out (by simp only [total_cons, z1, z2, z3, z4, z5, hPq, HNS.out, hzl]; have : total [] = 0 := rfl; omega)
        rw [← HPDk, HPCk] at hby
        obtain ⟨BD, hBD⟩ : ∃ BD, str (bodyL turn num s k) = BD := ⟨_, rfl⟩
        rw [hBD] at hby HSEk HBLk
        have HBY := Lib.hid hby
        clear hby HW9 hBD
        go_wp2_with fail
        refine HBY.out.mono ?_
        rintro e v10 ⟨rfl, g10⟩
        have HA10 := Lib.hid (HA9.out.quiet g10)
        have HT := Lib.hid (tagged_new v10 8 [BD] _ 1 8 rfl rfl rfl (HR.out.grown HA10.out.grow) (by simp) (by
          intro x hx
          simp at hx
          subst hx
          omega))
        have h16 := tagS_size 8 [BD]
        have HSM : Hid (sumS BD = BD ++ (tagS 8 [BD]).extract 0 8) := rfl
        generalize tagS 8 [BD] = T at HT h16 HSM
        clear HA9 g10 HBY
        go_wp2_with fail
        refine HT.out.mono ?_
        rintro e v11 ⟨rfl, g11⟩
        have HA11 := Lib.hid (HA10.out.quiet g11)
        have hE8 : (T.extract 0 8).size = 8 := by rw [ByteArray.size_extract]; omega
        have hsum : BD.size + (T.extract 0 8).size ≤ 9223372036854775807 := by omega
        have h16i : (8 : Int) ≤ (T.size : Int) := by omega
        have hf := HA11.out.row.frozenAt k
        have hnl := HNL.out k
        have hat := fillS_at (nextK turn num s k) N (by omega)
        have hput := fillS_put (nextK turn num s k) N (secS turn num s k) (by omega)
        rw [hnl] at hat hput
        rw [← HNXk, HSEk, HSM.out] at hput
        have hc : v11.cell? ⟨g, k, none⟩ = some (.string ⟨#[]⟩) := (HA11.out.row.cellAt k (by omega)).trans hat
        have HP := Lib.hid hput
        clear HT g11 HA10 hat hput hnl
        go_wp2_with fail
        go_roundw
        case rel =>
          exact ⟨k + 1, by omega, by go_num, HA11.out.store HP.out⟩
        case measure => simp [intOf]; omega
    · have hkN : k = N := by omega
      subst hkN
      have d1 : ¬ (k : Int) < (k : Int) := by omega
      have hrow := HA.out.row
      rw [fillS_full _ _ (HNL.out k), ← HFIN.out] at hrow
      have HRW := Lib.hid hrow
      have HGR := Lib.hid HA.out.grow
      clear hrow HA
      go_wp2_with fail
      go_ret
      exact ⟨_, rfl, HRW.out, HGR.out⟩
end Go.Proofs.YtbhoeiopckmfhaaGreatDoor

namespace Go.Proofs.YtbhoeiopckmfhaaGreatDoor
open Go.RowKit

def fullT (s : ByteArray) : ByteArray := str (fullL s.data.toList)
theorem fullT_size (s : ByteArray) (h : s.size ≤ 64) : (fullT s).size = 64 := by
  show (fullL s.data.toList).length = 64
  exact fullL_length _ (by simpa using h)
theorem full_end {s t : ByteArray} {k : Nat} (h : t.data.toList = s.data.toList ++ zeros k) (hk : k = 64 - s.size) : Ending.returned (.string t) = .returned (.string (fullT s)) := by
  have e : t = fullT s := by
    apply ByteArray.ext
    apply Array.toList_inj.1
    rw [h, hk]
    rfl
  rw [e]
theorem works_nil (w : World) : Calls Tryz.prog 181 #[.pointer none] w fun e w' => e = .returned (.int .i64 1) ∧ w = w' := by
  go_enter Tryz.func181, Tryz.ntmps181
  go_wp2_with fail
  go_ret
  exact ⟨rfl, rfl⟩
theorem count_nil (w : World) : Calls Tryz.prog 82 #[.pointer none] w fun e w' => e = .returned (.int .i64 0) ∧ w = w' := by
  go_enter Tryz.func82, Tryz.ntmps82
  go_wp2_with fail
  go_ret
  exact ⟨rfl, rfl⟩
/-! ### a disk's head, by its cells -/
theorem works_on (b : Nat) (w : World) (h : w.cell? ⟨b, 2, none⟩ = some (.bool true)) : Calls Tryz.prog 181 #[.pointer (some ⟨b, 0, none⟩)] w fun e w' => e = .returned (.int .i64 0) ∧ w = w' := by
  go_enter Tryz.func181, Tryz.ntmps181
  go_wp2_with fail
  go_ret
  exact ⟨rfl, rfl⟩
theorem works_off (b : Nat) (w : World) (h : w.cell? ⟨b, 2, none⟩ = some (.bool false)) : Calls Tryz.prog 181 #[.pointer (some ⟨b, 0, none⟩)] w fun e w' => e = .returned (.int .i64 8) ∧ w = w' := by
  go_enter Tryz.func181, Tryz.ntmps181
  go_wp2_with fail
  go_ret
  exact ⟨rfl, rfl⟩
theorem count_cell (b : Nat) (a : Option Addr) (n c : Nat) (w : World) (h : w.cell? ⟨b, 0, none⟩ = some (.slice a n c)) : Calls Tryz.prog 82 #[.pointer (some ⟨b, 0, none⟩)] w fun e w' => e = .returned (.int .i64 n) ∧ w = w' := by
  go_enter Tryz.func82, Tryz.ntmps82
  go_wp2_with fail
  go_ret
  exact ⟨rfl, rfl⟩
theorem reaches_nil (i : Int) (w : World) : Calls Tryz.prog 165 #[.pointer none, .int .i64 i] w fun e w' => e = .returned (.int .i64 1) ∧ w = w' := by
  go_enter Tryz.func165, Tryz.ntmps165
  go_wp2_with fail
  refine (works_nil w).mono ?_
  rintro e w1 ⟨rfl, rfl⟩
  go_wp2_with fail
  go_ret
  exact ⟨rfl, rfl⟩
theorem reaches_off (b : Nat) (i : Int) (w : World) (h : w.cell? ⟨b, 2, none⟩ = some (.bool false)) : Calls Tryz.prog 165 #[.pointer (some ⟨b, 0, none⟩), .int .i64 i] w fun e w' => e = .returned (.int .i64 8) ∧ w = w' := by
  go_enter Tryz.func165, Tryz.ntmps165
  go_wp2_with fail
  refine (works_off b w h).mono ?_
  rintro e w1 ⟨rfl, rfl⟩
  go_wp2_with fail
  go_ret
  exact ⟨rfl, rfl⟩
theorem reaches_out (b : Nat) (i : Int) (a : Option Addr) (n c : Nat) (w : World) (h : w.cell? ⟨b, 2, none⟩ = some (.bool true)) (hl : w.cell? ⟨b, 0, none⟩ = some (.slice a n c)) (hi : i < 0 ∨ (n : Int) ≤ i) : Calls Tryz.prog 165 #[.pointer (some ⟨b, 0, none⟩), .int .i64 i] w fun e w' => e = .returned (.int .i64 10) ∧ w = w' := by
  by_cases h0 : i < 0
  · clear hi
    go_enter Tryz.func165, Tryz.ntmps165
    go_wp2_with fail
    refine (works_on b w h).mono ?_
    rintro e w1 ⟨rfl, rfl⟩
    go_wp2_with fail
    go_ret
    exact ⟨rfl, rfl⟩
  · have h1 : 0 ≤ i := by omega
    have h2 : (n : Int) ≤ i := by omega
    clear hi
    go_enter Tryz.func165, Tryz.ntmps165
    go_wp2_with fail
    refine (works_on b w h).mono ?_
    rintro e w1 ⟨rfl, rfl⟩
    go_wp2_with fail
    go_ret
    exact ⟨rfl, rfl⟩
theorem reaches_ok (b i : Nat) (a : Option Addr) (n c : Nat) (w : World) (h : w.cell? ⟨b, 2, none⟩ = some (.bool true)) (hl : w.cell? ⟨b, 0, none⟩ = some (.slice a n c)) (hi : i < n) : Calls Tryz.prog 165 #[.pointer (some ⟨b, 0, none⟩), .int .i64 i] w fun e w' => e = .returned (.int .i64 0) ∧ w = w' := by
  have h2 : (i : Int) < (n : Int) := by omega
  go_enter Tryz.func165, Tryz.ntmps165
  go_wp2_with fail
  refine (works_on b w h).mono ?_
  rintro e w1 ⟨rfl, rfl⟩
  go_wp2_with fail
  go_ret
  exact ⟨rfl, rfl⟩
end Go.Proofs.YtbhoeiopckmfhaaGreatDoor

namespace Go.Proofs.YtbhoeiopckmfhaaGreatDoor
open Go.RowKit

/-! ### New -/
theorem infoContent : (Tryz.prog.info? 126).map (fun i => (i.zero, i.size, i.bytes)) = some (some (.agg (bytesV (zeros 64)).toArray), 64, 64) := by kernel_rfl
theorem infoWriting : (Tryz.prog.info? 128).map (fun i => (i.zero, i.size, i.bytes)) = some (some (.agg (wcells (0, zeros 64)).toArray), 65, 72) := by kernel_rfl
theorem zeros_at (m j : Nat) (h : j < m) : (bytesV (zeros m)).toArray[j]! = .int .u8 0 := by
  have hl : j < (bytesV (zeros m)).toArray.size := by simpa [bytesV, zeros] using h
  rw [getElem!_pos _ j hl]
  simp [bytesV, zeros]
theorem made_zeros (m n : Nat) (hm : 0 < m) : (madeCells (bytesV (zeros m)).toArray (n * m)).toList = bytesV (zeros (n * m)) := by
  have hsz : (bytesV (zeros m)).toArray.size = m := by simp [bytesV, zeros]
  apply List.ext_getElem
  · simp [madeCells, bytesV, zeros]
  · intro i h1 h2
    have hi : i < n * m := by simpa [madeCells] using h1
    rw [show (bytesV (zeros (n * m)))[i] = .int .u8 0 from by simp [bytesV, zeros]]
    simp only [madeCells, hsz]
    rw [Array.getElem_toList, Array.getElem_map, Array.getElem_range]
    exact zeros_at m _ (Nat.mod_lt _ hm)
theorem sflat_zeros (n : Nat) : sflat (List.replicate n (zeros 64)) = zeros (n * 64) := by
  induction n with
  | zero => rfl
  | succ n ih =>
    show zeros 64 ++ sflat (List.replicate n (zeros 64)) = _
    rw [ih]
    simp only [zeros, List.replicate_append_replicate]
    congr 1
    omega
theorem made_secs (n : Nat) : (madeCells (bytesV (zeros 64)).toArray (n * 64)).toList = bytesV (sflat (List.replicate n (zeros 64))) := by
  rw [sflat_zeros]
  exact made_zeros 64 n (by decide)

theorem own_base0 {w : World} {B n size : Nat} {t : TypeId} {v : Value} {xs : List Value} (h : w.ownsRow B t size v n xs) : w.ownsRow 0 t size v n xs := by
  refine ⟨h.1, ?_⟩
  rcases h.2 with h' | ⟨g, cap, cur, a, b, r⟩
  · exact .inl h'
  · exact .inr ⟨g, cap, cur, a, Nat.zero_le _, r⟩
def newD (n : Nat) : DiskS := ⟨List.replicate n (zeros 64), [], true, -1, []⟩
theorem secs_new (n : Nat) : Secs (List.replicate n (zeros 64)) := by
  intro s hs
  rw [(List.mem_replicate.1 hs).2]
  rfl
set_option maxHeartbeats 400000 in
theorem new_ok (n : Nat) (h4 : 4 ≤ n) (hn : n ≤ 1024) (w : World) :
    Calls Tryz.prog 7 #[.int .i64 n] w fun e w' => ∃ b, e = .returned (.tuple #[.pointer (some ⟨b, 0, none⟩), .int .i64 0]) ∧ DiskAt (madeIn w w') w' b (newD n) ∧ w.grownBy w' none := by
  obtain ⟨i0, hti, hz0, hz1, hz2⟩ := info_parts infoContent
  have b1 : ¬ (n : Int) < 4 := by omega
  have b2 : ¬ (1024 : Int) < n := by omega
  go_enter Tryz.func7, Tryz.ntmps7
  go_wp2_with (at_make; refine wpList_make_full _ rfl _ _ 98 rfl w.heap.size 126 i0 _ 64 Tryz.underlying98 hti hz0 hz1 _ _ _ _ n rfl rfl rfl rfl ?c1 ?c2 ?c3 ?_)
  case c1 => omega
  case c2 => unfold maxLen; omega
  intro w2 hown hg
  rw [made_secs n] at hown
  have hgl : w.heap.size < w2.heap.size := (hown.lt w.heap.size rfl).2
  have HO := Lib.hid hown
  have HG := Lib.hid hg
  clear hown hg
  go_wp2_with fail
  go_ret2
  refine ⟨w2.heap.size, rfl, ⟨_, _, _, ⟨heap_alloc_at w2 _ _ rfl, ?_, World.ownsRow_nil _ _ _ _, World.ownsRow_nil _ _ _ _, secs_new n, fun x hx => by simp [newD] at hx, ?_, by simp [Value.ownBlock], by simp [Value.ownBlock], by simp [Value.ownBlock], by simp [Value.ownBlock], by simp [Value.ownBlock]⟩, ?_, ?_, by simp [Value.ownBlock], by simp [Value.ownBlock]⟩, grownBy_alloc' HG.out _⟩
  · rw [show (newD n).last.length = n from by simp [newD]]
    exact (own_base0 HO.out).alloc _
  · simp only [Value.ownBlock, ne_eq, Option.some.injEq]
    omega
  · exact ⟨by omega, by simp⟩
  · intro g e
    simp only [Value.ownBlock, Option.some.injEq] at e
    subst e
    exact ⟨Nat.le_refl _, by simp; omega⟩

/-! ### A writing's noughts -/
def wZ : Array Value := (wcells (0, zeros 64)).toArray
theorem wZ_size : wZ.size = 65 := by kernel_rfl
theorem wZ_ne : ¬ wZ = #[] := fun e => by have := wZ_size; rw [e] at this; cases this
theorem zero_writing (w : World) : (zeroValue 128).run Tryz.prog w = .ok (.agg wZ) w := by
  obtain ⟨i, hi, hz⟩ := Option.map_eq_some_iff.1 (show (Tryz.prog.info? 128).map (·.zero) = some (some (.agg wZ)) by kernel_rfl)
  simp [zeroValue, typeInfo, hi, hz]
end Go.Proofs.YtbhoeiopckmfhaaGreatDoor

namespace Go.Proofs.YtbhoeiopckmfhaaGreatDoor
open Go.RowKit

theorem wrap_i64_nat (n : Nat) (h : n < 9223372036854775808) : IntKind.i64.wrap (n : Int) = (n : Int) := by
  simp only [IntKind.wrap, IntKind.bits, IntKind.signed, IntKind.min, IntKind.max]; simp; omega
theorem bits_and_i64_nat (a b : Nat) (ha : a < 9223372036854775808) (hb : b < 9223372036854775808) :
    bits .and .i64 (a : Int) (b : Int) = ((a &&& b : Nat) : Int) := by
  have hx : a &&& b < 2 ^ 63 := Nat.and_lt_two_pow _ (by omega)
  have h1 : (BitVec.ofInt 64 (a : Int)).toNat = a := by
    rw [BitVec.ofInt_natCast, BitVec.toNat_ofNat]; exact Nat.mod_eq_of_lt (by omega)
  have h2 : (BitVec.ofInt 64 (b : Int)).toNat = b := by
    rw [BitVec.ofInt_natCast, BitVec.toNat_ofNat]; exact Nat.mod_eq_of_lt (by omega)
  show IntKind.i64.wrap ((BitVec.ofInt 64 (a : Int) &&& BitVec.ofInt 64 (b : Int)).toNat : Int) = _
  rw [BitVec.toNat_and, h1, h2, wrap_i64_nat _ (by omega)]
theorem bits_or_i64_nat (a b : Nat) (ha : a < 9223372036854775808) (hb : b < 9223372036854775808) :
    bits .or .i64 (a : Int) (b : Int) = ((a ||| b : Nat) : Int) := by
  have hx : a ||| b < 2 ^ 63 := Nat.or_lt_two_pow (by omega) (by omega)
  have h1 : (BitVec.ofInt 64 (a : Int)).toNat = a := by
    rw [BitVec.ofInt_natCast, BitVec.toNat_ofNat]; exact Nat.mod_eq_of_lt (by omega)
  have h2 : (BitVec.ofInt 64 (b : Int)).toNat = b := by
    rw [BitVec.ofInt_natCast, BitVec.toNat_ofNat]; exact Nat.mod_eq_of_lt (by omega)
  show IntKind.i64.wrap ((BitVec.ofInt 64 (a : Int) ||| BitVec.ofInt 64 (b : Int)).toNat : Int) = _
  rw [BitVec.toNat_or, h1, h2, wrap_i64_nat _ (by omega)]
theorem bits_xor_i64_nat (a b : Nat) (ha : a < 9223372036854775808) (hb : b < 9223372036854775808) :
    bits .xor .i64 (a : Int) (b : Int) = ((a ^^^ b : Nat) : Int) := by
  have hx : a ^^^ b < 2 ^ 63 := Nat.xor_lt_two_pow (by omega) (by omega)
  have h1 : (BitVec.ofInt 64 (a : Int)).toNat = a := by
    rw [BitVec.ofInt_natCast, BitVec.toNat_ofNat]; exact Nat.mod_eq_of_lt (by omega)
  have h2 : (BitVec.ofInt 64 (b : Int)).toNat = b := by
    rw [BitVec.ofInt_natCast, BitVec.toNat_ofNat]; exact Nat.mod_eq_of_lt (by omega)
  show IntKind.i64.wrap ((BitVec.ofInt 64 (a : Int) ^^^ BitVec.ofInt 64 (b : Int)).toNat : Int) = _
  rw [BitVec.toNat_xor, h1, h2, wrap_i64_nat _ (by omega)]
theorem and_one_i64 (m : Nat) (h : m < 9223372036854775808) : bits .and .i64 (m : Int) 1 = ((m % 2 : Nat) : Int) := by
  have := bits_and_i64_nat m 1 h (by decide)
  rw [Nat.and_one_is_mod] at this
  exact this
end Go.Proofs.YtbhoeiopckmfhaaGreatDoor

namespace Go.Proofs.YtbhoeiopckmfhaaGreatDoor
open Go.RowKit

theorem row_string_w (w : World) (vs : List Value) (l : List UInt8) (hl : vs = u8s l) :
    (convert 23 9 (.slice (some ⟨w.heap.size, 0, none⟩) l.length l.length)).run Tryz.prog (w.alloc (.cells vs.toArray 5)) = .ok (.string (str l)) (w.alloc (.cells vs.toArray 5)) := by
  subst hl
  exact row_string (w := w.alloc (.cells (u8s l).toArray 5)) (g := w.heap.size) (t := 5) (heap_alloc_at _ _ _ rfl) _
theorem be4 (n : Nat) : be n 4 = [UInt8.ofNat (n / 256 ^ 3 % 256), UInt8.ofNat (n / 256 ^ 2 % 256), UInt8.ofNat (n / 256 ^ 1 % 256), UInt8.ofNat (n / 256 ^ 0 % 256)] := by
  simp [be, Nat.div_div_eq_div_mul]
theorem four_bytes (n : Nat) : [Value.int .u8 ((n : Int) / 16777216 % 256), .int .u8 ((n : Int) / 65536 % 256), .int .u8 ((n : Int) / 256 % 256), .int .u8 ((n : Int) % 256)] = u8s (be n 4) := by
  rw [be4]
  simp [u8s]
end Go.Proofs.YtbhoeiopckmfhaaGreatDoor

namespace Go.Proofs.YtbhoeiopckmfhaaGreatDoor
open Go.RowKit

def ints (L : List Int) : List Value := L.map (Value.int .i64)
theorem ints_length (L : List Int) : (ints L).length = L.length := by simp [ints]
theorem ints_append (L M : List Int) : ints (L ++ M) = ints L ++ ints M := by simp [ints]
theorem ints_at (L : List Int) (i : Nat) (h : i < L.length) : (ints L)[i]? = some (.int .i64 L[i]) := by simp [ints, List.getElem?_eq_getElem h]
/-- a slice that holds these numbers -/
def IntsAt (w : World) (v : Value) (L : List Int) : Prop :=
  ∃ a cap, v = .slice a L.length cap ∧ ∀ i (h : i < L.length), ∃ g o, a = some ⟨g, o, none⟩ ∧ w.cell? ⟨g, o + i, none⟩ = some (.int .i64 L[i])
theorem IntsAt.kept {w w' : World} {v : Value} {L : List Int} (h : IntsAt w v L) (hb : w.grownBy w' none) : IntsAt w' v L := by
  obtain ⟨a, cap, rfl, hc⟩ := h
  refine ⟨a, cap, rfl, fun i hi => ?_⟩
  obtain ⟨g, o, ha, hcell⟩ := hc i hi
  exact ⟨g, o, ha, hb.cell hcell (by simp)⟩
theorem IntsAt.nil (w : World) (a : Option Addr) (cap : Nat) : IntsAt w (.slice a 0 cap) [] := ⟨a, cap, rfl, fun i h => absurd h (by simp)⟩
theorem ints_of_own {w : World} {B n : Nat} {t : TypeId} {a : Option Addr} {cap : Nat} {L : List Int} (h : w.ownsRow B t 1 (.slice a n cap) n (ints L)) : IntsAt w (.slice a n cap) L := by
  have hl := h.1
  simp [ints] at hl
  subst hl
  refine ⟨a, cap, rfl, fun i hi => ?_⟩
  rcases h.2 with ⟨_, h0⟩ | ⟨g, cap', cur, he, hB, hg, hnc, hm, hcs, htake⟩
  · omega
  · cases he
    refine ⟨g, 0, rfl, ?_⟩
    rw [Nat.zero_add, cell_of hg]
    have : (ints L)[i]? = some (.int .i64 L[i]) := ints_at L i hi
    rw [← htake, List.getElem?_take, if_pos (by omega)] at this
    simpa using this
theorem own_kept {w w' : World} {B n : Nat} {t : TypeId} {v : Value} {xs : List Value} (h : w.ownsRow B t 1 v n xs) (hg : w.grownBy w' none) : w'.ownsRow B t 1 v n xs := by
  obtain ⟨hl, h⟩ := h
  refine ⟨hl, ?_⟩
  rcases h with h' | ⟨g, cap, cur, rfl, a, hgg, r⟩
  · exact .inl h'
  · refine .inr ⟨g, cap, cur, rfl, a, ?_, r⟩
    rw [hg.block g (Array.getElem?_eq_some_iff.1 hgg).1 (by simp)]
    exact hgg
end Go.Proofs.YtbhoeiopckmfhaaGreatDoor
