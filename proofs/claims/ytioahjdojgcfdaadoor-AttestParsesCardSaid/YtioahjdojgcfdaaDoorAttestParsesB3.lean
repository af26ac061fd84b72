/- Lists of texts in memory. No walk. · Plain functions for package merkle: nodes, roots, paths, climbs, each by levels and by halves. No walk of the program. · sha.Tagged of texts in a new block. · The four bytes of a number. No walk. · Slices of integers in memory. No walk. · The walks of digits' small functions. · The walk of digits.Of. · The walks of wots' places, secrets, walks. · The walks of wots.Public, Sign, Recover. · Bits of numbers of kind i64 that are not below 0. No walk. · The walks of xmss's Public.Encode and DecodePublic. -/
import Derived.Test.YtioahjdojgcfdaaDoorShaCalls
import Derived.Test.YtioahjdojgcfdaaDoorAttestParsesB2
import Derived.Test.YtioahjdojgcfdaaDoorAttestParsesB1
import Derived.WalkSpells
import Derived.WalkLawsBesides
import Derived.Laws.IdiomStrings
import Derived.Deep.LoopGhost
import Derived.Deep.DeepCutAuto
import Derived.Deep.CutBlock
import Derived.Laws.Bits64b
import Derived.WalkKit
import Derived.Handy
import Derived.Deep.RegionHeld3
namespace Go.Proofs.YtioahjdojgcfdaaDoor
open Go.RowKit

def strsV (L : List ByteArray) : List Value := L.map Value.string
theorem strsV_length (L : List ByteArray) : (strsV L).length = L.length := by simp [strsV]
theorem infoStrW : (Tryd.prog.info? 9).map (fun i => (i.zero, i.size, i.bytes)) = some (some (.string ⟨#[]⟩), 1, 16) := by kernel_rfl
theorem strs_own {w : World} {B n : Nat} {a : Option Addr} {cap : Nat} {L : List ByteArray} (h : w.ownsRow B 9 1 (.slice a n cap) n (strsV L)) : StrsAt w (.slice a n cap) L := by
  have hl := h.1
  simp [strsV] at hl
  subst hl
  refine ⟨a, cap, rfl, fun i hi => ?_⟩
  rcases h.2 with ⟨_, h0⟩ | ⟨g, cap', cur, he, hB, hg, hnc, hm, hcs, htake⟩
  · omega
  · cases he
    refine ⟨g, 0, rfl, ?_⟩
    rw [Nat.zero_add, cell_of hg]
    have : (strsV L)[i]? = some (.string L[i]) := by simp [strsV, List.getElem?_eq_getElem hi]
    rw [← htake, List.getElem?_take, if_pos (by omega)] at this
    simpa using this
theorem StrsAt.grown {w w' : World} {v : Value} {L : List ByteArray} (h : StrsAt w v L) (hg : w.grownBy w' none) : StrsAt w' v L := h.kept (below_grownBy hg)
theorem StrsAt.form {w : World} {v : Value} {L : List ByteArray} (h : StrsAt w v L) : ∃ a cap, v = .slice a L.length cap := by
  obtain ⟨a, cap, rfl, _⟩ := h
  exact ⟨a, cap, rfl⟩
theorem StrsAt.at_ {w : World} {a : Option Addr} {n cap : Nat} {L : List ByteArray} (h : StrsAt w (.slice a n cap) L) (i : Nat) (x : ByteArray) (hx : L[i]? = some x) : ∃ g o, a = some ⟨g, o, none⟩ ∧ w.cell? ⟨g, o + i, none⟩ = some (.string x) := by
  obtain ⟨a', cap', he, hc⟩ := h
  cases he
  obtain ⟨hi, rfl⟩ := List.getElem?_eq_some_iff.1 hx
  exact hc i hi
theorem made_strs (n : Nat) : (madeCells #[Value.string ⟨#[]⟩] n).toList = strsV (List.replicate n ⟨#[]⟩) := by
  apply List.ext_getElem?
  intro i
  simp [madeCells, strsV, List.getElem?_replicate]
  by_cases h : i < n <;> simp [h, Nat.mod_one]
/-- a list being filled: what is done, then empty texts -/
def fillS (L : List ByteArray) (n : Nat) : List ByteArray := L ++ List.replicate (n - L.length) ⟨#[]⟩
theorem fillS_put (L : List ByteArray) (n : Nat) (x : ByteArray) (h : L.length < n) : (strsV (fillS L n)).set L.length (.string x) = strsV (fillS (L ++ [x]) n) := by
  have e : strsV (fillS L n) = strsV L ++ (.string ⟨#[]⟩) :: strsV (List.replicate (n - (L.length + 1)) ⟨#[]⟩) := by
    rw [fillS, show n - L.length = (n - (L.length + 1)) + 1 from by omega, List.replicate_succ]
    simp [strsV]
  have hl := strsV_length L
  rw [e, List.set_append_right _ _ (by omega), hl, Nat.sub_self, List.set_cons_zero]
  simp [strsV, fillS]
theorem fillS_at (L : List ByteArray) (n : Nat) (h : L.length < n) : (strsV (fillS L n))[L.length]? = some (.string ⟨#[]⟩) := by
  have hl := strsV_length L
  rw [fillS, show n - L.length = (n - (L.length + 1)) + 1 from by omega, List.replicate_succ]
  simp only [strsV, List.map_append, List.map_cons]
  rw [List.getElem?_append_right (by simp), List.length_map, Nat.sub_self]
  rfl
theorem fillS_full (L : List ByteArray) (n : Nat) (h : L.length = n) : fillS L n = L := by
  rw [fillS, h, Nat.sub_self]
  simp

theorem StrsAt.news {w : World} {g o n cap : Nat} {L : List ByteArray} (h : StrsAt w (.slice (some ⟨g, o, none⟩) n cap) L) : ∀ j u, (strsV L)[j]? = some u → w.cell? ((⟨g, o, none⟩ : Addr).add j) = some u := by
  intro j u hj
  have hj' : j < L.length := by have := (List.getElem?_eq_some_iff.1 hj).1; rwa [strsV_length] at this
  obtain ⟨g', o', he, hc⟩ := h.at_ j _ (List.getElem?_eq_getElem hj')
  cases he
  rw [show Addr.add ⟨g, o, none⟩ j = (⟨g, o + j, none⟩ : Addr) from by simp [Addr.add], hc, ← hj]
  simp [strsV, List.getElem?_eq_getElem hj']
theorem strsV_one (L : List ByteArray) : ∀ u ∈ strsV L, u.oneCell' = true := by
  intro u hu
  obtain ⟨x, _, rfl⟩ := List.mem_map.1 hu
  rfl
theorem slice_own' {w : World} {B n : Nat} {t : TypeId} {v : Value} {xs : List Value} (h : w.ownsRow B t 1 v n xs) : ∃ a cap, v = .slice a n cap := by
  rcases h.2 with ⟨rfl, rfl⟩ | ⟨g, cap, cur, rfl, _⟩
  · exact ⟨none, 0, rfl⟩
  · exact ⟨_, _, rfl⟩

theorem StrsAt.lt {w : World} {g o n c : Nat} {L : List ByteArray} (h : StrsAt w (.slice (some ⟨g, o, none⟩) n c) L) (h0 : 0 < L.length) : g < w.heap.size := by
  obtain ⟨g', o', e, hc⟩ := h.at_ 0 _ (List.getElem?_eq_getElem h0)
  cases e
  exact cell_lt hc

theorem push_strs (P : List ByteArray) (x : ByteArray) : strsV P ++ [.string x] = strsV (P ++ [x]) := by simp [strsV]
theorem lit_one (w : World) (x : ByteArray) : ∀ j u, [Value.string x][j]? = some u → (w.alloc (.cells #[.string x] 9)).cell? ((⟨w.heap.size, 0, none⟩ : Addr).add j) = some u := by
  intro j u hj
  cases j with
  | zero =>
    simp at hj
    subst hj
    exact cell_of (heap_alloc_at _ _ _ rfl) 0
  | succ j => simp at hj
end Go.Proofs.YtioahjdojgcfdaaDoor

namespace Go.Proofs.YtioahjdojgcfdaaDoor
attribute [local irreducible] shaL

def nodeS (a b : ByteArray) : ByteArray := tagS 5 [a, b]
theorem nodeS_size (a b : ByteArray) : (nodeS a b).size = 16 := tagS_size _ _
/-- the level above -/
def aboveS : List ByteArray → List ByteArray
  | a :: b :: r => nodeS a b :: aboveS r
  | _ => []
def rootS : Nat → List ByteArray → ByteArray
  | 0, l => l.headD ByteArray.empty
  | h + 1, l => rootS h (aboveS l)
def pathS : Nat → List ByteArray → Nat → List ByteArray
  | 0, _, _ => []
  | h + 1, l, i => l.getD (i ^^^ 1) ByteArray.empty :: pathS h (aboveS l) (i / 2)
def stepC (x : ByteArray) (i : Nat) (b : ByteArray) : ByteArray := if i % 2 = 1 then nodeS b x else nodeS x b
def climbS (x : ByteArray) (i : Nat) : List ByteArray → ByteArray
  | [] => x
  | b :: r => climbS (stepC x i b) (i / 2) r
/-- by halves -/
def rootH : Nat → List ByteArray → ByteArray
  | 0, l => l.headD ByteArray.empty
  | h + 1, l => nodeS (rootH h (l.take (2 ^ h))) (rootH h (l.drop (2 ^ h)))
def pathH : Nat → List ByteArray → Nat → List ByteArray
  | 0, _, _ => []
  | h + 1, l, i => if i < 2 ^ h then pathH h (l.take (2 ^ h)) i ++ [rootH h (l.drop (2 ^ h))] else pathH h (l.drop (2 ^ h)) (i - 2 ^ h) ++ [rootH h (l.take (2 ^ h))]

theorem aboveS_length : ∀ (n : Nat) (l : List ByteArray), l.length = 2 * n → (aboveS l).length = n
  | 0, [], _ => rfl
  | n + 1, a :: b :: r, h => by
    simp only [List.length_cons] at h
    rw [aboveS, List.length_cons, aboveS_length n r (by omega)]
  | 0, _ :: _, h => by simp at h
  | n + 1, [], h => by simp at h
  | n + 1, [_], h => by simp at h; omega
theorem aboveS_at : ∀ (k : Nat) (l : List ByteArray) (a b : ByteArray), l[2 * k]? = some a → l[2 * k + 1]? = some b → (aboveS l)[k]? = some (nodeS a b)
  | 0, a' :: b' :: r, a, b, h1, h2 => by
    simp at h1 h2
    subst h1; subst h2
    rfl
  | k + 1, a' :: b' :: r, a, b, h1, h2 => by
    rw [show 2 * (k + 1) = 2 * k + 1 + 1 from by omega] at h1 h2
    simp only [List.getElem?_cons_succ] at h1 h2
    rw [aboveS, List.getElem?_cons_succ]
    exact aboveS_at k r a b h1 h2
  | 0, [], _, _, h, _ => by simp at h
  | 0, [_], _, _, _, h => by simp at h
  | k + 1, [], _, _, h, _ => by simp at h
  | k + 1, [_], _, _, h, _ => by
    rw [show 2 * (k + 1) = 2 * k + 1 + 1 from by omega] at h
    simp at h
theorem aboveS_append : ∀ (n : Nat) (l m : List ByteArray), l.length = 2 * n → aboveS (l ++ m) = aboveS l ++ aboveS m
  | 0, [], m, _ => rfl
  | n + 1, a :: b :: r, m, h => by
    simp only [List.length_cons] at h
    rw [List.cons_append, List.cons_append, aboveS, aboveS, aboveS_append n r m (by omega), List.cons_append]
  | 0, _ :: _, _, h => by simp at h
  | n + 1, [], _, h => by simp at h
  | n + 1, [_], _, h => by simp at h; omega
theorem aboveS_sizes : ∀ (l : List ByteArray), ∀ s ∈ aboveS l, s.size = 16
  | a :: b :: r, s, h => by
    rw [aboveS] at h
    rcases List.mem_cons.1 h with rfl | h
    · exact nodeS_size _ _
    · exact aboveS_sizes r s h
  | [], s, h => by cases h
  | [_], s, h => by cases h
theorem aboveS_take (n : Nat) (l : List ByteArray) (h : 2 * n ≤ l.length) : (aboveS l).take n = aboveS (l.take (2 * n)) := by
  have e := aboveS_append n (l.take (2 * n)) (l.drop (2 * n)) (by rw [List.length_take]; omega)
  rw [List.take_append_drop] at e
  rw [e, List.take_append_of_le_length (by rw [aboveS_length n _ (by rw [List.length_take]; omega)]; exact Nat.le_refl _), List.take_of_length_le]
  rw [aboveS_length n _ (by rw [List.length_take]; omega)]
  exact Nat.le_refl _
theorem aboveS_drop (n : Nat) (l : List ByteArray) (h : 2 * n ≤ l.length) : (aboveS l).drop n = aboveS (l.drop (2 * n)) := by
  have e := aboveS_append n (l.take (2 * n)) (l.drop (2 * n)) (by rw [List.length_take]; omega)
  rw [List.take_append_drop] at e
  have hl := aboveS_length n (l.take (2 * n)) (by rw [List.length_take]; omega)
  rw [e, List.drop_append, List.drop_of_length_le (by omega), hl, Nat.sub_self, List.nil_append]
  rfl
theorem xor1d (i : Nat) : (i ^^^ 1) / 2 = i / 2 := by rw [Nat.xor_div_two]; simp
theorem xor1m (i : Nat) : (i ^^^ 1) % 2 = 1 - i % 2 := by
  have h : (i ^^^ 1) % 2 ^ 1 = (i % 2 ^ 1) ^^^ (1 % 2 ^ 1) := Nat.xor_mod_two_pow
  rw [Nat.pow_one] at h
  rw [h]
  have : i % 2 < 2 := Nat.mod_lt _ (by decide)
  rcases (show i % 2 = 0 ∨ i % 2 = 1 by omega) with e | e <;> rw [e] <;> rfl
theorem xor1 (i : Nat) : i ^^^ 1 = if i % 2 = 1 then i - 1 else i + 1 := by
  have h1 := xor1d i
  have h2 := xor1m i
  split <;> omega
theorem pow_succ2 (h : Nat) : 2 ^ (h + 1) = 2 * 2 ^ h := by rw [Nat.pow_succ]; omega
theorem root_halves : ∀ (h : Nat) (l : List ByteArray), l.length = 2 ^ h → rootS h l = rootH h l
  | 0, _, _ => rfl
  | 1, l, e => by
    match l, e with
    | [a, b], _ => rfl
  | h + 2, l, e => by
    have e1 : 2 ^ (h + 2) = 2 * 2 ^ (h + 1) := pow_succ2 (h + 1)
    have e2 := pow_succ2 h
    have hl : (aboveS l).length = 2 ^ (h + 1) := aboveS_length _ _ (by omega)
    rw [rootS, root_halves (h + 1) _ hl, rootH, rootH]
    have q1 : (aboveS l).take (2 ^ h) = aboveS (l.take (2 ^ (h + 1))) := by rw [e2]; exact aboveS_take _ _ (by omega)
    have q2 : (aboveS l).drop (2 ^ h) = aboveS (l.drop (2 ^ (h + 1))) := by rw [e2]; exact aboveS_drop _ _ (by omega)
    have l1 : (l.take (2 ^ (h + 1))).length = 2 ^ (h + 1) := by rw [List.length_take]; omega
    have l2 : (l.drop (2 ^ (h + 1))).length = 2 ^ (h + 1) := by rw [List.length_drop]; omega
    rw [q1, q2, ← root_halves h _ (aboveS_length _ _ (by omega)), ← root_halves h _ (aboveS_length _ _ (by omega))]
    show nodeS (rootS (h + 1) _) (rootS (h + 1) _) = _
    rw [root_halves (h + 1) _ l1, root_halves (h + 1) _ l2]
theorem pathS_length (h : Nat) : ∀ (l : List ByteArray) (i : Nat), (pathS h l i).length = h := by
  induction h with
  | zero => intro l i; rfl
  | succ h ih => intro l i; rw [pathS, List.length_cons, ih]
theorem pathH_length (h : Nat) : ∀ (l : List ByteArray) (i : Nat), (pathH h l i).length = h := by
  induction h with
  | zero => intro l i; rfl
  | succ h ih => intro l i; rw [pathH]; split <;> simp [ih]
theorem path_halves : ∀ (h : Nat) (l : List ByteArray) (i : Nat), l.length = 2 ^ h → i < 2 ^ h → pathS h l i = pathH h l i
  | 0, _, _, _, _ => rfl
  | 1, l, i, e, hi => by
    match l, e, i, hi with
    | [a, b], _, 0, _ => rfl
    | [a, b], _, 1, _ => rfl
  | h + 2, l, i, e, hi => by
    have e1 : 2 ^ (h + 2) = 2 * 2 ^ (h + 1) := pow_succ2 (h + 1)
    have e2 := pow_succ2 h
    have p1 : (0 : Nat) < 2 ^ h := Nat.pow_pos (by decide)
    have hl : (aboveS l).length = 2 ^ (h + 1) := aboveS_length _ _ (by omega)
    have q1 : (aboveS l).take (2 ^ h) = aboveS (l.take (2 ^ (h + 1))) := by rw [e2]; exact aboveS_take _ _ (by omega)
    have q2 : (aboveS l).drop (2 ^ h) = aboveS (l.drop (2 ^ (h + 1))) := by rw [e2]; exact aboveS_drop _ _ (by omega)
    have l1 : (l.take (2 ^ (h + 1))).length = 2 ^ (h + 1) := by rw [List.length_take]; omega
    have l2 : (l.drop (2 ^ (h + 1))).length = 2 ^ (h + 1) := by rw [List.length_drop]; omega
    have m1 : min (2 ^ (h + 1)) l.length = 2 ^ (h + 1) := by omega
    have la1 : (aboveS (l.take (2 ^ (h + 1)))).length = 2 ^ h := aboveS_length _ _ (by omega)
    have la2 : (aboveS (l.drop (2 ^ (h + 1)))).length = 2 ^ h := aboveS_length _ _ (by omega)
    have x1 : i ^^^ 1 < 2 ^ (h + 1) ↔ i < 2 ^ (h + 1) := by
      have := xor1d i
      have := xor1m i
      omega
    rw [pathS, path_halves (h + 1) _ _ hl (by omega), pathH, pathH]
    by_cases hlt : i < 2 ^ (h + 1)
    · rw [if_pos (by omega), if_pos hlt, q1, q2, ← path_halves (h + 1) _ i l1 hlt, pathS, ← path_halves h _ (i / 2) la1 (by omega)]
      rw [List.cons_append]
      congr 1
      · rw [List.getD_eq_getElem?_getD, List.getD_eq_getElem?_getD, List.getElem?_take, if_pos (x1.2 hlt)]
      · congr 2
        rw [← root_halves h _ la2, ← root_halves (h + 1) _ l2]
        rfl
    · rw [if_neg (by omega), if_neg hlt, q1, q2, ← path_halves (h + 1) _ (i - 2 ^ (h + 1)) l2 (by omega), pathS, show i / 2 - 2 ^ h = (i - 2 ^ (h + 1)) / 2 from by omega, ← path_halves h _ ((i - 2 ^ (h + 1)) / 2) la2 (by omega)]
      rw [List.cons_append]
      congr 1
      · rw [List.getD_eq_getElem?_getD, List.getD_eq_getElem?_getD, List.getElem?_drop]
        have y1 := xor1d i
        have y2 := xor1d (i - 2 ^ (h + 1))
        have y3 := xor1m i
        have y4 := xor1m (i - 2 ^ (h + 1))
        rw [show 2 ^ (h + 1) + ((i - 2 ^ (h + 1)) ^^^ 1) = i ^^^ 1 from by omega]
      · congr 2
        rw [← root_halves h _ la1, ← root_halves (h + 1) _ l1]
        rfl
theorem climb_path : ∀ (h : Nat) (l : List ByteArray) (i : Nat) (x : ByteArray), l.length = 2 ^ h → l[i]? = some x → climbS x i (pathS h l i) = rootS h l
  | 0, l, i, x, e, hx => by
    match l, e, i, hx with
    | [a], _, 0, hx => simp at hx; subst hx; rfl
    | [a], _, i + 1, hx => simp at hx
  | h + 1, l, i, x, e, hx => by
    have e1 := pow_succ2 h
    have hi := (List.getElem?_eq_some_iff.1 hx).1
    rw [pathS, climbS, rootS]
    refine climb_path h _ _ _ (aboveS_length _ _ (by omega)) ?_
    have y := xor1 i
    unfold stepC
    by_cases h2 : i % 2 = 1
    · rw [if_pos h2] at y ⊢
      have hy : i - 1 < l.length := by omega
      rw [y, List.getD_eq_getElem?_getD, List.getElem?_eq_getElem hy]
      refine aboveS_at _ _ _ _ ?_ ?_
      · rw [show 2 * (i / 2) = i - 1 from by omega, List.getElem?_eq_getElem hy]; rfl
      · rw [show 2 * (i / 2) + 1 = i from by omega, hx]
    · rw [if_neg h2] at y ⊢
      have hy : i + 1 < l.length := by omega
      rw [y, List.getD_eq_getElem?_getD, List.getElem?_eq_getElem hy]
      refine aboveS_at _ _ _ _ ?_ ?_
      · rw [show 2 * (i / 2) = i from by omega, hx]
      · rw [show 2 * (i / 2) + 1 = i + 1 from by omega, List.getElem?_eq_getElem hy]; rfl
theorem rootS_size : ∀ (h : Nat) (l : List ByteArray) (N : Nat), 16 ≤ N → (∀ s ∈ l, s.size ≤ N) → (rootS h l).size ≤ N
  | 0, [], N, _, _ => by simp [rootS]
  | 0, a :: _, N, _, h => h a (by simp)
  | h + 1, l, N, h16, _ => rootS_size h _ N h16 (fun s hs => by rw [aboveS_sizes _ s hs]; exact h16)
theorem pathS_sizes : ∀ (h : Nat) (l : List ByteArray) (i N : Nat), 16 ≤ N → (∀ s ∈ l, s.size ≤ N) → ∀ s ∈ pathS h l i, s.size ≤ N
  | 0, _, _, _, _, _, s, hs => by cases hs
  | h + 1, l, i, N, h16, hl, s, hs => by
    rw [pathS] at hs
    rcases List.mem_cons.1 hs with rfl | hs
    · rw [List.getD_eq_getElem?_getD]
      cases hx : l[i ^^^ 1]? with
      | none => simp
      | some y => exact hl y (List.mem_of_getElem? hx)
    · exact pathS_sizes h _ _ N h16 (fun s hs => by rw [aboveS_sizes _ s hs]; exact h16) s hs
end Go.Proofs.YtioahjdojgcfdaaDoor

namespace Go.Proofs.YtioahjdojgcfdaaDoor
open Go.RowKit
attribute [local irreducible] shaL

theorem grown_row {a b c : World} {row : Option Nat} (h : a.grownBy b none) (k : b.grownBy c row) (hn : ∀ g, row = some g → a.heap.size ≤ g) : a.grownBy c none :=
  ⟨k.os.trans h.os, k.tape.trans h.tape, k.output.trans h.output, Nat.le_trans h.size k.size, fun i hi hne => (k.block i (Nat.lt_of_lt_of_le hi h.size) (by intro e; have := hn i e.symm; omega)).trans (h.block i hi hne)⟩
theorem ShaReady.grown {w w' : World} (h : ShaReady w) (hg : w.grownBy w' none) : ShaReady w' := h.kept hg (by simp) (by simp)

/-- sha.Tagged of texts in a new block -/
theorem tagged_new (w : World) (tag : UInt8) (L : List ByteArray) (vs : List Value) (n : Nat) (tg : Int) (hv : vs = L.map Value.string) (hn : n = L.length) (ht : (tag.toNat : Int) = tg) (hr : ShaReady w) (hN : L.length ≤ 1000) (hs : ∀ s ∈ L, s.size ≤ 1000000000000) :
    Calls Tryd.prog 46 #[.int .u8 tg, .slice (some ⟨w.heap.size, 0, none⟩) n n] (w.alloc (.cells vs.toArray 9)) fun e w' => e = .returned (.string (tagS tag L)) ∧ w.grownBy w' none := by
  subst hv
  subst ht
  refine (tagged_any _ tag _ L (strs_new w L 9 n hn) (hr.grown (World.grownBy_alloc _ _ _)) (by unfold maxLen; omega) ?_).mono fun e w' h => ⟨h.1, grownBy_trans (World.grownBy_alloc _ _ _) h.2⟩
  have := tagB_length tag L _ hs
  have h2 : L.length * (4 + 1000000000000) ≤ 1000 * (4 + 1000000000000) := Nat.mul_le_mul_right _ hN
  omega

end Go.Proofs.YtioahjdojgcfdaaDoor

namespace Go.Proofs.YtioahjdojgcfdaaDoor
open Go.RowKit

theorem row_string_w (w : World) (vs : List Value) (l : List UInt8) (hl : vs = u8s l) :
    (convert 57 9 (.slice (some ⟨w.heap.size, 0, none⟩) l.length l.length)).run Tryd.prog (w.alloc (.cells vs.toArray 5)) = .ok (.string (str l)) (w.alloc (.cells vs.toArray 5)) := by
  subst hl
  exact row_string (w := w.alloc (.cells (u8s l).toArray 5)) (g := w.heap.size) (t := 5) (heap_alloc_at _ _ _ rfl) _
theorem be4 (n : Nat) : be n 4 = [UInt8.ofNat (n / 256 ^ 3 % 256), UInt8.ofNat (n / 256 ^ 2 % 256), UInt8.ofNat (n / 256 ^ 1 % 256), UInt8.ofNat (n / 256 ^ 0 % 256)] := by
  simp [be, Nat.div_div_eq_div_mul]
theorem four_bytes (n : Nat) : [Value.int .u8 ((n : Int) / 16777216 % 256), .int .u8 ((n : Int) / 65536 % 256), .int .u8 ((n : Int) / 256 % 256), .int .u8 ((n : Int) % 256)] = u8s (be n 4) := by
  rw [be4]
  simp [u8s]
end Go.Proofs.YtioahjdojgcfdaaDoor

namespace Go.Proofs.YtioahjdojgcfdaaDoor
open Go.RowKit

def ints (L : List Int) : List Value := L.map (Value.int .i64)
theorem ints_length (L : List Int) : (ints L).length = L.length := by simp [ints]
theorem ints_append (L M : List Int) : ints (L ++ M) = ints L ++ ints M := by simp [ints]
theorem ints_at (L : List Int) (i : Nat) (h : i < L.length) : (ints L)[i]? = some (.int .i64 L[i]) := by simp [ints, List.getElem?_eq_getElem h]
/-- a slice that holds these numbers -/
def IntsAt (w : World) (v : Value) (L : List Int) : Prop :=
  ∃ a cap, v = .slice a L.length cap ∧ ∀ i (h : i < L.length), ∃ g o, a = some ⟨g, o, none⟩ ∧ w.cell? ⟨g, o + i, none⟩ = some (.int .i64 L[i])
theorem IntsAt.kept {w w' : World} {v : Value} {L : List Int} (h : IntsAt w v L) (hb : w.grownBy w' none) : IntsAt w' v L := by
  obtain ⟨a, cap, rfl, hc⟩ := h
  refine ⟨a, cap, rfl, fun i hi => ?_⟩
  obtain ⟨g, o, ha, hcell⟩ := hc i hi
  exact ⟨g, o, ha, hb.cell hcell (by simp)⟩
theorem IntsAt.nil (w : World) (a : Option Addr) (cap : Nat) : IntsAt w (.slice a 0 cap) [] := ⟨a, cap, rfl, fun i h => absurd h (by simp)⟩
theorem ints_of_own {w : World} {B n : Nat} {t : TypeId} {a : Option Addr} {cap : Nat} {L : List Int} (h : w.ownsRow B t 1 (.slice a n cap) n (ints L)) : IntsAt w (.slice a n cap) L := by
  have hl := h.1
  simp [ints] at hl
  subst hl
  refine ⟨a, cap, rfl, fun i hi => ?_⟩
  rcases h.2 with ⟨_, h0⟩ | ⟨g, cap', cur, he, hB, hg, hnc, hm, hcs, htake⟩
  · omega
  · cases he
    refine ⟨g, 0, rfl, ?_⟩
    rw [Nat.zero_add, cell_of hg]
    have : (ints L)[i]? = some (.int .i64 L[i]) := ints_at L i hi
    rw [← htake, List.getElem?_take, if_pos (by omega)] at this
    simpa using this
theorem own_kept {w w' : World} {B n : Nat} {t : TypeId} {v : Value} {xs : List Value} (h : w.ownsRow B t 1 v n xs) (hg : w.grownBy w' none) : w'.ownsRow B t 1 v n xs := by
  obtain ⟨hl, h⟩ := h
  refine ⟨hl, ?_⟩
  rcases h with h' | ⟨g, cap, cur, rfl, a, hgg, r⟩
  · exact .inl h'
  · refine .inr ⟨g, cap, cur, rfl, a, ?_, r⟩
    rw [hg.block g (Array.getElem?_eq_some_iff.1 hgg).1 (by simp)]
    exact hgg
end Go.Proofs.YtioahjdojgcfdaaDoor

namespace Go.Proofs.YtioahjdojgcfdaaDoor
open Go.RowKit

theorem infoIntD : (Tryd.prog.info? 3).map (fun i => (i.zero, i.size, i.bytes)) = some (some (.int .i64 0), 1, 8) := by kernel_rfl
theorem and_low (c : Nat) (h : c < 256) : bits .and .u8 (c : Int) 15 = (c : Int) % 16 := by
  rw [show (15 : Int) = ((15 : Nat) : Int) from rfl, u8_and_nat _ _ h (by omega)]
  have : c &&& 15 = c % 16 := Nat.and_two_pow_sub_one_eq_mod c 4
  rw [this]
  omega

set_option maxHeartbeats 400000 in
theorem halves_any (b : UInt8) (w : World) :
    Calls Tryd.prog 142 #[.int .u8 b.toNat] w fun e w' => e = .returned (.agg #[.int .i64 ((b.toNat : Int) / 16), .int .i64 ((b.toNat : Int) % 16)]) ∧ Below w.heap.size w w' := by
  have hc := b.toNat_lt
  have hl := and_low b.toNat hc
  generalize b.toNat = c at hc hl
  have b4 : (c : Int) / 16 < 16 := by omega
  have b5 : (c : Int) / 16 < 256 := by omega
  go_enter Tryd.func142, Tryd.ntmps142
  go_wp2
  exact bodyPost_ret (v := .agg #[.int .i64 ((c : Int) / 16), .int .i64 ((c : Int) % 16)]) (by simp [results, Tryd.results142, go_sem]) rfl ⟨rfl, (Below.refl _ _).alloc (Nat.le_refl _) _⟩

set_option maxHeartbeats 400000 in
theorem dsum_any (v : Value) (L : List Int) (w : World) (hv : IntsAt w v L) (hL : ∀ x ∈ L, 0 ≤ x ∧ x ≤ 15) (hn : L.length ≤ 1000000) :
    Calls Tryd.prog 144 #[v] w fun e w' => e = .returned (.int .i64 (sumI L)) ∧ w = w' := by
  obtain ⟨a, cap, rfl, hc⟩ := hv
  have HC := Lib.hid hc
  have HL := Lib.hid hL
  clear hc hL
  go_enter Tryd.func144, Tryd.ntmps144
  go_wp2
  go_loop [3, 8] (fun nv iv => ∃ k : Nat, k ≤ L.length ∧ iv = .int .i64 k ∧ nv = .int .i64 (sumI (L.take k))) (fun _ iv => L.length - (intOf iv).toNat)
  case atStart => exact ⟨0, Nat.zero_le _, rfl, rfl⟩
  case round =>
    obtain ⟨k, hk, rfl, rfl⟩ := hrel
    by_cases hlt : k < L.length
    · obtain ⟨g, o, rfl, hcell⟩ := HC.out k hlt
      have hx := HL.out L[k] (List.getElem_mem hlt)
      have hs := sumI_bd (L.take k) (fun x hx => HL.out x (List.mem_of_mem_take hx))
      have hsn : sumI (L.take (k + 1)) = sumI (L.take k) + L[k] := by rw [List.take_succ_eq_append_getElem hlt, sumI_snoc]
      have hlk : (L.take k).length ≤ L.length := by simp; omega
      generalize L[k] = x at hcell hx hsn
      have HS := Lib.hid hsn
      clear hsn
      generalize sumI (L.take k) = m at hs HS ⊢
      have b1 : (0 : Int) ≤ (k : Int) := by omega
      have b2 : (k : Int) < (L.length : Int) := by omega
      go_wp2
      go_round
      case rel => exact ⟨k + 1, by omega, by go_num, by rw [HS.out]⟩
      case measure => simp [intOf]; omega
    · have : k = L.length := by omega
      subst this
      go_wp2
      go_ret
      exact ⟨rfl, rfl⟩

set_option maxHeartbeats 800000 in
theorem dleft_any (v : Value) (L : List Int) (w : World) (hv : IntsAt w v L) (hn : L.length ≤ 1000000) :
    Calls Tryd.prog 145 #[v] w fun e w' => ∃ v', e = .returned v' ∧ IntsAt w' v' (lefts L) ∧ w.grownBy w' none := by
  obtain ⟨i0, hi, hz0, hz1, hz2⟩ := info_parts infoIntD
  obtain ⟨a, cap, rfl, hc⟩ := hv
  have HC := Lib.hid hc
  clear hc
  go_enter Tryd.func145, Tryd.ntmps145
  go_wp2_with (at_make; refine wpList_make_full _ rfl _ _ 24 rfl w.heap.size 3 i0 (.int .i64 0) 1 Tryd.underlying24 hi hz0 hz1 _ _ _ _ L.length rfl rfl rfl rfl ?c1 ?c2 ?c3 ?_)
  case c1 => rw [hz2]; omega
  case c2 => unfold maxLen; omega
  case c3 => omega
  intro w1 hown hg
  have hrow : ∀ k, k ≤ L.length → ((madeCells #[Value.int .i64 0] L.length).toList = ints (lefts (L.take 0) ++ List.replicate (L.length - 0) 0)) := by
    intro k hk
    apply List.ext_getElem?
    intro i
    simp [madeCells, ints, lefts, List.getElem?_replicate]
    by_cases h : i < L.length <;> simp [h, Nat.mod_one]
  rw [hrow 0 (Nat.zero_le _)] at hown
  have HO := Lib.hid hown
  have HG := Lib.hid hg
  clear hown hg hrow
  go_wp2_with fail
  go_loopw [4, 5, 11] (fun _ _ i wr => ∃ k : Nat, k ≤ L.length ∧ i = .int .i64 k ∧ Hid (wr.ownsRow w.heap.size 3 1 (.slice (some ⟨w.heap.size, 0, none⟩) L.length L.length) L.length (ints (lefts (L.take k) ++ List.replicate (L.length - k) 0))) ∧ Hid (w.grownBy wr none))
    (fun _ _ i _ => L.length - (intOf i).toNat)
  case atStart => exact ⟨0, Nat.zero_le _, rfl, HO.out, HG.out⟩
  case round =>
    clear HO HG
    obtain ⟨k, hk, rfl, HO, HG⟩ := hrel
    by_cases hlt : k < L.length
    · obtain ⟨g, o, rfl, hcell⟩ := HC.out k hlt
      have hcell' : wr.cell? ⟨g, o + k, none⟩ = some (.int .i64 L[k]) := HG.out.cell hcell (by simp)
      have hsn : lefts (L.take (k + 1)) = lefts (L.take k) ++ [leftI L[k]] := by rw [List.take_succ_eq_append_getElem hlt]; unfold lefts; rw [List.map_append]; rfl
      have hset : (ints (lefts (L.take k) ++ List.replicate (L.length - k) 0)).set k (.int .i64 (leftI L[k])) = ints (lefts (L.take (k + 1)) ++ List.replicate (L.length - (k + 1)) 0) := by
        have hll : (lefts (L.take k)).length = k := by rw [lefts_length]; simp; omega
        rw [hsn, show L.length - k = (L.length - (k + 1)) + 1 from by omega, List.replicate_succ, ints_append, List.set_append_right _ _ (by rw [ints_length]; omega), ints_length, hll, Nat.sub_self]
        simp [ints]
      have hat : wr.cell? ⟨w.heap.size, k, none⟩ = some (.int .i64 0) := by
        rw [HO.out.cellAt k (by omega), ints_append, List.getElem?_append_right (by rw [ints_length, lefts_length]; simp; omega), ints_length, lefts_length]
        simp [ints, List.getElem?_replicate]
        omega
      have hf := HO.out.frozenAt k
      have HS := Lib.hid hset
      clear hset hsn hcell
      generalize L[k] = x at hcell' HS
      have b1 : (0 : Int) ≤ (k : Int) := by omega
      have b2 : (k : Int) < (L.length : Int) := by omega
      by_cases hx : 0 ≤ x ∧ x ≤ 15
      · obtain ⟨hx0, hx1⟩ := hx
        go_wp2_with fail
        go_roundw
        case rel =>
          refine ⟨k + 1, by omega, by go_num, ?_, grownBy_setNew HG.out (Nat.le_refl _) _ _⟩
          show World.ownsRow _ _ _ _ _ _ _
          rw [← HS.out, leftI_yes x hx0 hx1]
          exact (HO.out.stored _ _).1
        case measure => simp [intOf]; omega
      · have hno := leftI_no x hx
        rw [hno] at HS
        have hz : (ints (lefts (L.take k) ++ List.replicate (L.length - k) 0)).set k (.int .i64 0) = ints (lefts (L.take k) ++ List.replicate (L.length - k) 0) := by
          have h0 := HO.out.cellAt k (by omega)
          rw [hat] at h0
          apply List.ext_getElem?
          intro i
          rw [List.getElem?_set]
          split
          · next h => subst h; rw [← h0]; simp; exact (List.getElem?_eq_some_iff.1 h0.symm).1
          · rfl
        rw [hz] at HS
        clear hno hz hf hat
        by_cases hx0 : 0 ≤ x
        · have hx1 : ¬ x ≤ 15 := fun h => hx ⟨hx0, h⟩
          clear hx
          go_wp2_with fail
          go_roundw
          case rel =>
            refine ⟨k + 1, by omega, by go_num, ?_, HG.out⟩
            show World.ownsRow _ _ _ _ _ _ _
            rw [← HS.out]
            exact HO.out
          case measure => simp [intOf]; omega
        · clear hx
          go_wp2_with fail
          go_roundw
          case rel =>
            refine ⟨k + 1, by omega, by go_num, ?_, HG.out⟩
            show World.ownsRow _ _ _ _ _ _ _
            rw [← HS.out]
            exact HO.out
          case measure => simp [intOf]; omega
    · have : k = L.length := by omega
      subst this
      have hr := HO.out
      rw [Nat.sub_self, List.take_of_length_le (Nat.le_refl _), List.replicate_zero, List.append_nil] at hr
      have hi := ints_of_own hr
      have HI := Lib.hid hi
      clear hr hi HO
      go_wp2_with fail
      go_ret
      exact ⟨_, rfl, HI.out, HG.out⟩

def sixQ (n : Int) : Nat → Int | 0 => n | 1 => n / 16 | 2 => n / 16 / 16 | _ => n / 16 / 16 / 16
def sixR (n : Int) : Nat → List Int | 0 => [0, 0, 0] | 1 => [0, 0, n % 16] | 2 => [0, n / 16 % 16, n % 16] | _ => [n / 16 / 16 % 16, n / 16 % 16, n % 16]

set_option maxHeartbeats 800000 in
theorem inSixteens_any (n : Int) (h0 : 0 ≤ n) (h1 : n ≤ 4095) (w : World) :
    Calls Tryd.prog 143 #[.int .i64 n] w fun e w' => e = .returned (.agg #[.int .i64 (n / 256), .int .i64 (n / 16 % 16), .int .i64 (n % 16)]) ∧ Below w.heap.size w w' := by
  go_enter Tryd.func143, Tryd.ntmps143
  go_wp2_with fail
  go_loopw [0, 4, 5] (fun nv _ iv wr => ∃ k : Nat, k ≤ 3 ∧ iv = .int .i64 k ∧ nv = .int .i64 (sixQ n k) ∧ Hid (wr.heap[w.heap.size + 1]? = some (.cells (ints (sixR n k)).toArray 197 (0, 0))) ∧ Hid (wr.heap[w.heap.size]? = some (.cells (ints [0, 0, 0]).toArray 197 (0, 0))) ∧ Hid (w.grownBy wr none)) (fun _ _ iv _ => 3 - (intOf iv).toNat)
  case atStart =>
    refine ⟨0, Nat.zero_le _, rfl, rfl, ?_, ?_, grownBy_alloc' (grownBy_alloc' (World.grownBy.refl _ _) _) _⟩
    · show _ = _
      exact heap_alloc_at _ _ _ (by simp)
    · show _ = _
      rw [Below.heap_alloc _ _ _ (by simp)]
      exact heap_alloc_at _ _ _ rfl
  case round =>
    obtain ⟨k, hk, rfl, rfl, HC, HD, HG⟩ := hrel
    have hk4 : k = 0 ∨ k = 1 ∨ k = 2 ∨ k = 3 := by omega
    have c := cell_of HC.out
    have f := free_of HC.out
    rcases hk4 with rfl | rfl | rfl | rfl
    · have c2 := c 2
      have f2 := f 2
      clear c f
      simp [sixR, ints] at c2
      simp only [sixQ]
      go_wp2_with fail
      go_roundw
      case rel =>
        refine ⟨1, by omega, rfl, rfl, ?_, ?_, grownBy_setNew HG.out (by omega) _ _⟩
        · show _ = _
          rw [heap_setCell HC.out]
          rfl
        · show _ = _
          rw [heap_setCell_ne _ _ _ _ (by omega)]
          exact HD.out
      case measure => simp [intOf]
    · have c2 := c 1
      have f2 := f 1
      clear c f
      simp [sixR, ints] at c2
      simp only [sixQ]
      go_wp2_with fail
      go_roundw
      case rel =>
        refine ⟨2, by omega, rfl, rfl, ?_, ?_, grownBy_setNew HG.out (by omega) _ _⟩
        · show _ = _
          rw [heap_setCell HC.out]
          rfl
        · show _ = _
          rw [heap_setCell_ne _ _ _ _ (by omega)]
          exact HD.out
      case measure => simp [intOf]
    · have c2 := c 0
      have f2 := f 0
      clear c f
      simp [sixR, ints] at c2
      simp only [sixQ]
      go_wp2_with fail
      go_roundw
      case rel =>
        refine ⟨3, by omega, rfl, rfl, ?_, ?_, grownBy_setNew HG.out (by omega) _ _⟩
        · show _ = _
          rw [heap_setCell HC.out]
          rfl
        · show _ = _
          rw [heap_setCell_ne _ _ _ _ (by omega)]
          exact HD.out
      case measure => simp [intOf]
    · have d := cell_of HD.out
      have fd := free_of HD.out
      have c0 := c 0
      have c1 := c 1
      have c2 := c 2
      have d0 := d 0
      have d1 := d 1
      have d2 := d 2
      have f0 := fd 0
      have f1 := fd 1
      have f2 := fd 2
      clear c f d fd
      simp [sixR, ints] at c0 c1 c2 d0 d1 d2
      simp only [sixQ]
      go_wp2_with fail
      have e : n / 16 / 16 % 16 = n / 256 := by omega
      rw [e] at *
      have hW : (((wr.setCell ⟨w.heap.size, 0, none⟩ (.int .i64 (n / 256))).setCell ⟨w.heap.size, 1, none⟩ (.int .i64 (n / 16 % 16))).setCell ⟨w.heap.size, 2, none⟩ (.int .i64 (n % 16))).heap[w.heap.size]? = some (.cells (ints [n / 256, n / 16 % 16, n % 16]).toArray 197 (0, 0)) := by
        rw [heap_setCell (heap_setCell (heap_setCell HD.out 0 _) 1 _) 2 _]
        rfl
      refine bodyPost_ret (v := .agg (ints [n / 256, n / 16 % 16, n % 16]).toArray) (results_cell_row (p := 2) (ty := 197) (by kernel_rfl) _ _ w.heap.size 197 _ (0, 0) (.array 3 3) (by rfl) hW Tryd.underlying197 rfl (by kernel_rfl)) rfl ⟨rfl, ?_⟩
      exact below_grownBy (grownBy_setNew (grownBy_setNew (grownBy_setNew HG.out (Nat.le_refl _) _ _) (Nat.le_refl _) _ _) (Nat.le_refl _) _ _)
end Go.Proofs.YtioahjdojgcfdaaDoor

namespace Go.Proofs.YtioahjdojgcfdaaDoor
open Go.RowKit

theorem slice_two (B : Nat) (w : World) : (Instr.sliceAt 22 (.pointer (some ⟨B, 0, none⟩)) none none none).run Tryd.prog w = .ok (.slice (some ⟨B, 0, none⟩) 2 2) w := by
  have hl : Tryd.prog.arrayLen 22 = 2 := by kernel_rfl
  have he : Tryd.prog.elem 22 = 3 := by kernel_rfl
  obtain ⟨i0, h0⟩ : ∃ i0, Tryd.prog.info? 3 = some i0 := Option.isSome_iff_exists.1 (by kernel_rfl)
  have hc : Tryd.prog.cellsOf 3 = 1 := by kernel_rfl
  rw [run_sliceAt_array_all w 22 ⟨B, 0, none⟩ (by rw [hl, he]; exact Tryd.underlying22), hl, he, run_sizeOf w h0, hc]
  simp [Result.andThen, slicedAt, Addr.add]
theorem slice_three (B : Nat) (w : World) : (Instr.sliceAt 197 (.pointer (some ⟨B, 0, none⟩)) none none none).run Tryd.prog w = .ok (.slice (some ⟨B, 0, none⟩) 3 3) w := by
  have hl : Tryd.prog.arrayLen 197 = 3 := by kernel_rfl
  have he : Tryd.prog.elem 197 = 3 := by kernel_rfl
  obtain ⟨i0, h0⟩ : ∃ i0, Tryd.prog.info? 3 = some i0 := Option.isSome_iff_exists.1 (by kernel_rfl)
  have hc : Tryd.prog.cellsOf 3 = 1 := by kernel_rfl
  rw [run_sliceAt_array_all w 197 ⟨B, 0, none⟩ (by rw [hl, he]; exact Tryd.underlying197), hl, he, run_sizeOf w h0, hc]
  simp [Result.andThen, slicedAt, Addr.add]
theorem cells_new (w : World) (t : TypeId) (cs : List Value) : ∀ j u, cs[j]? = some u → (w.alloc (.cells cs.toArray t)).cell? ((⟨w.heap.size, 0, none⟩ : Addr).add j) = some u := by
  intro j u hj
  rw [show Addr.add ⟨w.heap.size, 0, none⟩ j = (⟨w.heap.size, j, none⟩ : Addr) from by simp [Addr.add]; omega, cell_of (heap_alloc_at w (.cells cs.toArray t) _ rfl)]
  simpa using hj
theorem ints_one (L : List Int) : ∀ u ∈ ints L, u.oneCell' = true := by
  intro u hu
  obtain ⟨x, _, rfl⟩ := List.mem_map.1 hu
  rfl

set_option maxHeartbeats 400000 in
theorem of_bad (s : ByteArray) (hs : s.size ≤ maxLen) (h : s.size ≠ 16) (w : World) :
    Calls Tryd.prog 128 #[.string s] w fun e w' => e = .returned (.tuple #[.slice none 0 0, .int .i64 1]) ∧ w = w' := by
  unfold maxLen at hs
  have hb : ((s.size : Int) != 16) = true := by simp; omega
  go_enter Tryd.func128, Tryd.ntmps128
  go_wp2
  go_ret2
  exact ⟨rfl, rfl⟩

set_option maxRecDepth 100000 in
set_option maxHeartbeats 800000 in
theorem of_ok (s : ByteArray) (h : s.size = 16) (w : World) :
    Calls Tryd.prog 128 #[.string s] w fun e w' => ∃ v, e = .returned (.tuple #[v, .int .i64 0]) ∧ IntsAt w' v (digs s.data.toList) ∧ w.grownBy w' none := by
  obtain ⟨i0, hi, hz0, hz1, hz2⟩ := info_parts infoIntD
  have hb : ((s.size : Int) != 16) = false := by simp; omega
  have H16 := Lib.hid h
  have hs1 : s.size ≤ 16 := by omega
  clear h
  go_enter Tryd.func128, Tryd.ntmps128
  go_wp2_with (at_make; refine wpList_make_own _ rfl _ _ 24 rfl w.heap.size 3 i0 (.int .i64 0) 1 Tryd.underlying24 hi hz0 hz1 _ _ _ 35 rfl rfl rfl ?c1 ?c2 ?c3 ?_)
  case c1 => rw [hz2]; omega
  case c2 => unfold maxLen; omega
  case c3 => omega
  intro w1 hown hg
  have HO := Lib.hid hown
  have HG := Lib.hid hg
  clear hown hg
  go_wp2_with fail
  go_loopw [4, 5, 6, 14] (fun lv _ _ iv wr => ∃ k : Nat, ∃ len : Nat, k ≤ 16 ∧ len = 2 * k ∧ iv = .int .i64 k ∧ lv = .slice (some ⟨w.heap.size, 0, none⟩) len 35 ∧ Hid (wr.ownsRow w.heap.size 3 1 (.slice (some ⟨w.heap.size, 0, none⟩) len 35) len (ints (digL (s.data.toList.take k)))) ∧ Hid (w.grownBy wr none)) (fun _ _ _ iv _ => 16 - (intOf iv).toNat)
  case atStart => exact ⟨0, 0, Nat.zero_le _, rfl, rfl, rfl, HO.out, HG.out⟩
  case round =>
    clear HO HG
    obtain ⟨k, len, hk, hlen, rfl, rfl, HO, HG⟩ := hrel
    by_cases hlt : k < 16
    · have hl35 : len + 2 ≤ 35 := by omega
      have HLN := Lib.hid hlen
      clear hlen
      have hks : k < s.size := by have := H16.out; omega
      have hsn := digL_take s k hks
      have b1 : (0 : Int) ≤ (k : Int) := by omega
      have b2 : (k : Int) < (s.size : Int) := by omega
      generalize hc : s[k] = c at hsn
      have HS := Lib.hid hsn
      have HCC := Lib.hid hc
      clear hsn hc
      have hbl := HO.out.lt w.heap.size rfl
      go_wp2_with fail
      rw [HCC.out]
      refine (halves_any c _).mono ?_
      rintro e w2 ⟨rfl, h2⟩
      have G2 := Lib.hid (grownBy_trans HG.out (grownBy_below h2))
      have HO2 := Lib.hid (own_kept HO.out (grownBy_below h2))
      clear h2 HO HG HCC
      have hsl := slice_two w2.heap.size
      go_wp2_with (refine wpList_append_fits _ rfl _ _ 24 rfl w.heap.size 3 i0 1 Tryd.underlying24 hi hz1 w.heap.size len 35 _ rfl (HO2.out.alloc _) ⟨w2.heap.size, 0, none⟩ 2 2 (ints [(c.toNat : Int) / 16, (c.toNat : Int) % 16]) rfl rfl ?q1 ?q2 ?q3 ?_)
      case q1 => exact cells_new w2 _ (ints [(c.toNat : Int) / 16, (c.toNat : Int) % 16])
      case q2 => exact ints_one _
      case q3 => omega
      intro w3 hown3 hg3
      have HO3 := Lib.hid hown3
      have HG3 : Hid (w.grownBy w3 none) := grownBy_below (((below_grownBy G2.out).alloc G2.out.size _).grown hg3 (by have := G2.out.size; simp; omega) (by intro r hr; cases hr; exact Nat.le_refl _))
      clear hown3 hg3 HO2 G2
      go_wp2_with fail
      go_roundw
      case rel =>
        refine ⟨k + 1, len + 2, by omega, by have := HLN.out; omega, by go_num, rfl, ?_, HG3.out⟩
        show World.ownsRow _ _ _ _ _ _ _
        rw [HS.out, ints_append]
        exact HO3.out
      case measure => simp [intOf]; omega
    · have : k = 16 := by omega
      subst this
      obtain rfl : len = 32 := by omega
      have hl16 : s.data.toList.length = 16 := H16.out
      have ho := HO.out
      rw [List.take_of_length_le (by omega)] at ho
      have hin := ints_of_own ho
      have hb1 := sum_lefts_bd s.data.toList
      have hb2 := lefts_bd (digL s.data.toList)
      have hb3 : (digL s.data.toList).length = 32 := by rw [digL_length]; omega
      have hD : digs s.data.toList = digL s.data.toList ++ chk (sumI (lefts (digL s.data.toList))) := rfl
      rw [hl16] at hb1
      have HO2 := Lib.hid ho
      have HI := Lib.hid hin
      have HB := Lib.hid (And.intro hb2 hb3)
      have HD := Lib.hid hD
      clear ho hin HO hb2 hb3 hD hl16
      generalize digL s.data.toList = L at hb1 HO2 HI HB HD
      have hbl := HO2.out.lt w.heap.size rfl
      go_wp2_with fail
      refine (dleft_any _ L _ HI.out (by rw [HB.out.2]; omega)).mono ?_
      rintro e w2 ⟨v2, rfl, h2, g2⟩
      have HI2 := Lib.hid h2
      have HO3 := Lib.hid (own_kept HO2.out g2)
      have HG3 := Lib.hid (grownBy_trans HG.out g2)
      clear h2 g2 HO2 HI HG
      go_wp2_with fail
      refine (dsum_any _ _ _ HI2.out HB.out.1 (by rw [lefts_length, HB.out.2]; omega)).mono ?_
      rintro e w' ⟨rfl, rfl⟩
      obtain ⟨n, hn⟩ : ∃ n, sumI (lefts L) = n := ⟨_, rfl⟩
      rw [hn] at hb1 HD ⊢
      clear hn
      go_wp2_with fail
      refine (inSixteens_any n hb1.1 (by omega) _).mono ?_
      rintro e w4 ⟨rfl, h4⟩
      have HO4 := Lib.hid (own_kept HO3.out (grownBy_below h4))
      have HG4 := Lib.hid (grownBy_trans HG3.out (grownBy_below h4))
      clear h4 HO3 HG3
      have hsl := slice_three w4.heap.size
      go_wp2_with (refine wpList_append_fits _ rfl _ _ 24 rfl w.heap.size 3 i0 1 Tryd.underlying24 hi hz1 w.heap.size 32 35 _ rfl (HO4.out.alloc _) ⟨w4.heap.size, 0, none⟩ 3 3 (ints (chk n)) rfl rfl ?r1 ?r2 ?r3 ?_)
      case r1 => exact cells_new w4 _ (ints (chk n))
      case r2 => exact ints_one _
      case r3 => omega
      intro w5 hown5 hg5
      have HG5 : Hid (w.grownBy w5 none) := grownBy_below (((below_grownBy HG4.out).alloc HG4.out.size _).grown hg5 (by have := HG4.out.size; simp; omega) (by intro r hr; cases hr; exact Nat.le_refl _))
      rw [← ints_append, ← HD.out] at hown5
      have HI5 := Lib.hid (ints_of_own hown5)
      clear hown5 hg5 HO4 HG4
      go_wp2_with fail
      go_ret2
      exact ⟨.slice (some ⟨w.heap.size, 0, none⟩) 35 35, rfl, HI5.out, HG5.out⟩
end Go.Proofs.YtioahjdojgcfdaaDoor

namespace Go.Proofs.YtioahjdojgcfdaaDoor
open Go.RowKit
attribute [local irreducible] shaL

theorem place_bytes (n c k : Nat) (hc : c < 256) (hk : k < 256) : [Value.int .u8 ((n : Int) / 16777216 % 256), .int .u8 ((n : Int) / 65536 % 256), .int .u8 ((n : Int) / 256 % 256), .int .u8 ((n : Int) % 256), .int .u8 (c : Int), .int .u8 (k : Int)] = u8s (placeL n c k) := by
  have h := four_bytes n
  have e : u8s (placeL n c k) = u8s (be n 4) ++ u8s [UInt8.ofNat c, UInt8.ofNat k] := by simp [placeL, u8s]
  rw [e, ← h]
  have e1 : (UInt8.ofNat c).toNat = c := by simp; omega
  have e2 : (UInt8.ofNat k).toNat = k := by simp; omega
  simp [u8s, e1, e2]

set_option maxHeartbeats 400000 in
set_option maxRecDepth 100000 in
theorem place_any (leaf chain step : Nat) (c k : Int) (hl : leaf ≤ 4294967295) (hc : chain < 256) (hk : step < 256) (ec : (chain : Int) = c) (ek : (step : Int) = k) (w : World) :
    Calls Tryd.prog 141 #[.int .i64 leaf, .int .i64 c, .int .i64 k] w fun e w' => e = .returned (.string (placeS leaf chain step)) ∧ w.grownBy w' none := by
  subst ec
  subst ek
  have b1 : (leaf : Int) / 16777216 < 256 := by omega
  have b2 : (chain : Int) < 256 := by omega
  have b3 : (step : Int) < 256 := by omega
  have hcv := row_string_w w _ (placeL leaf chain step) (place_bytes leaf chain step hc hk)
  rw [show (placeL leaf chain step).length = 6 from placeS_size leaf chain step, show (leaf : Int) / 16777216 % 256 = (leaf : Int) / 16777216 from by omega] at hcv
  have HP := Lib.hid (show str (placeL leaf chain step) = placeS leaf chain step from rfl)
  rw [HP.out] at hcv
  generalize placeS leaf chain step = S at hcv ⊢
  clear HP
  go_enter Tryd.func141, Tryd.ntmps141
  go_wp2_with fail
  go_ret
  exact ⟨rfl, World.grownBy_alloc _ _ _⟩

set_option maxHeartbeats 400000 in
set_option maxRecDepth 100000 in
theorem wopen_any (seed : ByteArray) (hs : seed.size ≤ 1000000000000) (w : World) (hr : ShaReady w) :
    Calls Tryd.prog 96 #[.string seed] w fun e w' => e = .returned (.string (openS seed)) ∧ w.grownBy w' none := by
  have HR := Lib.hid hr
  have ht := Lib.hid (tagged_new w 3 [seed] _ 1 3 rfl rfl rfl hr (by simp) (by simpa using hs))
  clear hr
  go_enter Tryd.func96, Tryd.ntmps96
  go_wp2_with fail
  refine ht.out.mono ?_
  rintro e w1 ⟨rfl, g1⟩
  have G1 := Lib.hid g1
  clear g1
  go_wp2_with fail
  go_ret
  exact ⟨rfl, G1.out⟩

set_option maxHeartbeats 400000 in
set_option maxRecDepth 100000 in
theorem secret_any (seed : ByteArray) (leaf chain : Nat) (hs : seed.size ≤ 1000000000000) (hl : leaf ≤ 4294967295) (hc : chain < 256) (w : World) (hr : ShaReady w) :
    Calls Tryd.prog 124 #[.string seed, .int .i64 leaf, .int .i64 chain] w fun e w' => e = .returned (.string (secretS seed leaf chain)) ∧ w.grownBy w' none := by
  have HR := Lib.hid hr
  have hp := Lib.hid (place_any leaf chain 0 chain 0 hl hc (by decide) rfl rfl w)
  clear hr
  go_enter Tryd.func124, Tryd.ntmps124
  go_wp2_with fail
  refine hp.out.mono ?_
  rintro e w1 ⟨rfl, g1⟩
  have G1 := Lib.hid g1
  clear g1
  have ht := Lib.hid (tagged_new w1 1 [seed, placeS leaf chain 0] _ 2 1 rfl rfl rfl (HR.out.grown G1.out) (by simp) (by
    intro s hs'
    simp at hs'
    rcases hs' with rfl | rfl
    · exact hs
    · rw [placeS_size]; omega))
  go_wp2_with fail
  refine ht.out.mono ?_
  rintro e w2 ⟨rfl, g2⟩
  have G2 := Lib.hid (grownBy_trans G1.out g2)
  clear g2
  go_wp2_with fail
  go_ret
  exact ⟨rfl, G2.out⟩

set_option maxHeartbeats 400000 in
set_option maxRecDepth 100000 in
theorem wwalk_any (o x : ByteArray) (leaf chain : Nat) (a b : Int) (ho : o.size ≤ 1000000000000) (hx : x.size ≤ 1000000000000) (hl : leaf ≤ 4294967295) (hc : chain < 256) (ha : -9223372036854775808 ≤ a ∧ a ≤ 9223372036854775807) (hb : -9223372036854775808 ≤ b ∧ b ≤ 9223372036854775807) (w : World) (hr : ShaReady w) :
    Calls Tryd.prog 123 #[.string o, .int .i64 leaf, .int .i64 chain, .int .i64 a, .int .i64 b, .string x] w fun e w' => e = .returned (.string (walkZ o leaf chain a b x)) ∧ w.grownBy w' none := by
  have HR := Lib.hid hr
  clear hr
  obtain ⟨p, hp⟩ : ∃ p : Nat, (max a 0).toNat = p := ⟨_, rfl⟩
  have HS := Lib.hid (fun n => walkS_size o leaf chain p n x 1000000000000 hx (by decide))
  have hpa : ((p : Nat) : Int) = max a 0 := by omega
  have HW : Hid (walkZ o leaf chain a b x = walkS o leaf chain p (min b 15 - p).toNat x) := by
    show _ = _
    unfold walkZ
    rw [hp, ← hpa]
  clear hp
  have HP := Lib.hid hpa
  clear hpa
  go_enter Tryd.func123, Tryd.ntmps123
  go_upto_region 1 with (fail)
  go_cut [13] (fun iv wx => iv = .int .i64 p ∧ w = wx)
  case first =>
    by_cases ha0 : 0 ≤ a
    · have e : a = p := by have := HP.out; omega
      subst e
      go_wp2
      all_goals
        go_meet
        case rel => exact ⟨by first | rfl | (congr 1; omega), rfl⟩
    · have e : p = 0 := by have := HP.out; omega
      subst e
      go_wp2
      all_goals
        go_meet
        case rel => exact ⟨by first | rfl | (congr 1; omega), rfl⟩
  case rest =>
    obtain ⟨rfl, rfl⟩ := hcut
    by_cases hb15 : b ≤ 15
    · go_wp2_with fail
      go_loopw [5, 13] (fun xv iv wr => ∃ k : Nat, ∃ y : ByteArray, p ≤ k ∧ (k = p ∨ k ≤ 15) ∧ (k = p ∨ (k : Int) ≤ b) ∧ iv = .int .i64 k ∧ xv = .string y ∧ Hid (y = walkS o leaf chain p (k - p) x) ∧ Hid (w.grownBy wr none)) (fun _ iv _ => (b - intOf iv).toNat)
      case atStart => exact ⟨p, x, Nat.le_refl _, .inl rfl, .inl rfl, rfl, rfl, by show _ = _; rw [Nat.sub_self]; rfl, World.grownBy.refl _ _⟩
      case round =>
        obtain ⟨k, y, hk, hk15, hkb, rfl, rfl, HY, HG⟩ := hrel
        by_cases hlt : (k : Int) < b
        · have hk2 : k < 15 := by omega
          have hys : y.size ≤ 1000000000000 := by rw [HY.out]; exact HS.out _
          have hpl := Lib.hid (place_any leaf chain k chain k hl hc (by omega) rfl rfl wr)
          clear hk15 hkb
          go_wp2_with fail
          refine hpl.out.mono ?_
          rintro e w1 ⟨rfl, g1⟩
          have G1 := Lib.hid (grownBy_trans HG.out g1)
          clear g1
          have ht := Lib.hid (tagged_new w1 2 [o, placeS leaf chain k, y] _ 3 2 rfl rfl rfl (HR.out.grown G1.out) (by simp) (by
            intro s hs'
            simp at hs'
            rcases hs' with rfl | rfl | rfl
            · exact ho
            · rw [placeS_size]; omega
            · exact hys))
          go_wp2_with fail
          refine ht.out.mono ?_
          rintro e w2 ⟨rfl, g2⟩
          have G2 := Lib.hid (grownBy_trans G1.out g2)
          clear g2
          go_wp2_with fail
          go_roundw
          case rel =>
            refine ⟨k + 1, _, by omega, by omega, by omega, by go_num, rfl, ?_, G2.out⟩
            show _ = _
            rw [show k + 1 - p = (k - p) + 1 from by omega, walkS_succ, ← HY.out, show p + (k - p) = k from by omega]
            rfl
          case measure => simp [intOf]; omega
        · have HF : Hid (y = walkZ o leaf chain a b x) := by
            show _ = _
            rw [HW.out, HY.out]
            congr 1
            have := HP.out
            omega
          clear hk15 hkb
          go_wp2_with fail
          go_ret
          exact ⟨by rw [HF.out]; rfl, HG.out⟩
    · go_wp2_with fail
      go_loopw [5, 13] (fun xv iv wr => ∃ k : Nat, ∃ y : ByteArray, p ≤ k ∧ (k = p ∨ k ≤ 15) ∧ (k = p ∨ (k : Int) ≤ 15) ∧ iv = .int .i64 k ∧ xv = .string y ∧ Hid (y = walkS o leaf chain p (k - p) x) ∧ Hid (w.grownBy wr none)) (fun _ iv _ => (15 - intOf iv).toNat)
      case atStart => exact ⟨p, x, Nat.le_refl _, .inl rfl, .inl rfl, rfl, rfl, by show _ = _; rw [Nat.sub_self]; rfl, World.grownBy.refl _ _⟩
      case round =>
        obtain ⟨k, y, hk, hk15, hkb, rfl, rfl, HY, HG⟩ := hrel
        by_cases hlt : (k : Int) < 15
        · have hk2 : k < 15 := by omega
          have hys : y.size ≤ 1000000000000 := by rw [HY.out]; exact HS.out _
          have hpl := Lib.hid (place_any leaf chain k chain k hl hc (by omega) rfl rfl wr)
          clear hk15 hkb
          go_wp2_with fail
          refine hpl.out.mono ?_
          rintro e w1 ⟨rfl, g1⟩
          have G1 := Lib.hid (grownBy_trans HG.out g1)
          clear g1
          have ht := Lib.hid (tagged_new w1 2 [o, placeS leaf chain k, y] _ 3 2 rfl rfl rfl (HR.out.grown G1.out) (by simp) (by
            intro s hs'
            simp at hs'
            rcases hs' with rfl | rfl | rfl
            · exact ho
            · rw [placeS_size]; omega
            · exact hys))
          go_wp2_with fail
          refine ht.out.mono ?_
          rintro e w2 ⟨rfl, g2⟩
          have G2 := Lib.hid (grownBy_trans G1.out g2)
          clear g2
          go_wp2_with fail
          go_roundw
          case rel =>
            refine ⟨k + 1, _, by omega, by omega, by omega, by go_num, rfl, ?_, G2.out⟩
            show _ = _
            rw [show k + 1 - p = (k - p) + 1 from by omega, walkS_succ, ← HY.out, show p + (k - p) = k from by omega]
            rfl
          case measure => simp [intOf]; omega
        · have HF : Hid (y = walkZ o leaf chain a b x) := by
            show _ = _
            rw [HW.out, HY.out]
            congr 1
            have := HP.out
            omega
          clear hk15 hkb
          go_wp2_with fail
          go_ret
          exact ⟨by rw [HF.out]; rfl, HG.out⟩
end Go.Proofs.YtioahjdojgcfdaaDoor

namespace Go.Proofs.YtioahjdojgcfdaaDoor
open Go.RowKit
attribute [local irreducible] shaL

set_option maxHeartbeats 800000 in
set_option maxRecDepth 100000 in
theorem publicOf_any (o : ByteArray) (leaf : Nat) (v : Value) (L : List ByteArray) (ho : o.size ≤ 1000000000000) (hl : leaf ≤ 4294967295) (hN : L.length ≤ 900) (hN0 : 0 < L.length) (hs : ∀ s ∈ L, s.size ≤ 1000000000000) (w : World) (hv : StrsAt w v L) (hr : ShaReady w) :
    Calls Tryd.prog 125 #[.string o, .int .i64 leaf, v] w fun e w' => e = .returned (.string (publicOfS o leaf L)) ∧ w.grownBy w' none := by
  obtain ⟨i0, hi, hz0, hz1, hz2⟩ := info_parts infoStrW
  have HR := Lib.hid hr
  have HV := Lib.hid hv
  have hp := Lib.hid (place_any leaf 0 0 0 0 hl (by decide) (by decide) rfl rfl w)
  obtain ⟨a, cap, rfl⟩ := hv.form
  obtain ⟨g, oo, rfl, -⟩ := hv.at_ 0 _ (List.getElem?_eq_getElem hN0)
  have HSZ := Lib.hid hs
  clear hr hv hs
  go_enter Tryd.func125, Tryd.ntmps125
  go_wp2_with fail
  refine hp.out.mono ?_
  rintro e w1 ⟨rfl, g1⟩
  have G1 := Lib.hid g1
  clear g1
  have ho2 : Hid ((w1.alloc (.cells #[.string o, .string (placeS leaf 0 0)] 9)).ownsRow w.heap.size 9 1 (.slice (some ⟨w1.heap.size, 0, none⟩) 2 2) 2 [.string o, .string (placeS leaf 0 0)]) :=
    World.ownsRow_lit w1 #[.string o, .string (placeS leaf 0 0)] 2 G1.out.size (by unfold maxLen; omega) rfl
  have HV2 := Lib.hid ((HV.out.grown G1.out).grown (World.grownBy_alloc _ (.cells #[.string o, .string (placeS leaf 0 0)] 9) none))
  go_wp2_with (at_builtin; refine wpList_append_own _ rfl _ _ 44 rfl w.heap.size 9 i0 (.string ⟨#[]⟩) 1 16 Tryd.underlying44 hi hz0 hz1 hz2 rfl (by decide) _ _ _ rfl ho2.out ⟨g, oo, none⟩ L.length cap (strsV L) rfl (by rw [strsV_length, Nat.mul_one]) ?q1 ?q2 ?q3 ?q4 ?q5 ?_)
  case q1 => exact HV2.out.news
  case q2 => exact strsV_one L
  case q3 => unfold maxLen; omega
  case q4 => omega
  case q5 => have := G1.out.size; simp; omega
  intro v' w2 hown2 hg2 _
  obtain ⟨a', cap', rfl⟩ := slice_own' hown2
  have HG2 : Hid (w.grownBy w2 none) := grownBy_below (((below_grownBy G1.out).alloc G1.out.size _).grown hg2 (by have := G1.out.size; simp; omega) (fun r hr => by cases hr; exact G1.out.size))
  have HS2 : Hid (StrsAt w2 (.slice a' (2 + L.length) cap') ([o, placeS leaf 0 0] ++ L)) := strs_own (n := 2 + L.length) (by simpa [strsV] using hown2)
  clear hown2 hg2 ho2 HV2 G1
  have hn2 : ([o, placeS leaf 0 0] ++ L).length = 2 + L.length := by simp; omega
  have hall : ∀ s ∈ [o, placeS leaf 0 0] ++ L, s.size ≤ 1000000000000 := by
    intro s hs'
    simp only [List.cons_append, List.nil_append, List.mem_cons] at hs'
    rcases hs' with rfl | rfl | h
    · exact ho
    · rw [placeS_size]; omega
    · exact HSZ.out s h
  have hlen : (tagB 4 ([o, placeS leaf 0 0] ++ L)).length ≤ 100000000000000000 := by
    have h1 := tagB_length 4 _ _ hall
    have h2 : ([o, placeS leaf 0 0] ++ L).length * (4 + 1000000000000) ≤ 1000 * (4 + 1000000000000) := Nat.mul_le_mul_right _ (by rw [hn2]; omega)
    omega
  have ht := Lib.hid (tagged_any w2 4 _ _ HS2.out (HR.out.grown HG2.out) (by rw [hn2]; unfold maxLen; omega) hlen)
  clear hn2 hall hlen
  go_wp2_with fail
  refine ht.out.mono ?_
  rintro e w3 ⟨rfl, g3⟩
  have G3 := Lib.hid (grownBy_trans HG2.out g3)
  clear g3
  go_wp2_with fail
  go_ret
  exact ⟨rfl, G3.out⟩

set_option maxHeartbeats 800000 in
set_option maxRecDepth 100000 in
theorem wpublic_any (seed : ByteArray) (leaf : Nat) (hs : seed.size ≤ 1000000000000) (hl : leaf ≤ 4294967295) (w : World) (hr : ShaReady w) :
    Calls Tryd.prog 94 #[.string seed, .int .i64 leaf] w fun e w' => e = .returned (.string (publicS seed leaf)) ∧ w.grownBy w' none := by
  obtain ⟨i0, hi, hz0, hz1, hz2⟩ := info_parts infoStrW
  have HR := Lib.hid hr
  have hop := Lib.hid (wopen_any seed hs w hr)
  have hosz := openS_size seed
  clear hr
  have HPD : Hid (publicS seed leaf = publicOfS (openS seed) leaf (endsS seed leaf 35)) := rfl
  obtain ⟨o, hO⟩ : ∃ o, openS seed = o := ⟨_, rfl⟩
  rw [hO] at hosz hop HPD
  have HO := Lib.hid hO
  clear hO
  go_enter Tryd.func94, Tryd.ntmps94
  go_wp2_with fail
  refine hop.out.mono ?_
  rintro e w1 ⟨rfl, g1⟩
  have G1 := Lib.hid g1
  clear g1
  go_wp2_with (at_make; refine wpList_make_full _ rfl _ _ 44 rfl w.heap.size 9 i0 (.string ⟨#[]⟩) 1 Tryd.underlying44 hi hz0 hz1 _ _ _ _ 35 rfl rfl rfl rfl ?c1 ?c2 ?c3 ?_)
  case c1 => rw [hz2]; omega
  case c2 => unfold maxLen; omega
  case c3 => exact G1.out.size
  intro w2 hown hg
  have hm : (madeCells #[Value.string ⟨#[]⟩] 35).toList = strsV (fillS (endsS seed leaf 0) 35) := made_strs 35
  rw [hm] at hown
  have HO2 := Lib.hid hown
  have G2 := Lib.hid (grownBy_trans G1.out hg)
  have hB1 := G1.out.size
  clear hown hg hm G1
  obtain ⟨B, hB⟩ : ∃ B, w1.heap.size = B := ⟨_, rfl⟩
  rw [hB] at HO2 hB1 ⊢
  clear hB hop
  go_wp2_with fail
  go_loopw [7, 13] (fun _ iv wr => ∃ k : Nat, k ≤ 35 ∧ iv = .int .i64 k ∧ Hid (wr.ownsRow w.heap.size 9 1 (.slice (some ⟨B, 0, none⟩) 35 35) 35 (strsV (fillS (endsS seed leaf k) 35))) ∧ Hid (w.grownBy wr none)) (fun _ iv _ => 35 - (intOf iv).toNat)
  case atStart => exact ⟨0, by omega, rfl, HO2.out, G2.out⟩
  case round =>
    clear HO2 G2
    obtain ⟨k, hk, rfl, HK, HG⟩ := hrel
    by_cases hlt : k < 35
    · have hsec := Lib.hid (secret_any seed leaf k hs hl (by omega) wr (HR.out.grown HG.out))
      have b1 : (0 : Int) ≤ (k : Int) := by omega
      go_wp2_with fail
      refine hsec.out.mono ?_
      rintro e w3 ⟨rfl, g3⟩
      have G3 := Lib.hid (grownBy_trans HG.out g3)
      have HK3 := Lib.hid (own_kept HK.out g3)
      clear g3 HK hsec HG
      have hwk := Lib.hid (wwalk_any o (secretS seed leaf k) leaf k 0 15 (by rw [hosz]; omega) (by rw [secretS_size]; omega) hl (by omega) (by omega) (by omega) w3 (HR.out.grown G3.out))
      go_wp2_with fail
      refine hwk.out.mono ?_
      rintro e w4 ⟨rfl, g4⟩
      have G4 := Lib.hid (grownBy_trans G3.out g4)
      have HK4 := Lib.hid (own_kept HK3.out g4)
      clear g4 HK3 hwk G3
      have hel := endsS_length seed leaf k
      have hc := HK4.out.cellAt k (by omega)
      have hat := fillS_at (endsS seed leaf k) 35 (by omega)
      have hput := fillS_put (endsS seed leaf k) 35 (walkZ o leaf k 0 15 (secretS seed leaf k)) (by omega)
      rw [hel] at hat hput
      rw [hat] at hc
      have hf := HK4.out.frozenAt k
      have HP := Lib.hid hput
      have HE : Hid (endsS seed leaf (k + 1) = endsS seed leaf k ++ [walkZ o leaf k 0 15 (secretS seed leaf k)]) := by
        show _ = _
        rw [endsS, HO.out]
        rfl
      clear hat hput hel
      generalize walkZ o leaf k 0 15 (secretS seed leaf k) = S at HP HE ⊢
      go_wp2_with fail
      go_roundw
      case rel =>
        refine ⟨k + 1, by omega, by go_num, ?_, grownBy_setNew G4.out hB1 _ _⟩
        show World.ownsRow _ _ _ _ _ _ _
        rw [HE.out, ← HP.out]
        exact (HK4.out.stored _ _).1
      case measure => simp [intOf]; omega
    · have : k = 35 := by omega
      subst this
      have hown := HK.out
      rw [fillS_full _ 35 (endsS_length seed leaf 35)] at hown
      have hst := strs_own hown
      have hpo := Lib.hid (publicOf_any o leaf _ (endsS seed leaf 35) (by rw [hosz]; omega) hl (by rw [endsS_length]; omega) (by rw [endsS_length]; omega) (fun s h => by rw [endsS_all seed leaf 35 s h]; omega) wr hst (HR.out.grown HG.out))
      clear hown hst HK
      go_wp2_with fail
      refine hpo.out.mono ?_
      rintro e w3 ⟨rfl, g3⟩
      have G3 := Lib.hid (grownBy_trans HG.out g3)
      clear g3
      rw [← HPD.out]
      go_wp2_with fail
      go_ret
      exact ⟨rfl, G3.out⟩
end Go.Proofs.YtioahjdojgcfdaaDoor

namespace Go.Proofs.YtioahjdojgcfdaaDoor
open Go.RowKit

theorem wrap_i64_nat (n : Nat) (h : n < 9223372036854775808) : IntKind.i64.wrap (n : Int) = (n : Int) := by
  simp only [IntKind.wrap, IntKind.bits, IntKind.signed, IntKind.min, IntKind.max]; simp; omega
theorem bits_and_i64_nat (a b : Nat) (ha : a < 9223372036854775808) (hb : b < 9223372036854775808) :
    bits .and .i64 (a : Int) (b : Int) = ((a &&& b : Nat) : Int) := by
  have hx : a &&& b < 2 ^ 63 := Nat.and_lt_two_pow _ (by omega)
  have h1 : (BitVec.ofInt 64 (a : Int)).toNat = a := by
    rw [BitVec.ofInt_natCast, BitVec.toNat_ofNat]; exact Nat.mod_eq_of_lt (by omega)
  have h2 : (BitVec.ofInt 64 (b : Int)).toNat = b := by
    rw [BitVec.ofInt_natCast, BitVec.toNat_ofNat]; exact Nat.mod_eq_of_lt (by omega)
  show IntKind.i64.wrap ((BitVec.ofInt 64 (a : Int) &&& BitVec.ofInt 64 (b : Int)).toNat : Int) = _
  rw [BitVec.toNat_and, h1, h2, wrap_i64_nat _ (by omega)]
theorem bits_or_i64_nat (a b : Nat) (ha : a < 9223372036854775808) (hb : b < 9223372036854775808) :
    bits .or .i64 (a : Int) (b : Int) = ((a ||| b : Nat) : Int) := by
  have hx : a ||| b < 2 ^ 63 := Nat.or_lt_two_pow (by omega) (by omega)
  have h1 : (BitVec.ofInt 64 (a : Int)).toNat = a := by
    rw [BitVec.ofInt_natCast, BitVec.toNat_ofNat]; exact Nat.mod_eq_of_lt (by omega)
  have h2 : (BitVec.ofInt 64 (b : Int)).toNat = b := by
    rw [BitVec.ofInt_natCast, BitVec.toNat_ofNat]; exact Nat.mod_eq_of_lt (by omega)
  show IntKind.i64.wrap ((BitVec.ofInt 64 (a : Int) ||| BitVec.ofInt 64 (b : Int)).toNat : Int) = _
  rw [BitVec.toNat_or, h1, h2, wrap_i64_nat _ (by omega)]
theorem bits_xor_i64_nat (a b : Nat) (ha : a < 9223372036854775808) (hb : b < 9223372036854775808) :
    bits .xor .i64 (a : Int) (b : Int) = ((a ^^^ b : Nat) : Int) := by
  have hx : a ^^^ b < 2 ^ 63 := Nat.xor_lt_two_pow (by omega) (by omega)
  have h1 : (BitVec.ofInt 64 (a : Int)).toNat = a := by
    rw [BitVec.ofInt_natCast, BitVec.toNat_ofNat]; exact Nat.mod_eq_of_lt (by omega)
  have h2 : (BitVec.ofInt 64 (b : Int)).toNat = b := by
    rw [BitVec.ofInt_natCast, BitVec.toNat_ofNat]; exact Nat.mod_eq_of_lt (by omega)
  show IntKind.i64.wrap ((BitVec.ofInt 64 (a : Int) ^^^ BitVec.ofInt 64 (b : Int)).toNat : Int) = _
  rw [BitVec.toNat_xor, h1, h2, wrap_i64_nat _ (by omega)]
theorem and_one_i64 (m : Nat) (h : m < 9223372036854775808) : bits .and .i64 (m : Int) 1 = ((m % 2 : Nat) : Int) := by
  have := bits_and_i64_nat m 1 h (by decide)
  rw [Nat.and_one_is_mod] at this
  exact this
end Go.Proofs.YtioahjdojgcfdaaDoor

namespace Go.Proofs.YtioahjdojgcfdaaDoor
open Go.RowKit
attribute [local irreducible] shaL

theorem hmb_any (h : Int) (w : World) :
    Calls Tryd.prog 82 #[.int .i64 h] w fun e w' => e = .returned (.bool (decide (0 ≤ h ∧ h ≤ 6))) ∧ w = w' := by
  by_cases h1 : 0 ≤ h
  · by_cases h2 : h ≤ 6
    · rw [decide_eq_true (show 0 ≤ h ∧ h ≤ 6 from ⟨h1, h2⟩)]
      go_enter Tryd.func82, Tryd.ntmps82
      go_wp2_with fail
      go_ret
      exact ⟨rfl, rfl⟩
    · rw [decide_eq_false (show ¬ (0 ≤ h ∧ h ≤ 6) from fun q => h2 q.2)]
      go_enter Tryd.func82, Tryd.ntmps82
      go_wp2_with fail
      go_ret
      exact ⟨rfl, rfl⟩
  · rw [decide_eq_false (show ¬ (0 ≤ h ∧ h ≤ 6) from fun q => h1 q.1)]
    go_enter Tryd.func82, Tryd.ntmps82
    go_wp2_with fail
    go_ret
    exact ⟨rfl, rfl⟩

def pubZ (o r : ByteArray) (h : Int) : Value := .agg #[.string o, .string r, .int .i64 h]
theorem pubErr_out {o r : ByteArray} {h : Int} (k : ¬ (0 ≤ h ∧ h ≤ 6)) : pubErr o r h = 10 ∧ pubEnc o r h = ⟨#[]⟩ := by
  have : ¬ pubOk o r h := fun q => k q.1
  unfold pubErr pubEnc
  rw [if_neg this, if_neg this]
  exact ⟨rfl, rfl⟩
/-- a struct of three cells in a block: its cells -/
theorem cells3 {w : World} {b : Nat} {t : TypeId} {a0 a1 a2 : Value} (h : w.heap[b]? = some (.cells #[a0, a1, a2] t (0, 0))) : w.cell? ⟨b, 0, none⟩ = some a0 ∧ w.cell? ⟨b, 1, none⟩ = some a1 ∧ w.cell? ⟨b, 2, none⟩ = some a2 := by
  refine ⟨?_, ?_, ?_⟩ <;> rw [cell_of h] <;> rfl
set_option maxRecDepth 100000 in
set_option maxHeartbeats 1600000 in
theorem pencode_any (o r : ByteArray) (h : Int) (ho : o.size ≤ 100000) (hr : r.size ≤ 100000) (w : World) :
    Calls Tryd.prog 39 #[pubZ o r h] w fun e w' => e = .returned (.tuple #[.string (pubEnc o r h), .int .i64 (pubErr o r h)]) ∧ w.grownBy w' none := by
  unfold pubZ
  have hb0 := heap_alloc_at w (.cells #[.string o, .string r, .int .i64 h] 50) _ rfl
  have hg0 : w.grownBy (w.alloc (.cells #[.string o, .string r, .int .i64 h] 50)) none := World.grownBy_alloc _ _ _
  obtain ⟨W0, hW0⟩ : ∃ W0, w.alloc (.cells #[.string o, .string r, .int .i64 h] 50) = W0 := ⟨_, rfl⟩
  rw [hW0] at hb0 hg0
  obtain ⟨x0, x1, x2⟩ := cells3 hb0
  have HB0 := Lib.hid hb0
  have HG0 := Lib.hid hg0
  have HW0 := Lib.hid hW0
  clear hb0 hg0 hW0
  by_cases hh : 0 ≤ h ∧ h ≤ 6
  · obtain ⟨k, rfl⟩ := Int.eq_ofNat_of_zero_le hh.1
    have hk : k ≤ 6 := by omega
    have HM : Hid (∀ w0 : World, Calls Tryd.prog 82 #[.int .i64 k] w0 fun e w' => e = .returned (.bool true) ∧ w0 = w') := fun w0 => by
      have := hmb_any k w0
      rwa [decide_eq_true hh] at this
    have HA := Lib.hid (pubW_ans o r k hk)
    have HSZ := Lib.hid (And.intro ho hr)
    have c1 : IntKind.u64.wrap (k : Int) = (k : Int) := wrap_u64 k (by omega)
    clear hh ho hr
    go_enter Tryd.func39, Tryd.ntmps39
    go_wp2_with (rw [HW0.out])
    refine (HM.out _).mono ?_
    rintro e w1 ⟨rfl, hw1⟩
    subst hw1
    have hWB : WrAt (W0.alloc (.cells #[.pointer none, .int .i64 0, .int .i64 0] 114)) W0.heap.size ⟨[], 0⟩ := ⟨.pointer none, heap_alloc_at W0 _ _ rfl, rfl⟩
    have hg1 : W0.grownBy (W0.alloc (.cells #[.pointer none, .int .i64 0, .int .i64 0] 114)) none := World.grownBy_alloc _ _ _
    have hb1 := hg1.heap HB0.out (by simp)
    obtain ⟨XB, hXB⟩ : ∃ XB, w.heap.size = XB := ⟨_, rfl⟩
    obtain ⟨WB, hWBn⟩ : ∃ WB, W0.heap.size = WB := ⟨_, rfl⟩
    obtain ⟨W1, hW1⟩ : ∃ W1, W0.alloc (.cells #[.pointer none, .int .i64 0, .int .i64 0] 114) = W1 := ⟨_, rfl⟩
    have hlt : w.heap.size < W0.heap.size := (Array.getElem?_eq_some_iff.1 HB0.out).1
    rw [hW1] at hWB hg1 hb1
    rw [hWBn] at hWB hlt
    rw [hXB] at hb1 hlt x0 x1 x2 ⊢
    have HLT := Lib.hid hlt
    have HX := Lib.hid hXB
    have HG1 := Lib.hid (grownBy_trans HG0.out hg1)
    have HWBn := Lib.hid hWBn
    have HW1 := Lib.hid hW1
    have HWR := Lib.hid hWB
    obtain ⟨y0, y1, y2⟩ := cells3 hb1
    have hne2 : ∀ (w' w'' : World) (o : Nat) (u : Value), w'.grownBy w'' (some WB) → w'.cell? ⟨XB, o, none⟩ = some u → w''.cell? ⟨XB, o, none⟩ = some u := fun w' w'' o u g h => g.cell h (fun e => by have := HLT.out; simp at e; omega)
    have HNE := Lib.hid hne2
    have hnew : ∀ g, some WB = some g → w.heap.size ≤ g := fun g e => by cases e; have := HLT.out; have := HX.out; omega
    have HNEW := Lib.hid hnew
    have t0 : total (⟨[], 0⟩ : WSt).ts = 0 := rfl
    have t1 := total_fixed (⟨[], 0⟩ : WSt) o 16
    have t2 := total_fixed ((⟨[], 0⟩ : WSt).fixed o 16) r 16
    have t3 := pubW_total o r k
    have hF1 := fun (w' : World) (q : WrAt w' WB ⟨[], 0⟩) => wr_fixedS o 16 q (by have := HSZ.out; omega)
    have hF2 := fun (w' : World) (q : WrAt w' WB ((⟨[], 0⟩ : WSt).fixed o 16)) => wr_fixedS r 16 q (by have := HSZ.out; omega)
    have hN := fun (w' : World) (q : WrAt w' WB (((⟨[], 0⟩ : WSt).fixed o 16).fixed r 16)) => wr_numS k (by omega) 1 q (by have := HSZ.out; omega)
    have hBY := fun (w' : World) (q : WrAt w' WB (pubW o r k)) => wr_bytesS q (by have := HSZ.out; omega)
    have hpw : (((⟨[], 0⟩ : WSt).fixed o 16).fixed r 16).num k 1 = pubW o r k := rfl
    rw [hpw] at hN
    have HF1 := Lib.hid hF1
    have HF2 := Lib.hid hF2
    have HN := Lib.hid hN
    rw [HA.out.1, HA.out.2] at hBY
    have HBY := Lib.hid hBY
    clear hWB hg1 hb1 hXB hWBn hW1 hlt hne2 hnew t0 t1 t2 t3 hF1 hF2 hN hBY hpw x0 x1 x2
    go_wp2_with (rw [HW1.out, HWBn.out])
    have hdw : WrAt W1.drew WB ⟨[], 0⟩ := HWR.out.grown (grownBy_drew (World.grownBy.refl _ _))
    go_region_held3 (fun w' => w'.cell? ⟨XB, 0, none⟩ = some (.string o) ∧ w'.cell? ⟨XB, 1, none⟩ = some (.string r)) (first | exact ck | exact ⟨y0, y1⟩)
      (first
      | (go_at_call 60; (with_reducible refine (HF1.out _ hdw).mono ?_); rintro e w3 ⟨rfl, hw3, g3⟩; have ck := And.intro (HNE.out _ _ _ _ g3 y0) (HNE.out _ _ _ _ g3 y1))
      | (go_at_call 60; (with_reducible refine (HF2.out _ hw3).mono ?_); rintro e w4 ⟨rfl, hw4, g4⟩; have ck := And.intro (HNE.out _ _ _ _ g4 ck.1) (HNE.out _ _ _ _ g4 ck.2)))
    have z2 := HNE.out _ _ _ _ g4 (HNE.out _ _ _ _ g3 y2)
    have HG4 := Lib.hid (grown_row (grown_row (grownBy_drew HG1.out) g3 HNEW.out) g4 HNEW.out)
    have HW4 := Lib.hid hw4
    clear ck g3 g4 hw3 hw4
    go_wp2_with fail
    refine (HN.out _ HW4.out).mono ?_
    rintro e w5 ⟨rfl, hw5, g5⟩
    have HW5 := Lib.hid hw5
    have HG5 := Lib.hid (grown_row HG4.out g5 HNEW.out)
    clear hw5 g5
    go_wp2_with fail
    refine (HBY.out _ HW5.out).mono ?_
    rintro e w6 ⟨rfl, g6⟩
    have HG6 := Lib.hid (grownBy_trans HG5.out g6)
    clear g6
    go_wp2_with fail
    go_returns
    exact ⟨rfl, HG6.out⟩
  · have HM : Hid (∀ w0 : World, Calls Tryd.prog 82 #[.int .i64 h] w0 fun e w' => e = .returned (.bool false) ∧ w0 = w') := fun w0 => by
      have := hmb_any h w0
      rwa [decide_eq_false hh] at this
    obtain ⟨h1, h2⟩ := pubErr_out (o := o) (r := r) hh
    rw [h1, h2]
    clear h1 h2 hh ho hr x0 x1
    go_enter Tryd.func39, Tryd.ntmps39
    go_wp2_with (rw [HW0.out])
    refine (HM.out _).mono ?_
    rintro e w1 ⟨rfl, hw1⟩
    subst hw1
    go_wp2_with fail
    go_returns
    exact ⟨rfl, HG0.out⟩

/-! DecodePublic -/
theorem heap3 {w : World} {n : Nat} {a0 a1 a2 : Value} {t : TypeId} (h : w.heap[n]? = some (.cells #[a0, a1, a2] t (0, 0))) (v0 v1 v2 : Value) :
    (((w.setCell ⟨n, 0, none⟩ v0).setCell ⟨n, 1, none⟩ v1).setCell ⟨n, 2, none⟩ v2).heap[n]? = some (.cells #[v0, v1, v2] t (0, 0)) :=
  (heap_setCell (heap_setCell (heap_setCell h 0 v0) 1 v1) 2 v2).trans rfl
theorem grown3 (w : World) (n : Nat) (v0 v1 v2 : Value) : w.grownBy (((w.setCell ⟨n, 0, none⟩ v0).setCell ⟨n, 1, none⟩ v1).setCell ⟨n, 2, none⟩ v2) (some n) :=
  grownBy_setCell (grownBy_setCell (grownBy_setCell (World.grownBy.refl w _) 0 _) 1 _) 2 _
/-- what is told of bytes, as a public key -/
def DecP.val (d : DecP) : Value := if d.err = 0 then pubZ d.o d.r d.h else pubZ ⟨#[]⟩ ⟨#[]⟩ 0
end Go.Proofs.YtioahjdojgcfdaaDoor
