/- The walks of an entry's Next, and of History. · What a sparse tree holds in memory: pairs in a map. No walk. · The walks of a tree's New, Put, Get, Len. · The walks of Leaf, isLeaf, Join. · The walks of sortOut, Keys. · The walk of IndexFunc, at the closures that are handed to it. · The walk of IndexFunc, at proof's alike's closure (SmtI's text, by program). · What DeleteFunc leaves in its row: plain words, and a row whose cells are set one by one. No walk. · The walk of DeleteFunc, at proof's alike's closure. · The walks of proof's begins, and of its alike's closure. · The walk of proof's alike. · A round of the document's reading of a word, its own theorem. · A round of the document's adding to the state, its own theorem. · The walks of above, Node, Root. · The walk of a proof's besideMayBe. · The walk of a proof's Good, where key and depth may be. · The walk of layer 14's laws' key. · The walks of band's Count and Of. -/
import Derived.Test.YtemndmhdlgfajaaDoorEntA
import Derived.Test.YtemndmhdlgfajaaDoorHeaderCodesB3
import Derived.Test.YtemndmhdlgfajaaDoorHeaderCodesB2
import Derived.Maps.OwnSet
import Derived.Carry
import Derived.Handy
import Derived.Deep.RegionWith
import Derived.Deep.RegionHeld3
import Derived.Test.YtemndmhdlgfajaaDoorLay
import Derived.Sort.OwnSorted
import Derived.Sort.KeysCollected
import Derived.Maps.RangeWalk
import Derived.Laws.IdiomCopy
import Derived.Lib.SliceRun
import Derived.Test.YtemndmhdlgfajaaDoorShaRefF
import Derived.Test.YtemndmhdlgfajaaDoorShaCalls
import Derived.Deep.DeepCutAuto
namespace Go.Proofs.YtemndmhdlgfajaaDoor
open Go.RowKit
attribute [local irreducible] shaL

theorem eq_strE (a b : ByteArray) : (a.toList == b.toList) = decide (a = b) := by
  rw [ByteArray.toList_eq, ByteArray.toList_eq, Bool.eq_iff_iff, beq_iff_eq, decide_eq_true_iff]
  exact ⟨fun h => ByteArray.ext (Array.toList_inj.1 h), fun h => by rw [h]⟩
theorem EntS.next_val {x y : EntS} (h : x.next y = 0) : y.v = x.v + 1 ∧ x.err = 0 ∧ y.p = x.value := by
  unfold EntS.next at h
  split at h
  · cases h
  · rename_i h1
    split at h
    · cases h
    · rename_i h2
      refine ⟨by omega, ?_, ?_⟩
      · exact Classical.byContradiction fun q => h2 (.inl q)
      · exact Classical.byContradiction fun q => h2 (.inr q)
/-! lists of entries -/
/-- a list of entries in memory -/
def EntsAt (w : World) (v : Value) (L : List EntS) : Prop :=
  ∃ a cap, v = .slice a L.length cap ∧ ∀ i (h : i < L.length), ∃ g o, a = some ⟨g, o, none⟩ ∧ w.cell? ⟨g, o + i * 5, none⟩ = some (.int .u64 (L[i]).v) ∧ w.cell? ⟨g, o + i * 5 + 1, none⟩ = some (.string (L[i]).o) ∧ w.cell? ⟨g, o + i * 5 + 2, none⟩ = some (.string (L[i]).r) ∧ w.cell? ⟨g, o + i * 5 + 3, none⟩ = some (.int .i64 (L[i]).h) ∧ w.cell? ⟨g, o + i * 5 + 4, none⟩ = some (.string (L[i]).p)
theorem EntsAt.grown {w w' : World} {v : Value} {L : List EntS} (h : EntsAt w v L) (k : w.grownBy w' none) : EntsAt w' v L := by
  obtain ⟨a, c, e, hc⟩ := h
  refine ⟨a, c, e, fun i hi => ?_⟩
  obtain ⟨g, o, e2, h0, h1, h2, h3, h4⟩ := hc i hi
  exact ⟨g, o, e2, k.cell h0 (by simp), k.cell h1 (by simp), k.cell h2 (by simp), k.cell h3 (by simp), k.cell h4 (by simp)⟩
theorem EntsAt.at_ {w : World} {a : Option Addr} {n cap : Nat} {L : List EntS} (h : EntsAt w (.slice a n cap) L) (i : Nat) (x : EntS) (hx : L[i]? = some x) : ∃ g o, a = some ⟨g, o, none⟩ ∧ w.cell? ⟨g, o + i * 5, none⟩ = some (.int .u64 x.v) ∧ w.cell? ⟨g, o + i * 5 + 1, none⟩ = some (.string x.o) ∧ w.cell? ⟨g, o + i * 5 + 2, none⟩ = some (.string x.r) ∧ w.cell? ⟨g, o + i * 5 + 3, none⟩ = some (.int .i64 x.h) ∧ w.cell? ⟨g, o + i * 5 + 4, none⟩ = some (.string x.p) := by
  obtain ⟨a', c', e, hc⟩ := h
  injection e with e1 e2 e3
  obtain ⟨hi, rfl⟩ := List.getElem?_eq_some_iff.1 hx
  obtain ⟨g, o, e4, hcs⟩ := hc i hi
  exact ⟨g, o, e1.trans e4, hcs⟩
theorem EntsAt.len {w : World} {a : Option Addr} {n cap : Nat} {L : List EntS} (h : EntsAt w (.slice a n cap) L) : L.length = n := by
  obtain ⟨_, _, e, _⟩ := h
  injection e with _ e _
  exact e.symm
theorem chainE_drop (L : List EntS) (k : Nat) (x y : EntS) (hx : L[k]? = some x) (hy : L[k + 1]? = some y) : chainE (L.drop k) = if x.next y ≠ 0 then x.next y else chainE (L.drop (k + 1)) := by
  obtain ⟨hi, rfl⟩ := List.getElem?_eq_some_iff.1 hx
  obtain ⟨hj, rfl⟩ := List.getElem?_eq_some_iff.1 hy
  rw [List.drop_eq_getElem_cons hi, List.drop_eq_getElem_cons hj]
  rfl
theorem chainE_last (L : List EntS) (k : Nat) (h : L.length ≤ k + 1) : chainE (L.drop k) = 0 := by
  have hl : (L.drop k).length ≤ 1 := by simp; omega
  match hm : L.drop k, hl with
  | [], _ => rfl
  | [_], _ => rfl
  | _ :: _ :: _, h => simp at h
theorem two_cells {w w1 w2 : World} {g i j : Nat} {v0 v1 v2 v3 v4 u0 u1 u2 u3 u4 : Value} (_q : w.grownBy w1 none) (k : w1.grownBy w2 none)
    (h : (w1.cell? ⟨g, i, none⟩ = some v0 ∧ w1.cell? ⟨g, i + 1, none⟩ = some v1 ∧ w1.cell? ⟨g, i + 2, none⟩ = some v2 ∧ w1.cell? ⟨g, i + 3, none⟩ = some v3 ∧ w1.cell? ⟨g, i + 4, none⟩ = some v4) ∧ w1.cell? ⟨g, j, none⟩ = some u0 ∧ w1.cell? ⟨g, j + 1, none⟩ = some u1 ∧ w1.cell? ⟨g, j + 2, none⟩ = some u2 ∧ w1.cell? ⟨g, j + 3, none⟩ = some u3 ∧ w1.cell? ⟨g, j + 4, none⟩ = some u4) :
    w2.cell? ⟨g, i, none⟩ = some v0 ∧ w2.cell? ⟨g, i + 1, none⟩ = some v1 ∧ w2.cell? ⟨g, i + 2, none⟩ = some v2 ∧ w2.cell? ⟨g, i + 3, none⟩ = some v3 ∧ w2.cell? ⟨g, i + 4, none⟩ = some v4 ∧ w2.cell? ⟨g, j, none⟩ = some u0 ∧ w2.cell? ⟨g, j + 1, none⟩ = some u1 ∧ w2.cell? ⟨g, j + 2, none⟩ = some u2 ∧ w2.cell? ⟨g, j + 3, none⟩ = some u3 ∧ w2.cell? ⟨g, j + 4, none⟩ = some u4 := by
  obtain ⟨⟨h0, h1, h2, h3, h4⟩, k0, k1, k2, k3, k4⟩ := h
  exact ⟨k.cell h0 (by simp), k.cell h1 (by simp), k.cell h2 (by simp), k.cell h3 (by simp), k.cell h4 (by simp), k.cell k0 (by simp), k.cell k1 (by simp), k.cell k2 (by simp), k.cell k3 (by simp), k.cell k4 (by simp)⟩
end Go.Proofs.YtemndmhdlgfajaaDoor

namespace Go.Proofs.YtemndmhdlgfajaaDoor
open Go.RowKit Go.Maps

abbrev DatU := DataW Unit
def litK (k : ByteArray) : Lit := .string k.data.toList
/-- a map as read holds these pairs -/
structure IsM (D : DatU) (M : List PairS) : Prop where
  has : ∀ k : ByteArray, Maps.has D (litK k) = M.any (fun p => decide (p.1 = k))
  look : ∀ p ∈ M, ∀ zd, D.atKey (litK p.1) zd = .lit (.string p.2.data.toList)
  size : Maps.size D = M.length
  one : M.Pairwise (fun p q => p.1 ≠ q.1)
/-- pairs with one more, or another value -/
def setM (M : List PairS) (x : PairS) : List PairS := M.filter (fun p => !(decide (p.1 = x.1))) ++ [x]
theorem litK_inj {a b : ByteArray} (h : litK a = litK b) : a = b := by
  unfold litK at h
  injection h with h
  exact ByteArray.ext (Array.toList_inj.1 h)
theorem litK_ne {a b : ByteArray} (h : a ≠ b) : litK a ≠ litK b := fun e => h (litK_inj e)
theorem litK_key (k : ByteArray) : WideAt.IsKeyLit (litK k) := trivial
theorem isM_nil : IsM (.map []) [] := ⟨fun _ => rfl, fun p hp => by simp at hp, rfl, List.Pairwise.nil⟩
theorem one_split : ∀ (M : List PairS) (k : ByteArray), M.Pairwise (fun p q => p.1 ≠ q.1) → (M.filter (fun p => !(decide (p.1 = k)))).length + (if M.any (fun p => decide (p.1 = k)) then 1 else 0) = M.length
  | [], _, _ => rfl
  | x :: r, k, h => by
    obtain ⟨h1, h2⟩ := List.pairwise_cons.1 h
    have ih := one_split r k h2
    by_cases e : x.1 = k
    · have hn : r.any (fun p => decide (p.1 = k)) = false := by
        rw [List.any_eq_false]
        intro p hp q
        have : p.1 = k := by simpa using q
        exact h1 p hp (e.trans this.symm)
      rw [hn] at ih
      have e1 : (decide (x.1 = k)) = true := by simpa using e
      simp only [List.filter_cons, e1, List.any_cons, Bool.true_or, Bool.not_true, if_true, List.length_cons] at ih ⊢
      simp at ih ⊢
      omega
    · have e1 : (decide (x.1 = k)) = false := by simpa using e
      simp only [List.filter_cons, e1, List.any_cons, Bool.false_or, Bool.not_false, if_true, List.length_cons]
      omega
theorem setM_one {M : List PairS} (h : M.Pairwise (fun p q => p.1 ≠ q.1)) (x : PairS) : (setM M x).Pairwise (fun p q => p.1 ≠ q.1) := by
  unfold setM
  rw [List.pairwise_append]
  refine ⟨h.filter _, List.pairwise_singleton _ _, fun p hp q hq => ?_⟩
  rw [List.mem_singleton.1 hq]
  have := (List.mem_filter.1 hp).2
  simpa using this
theorem setM_any (M : List PairS) (x : PairS) (k : ByteArray) : (setM M x).any (fun p => decide (p.1 = k)) = (M.any (fun p => decide (p.1 = k)) || (decide (x.1 = k))) := by
  unfold setM
  rw [List.any_append, List.any_filter]
  by_cases e : x.1 = k
  · have e1 : (decide (x.1 = k)) = true := by simpa using e
    simp [e1]
  · have e1 : (decide (x.1 = k)) = false := by simpa using e
    simp only [List.any_cons, List.any_nil, e1, Bool.or_false]
    congr 1
    funext p
    by_cases e2 : p.1 = k
    · have e3 : (decide (p.1 = x.1)) = false := by simp; exact fun q => e (q.symm.trans e2)
      rw [e3]; simp
    · have e3 : (decide (p.1 = k)) = false := by simpa using e2
      rw [e3]; simp
theorem IsM.put {D : DatU} {M : List PairS} (h : IsM D M) (ht : Tidy D) (x : PairS) : IsM (D.put (litK x.1) (.lit (.string x.2.data.toList))) (setM M x) := by
  have hm := ht.isMap
  refine ⟨fun k => ?_, fun p hp zd => ?_, ?_, setM_one h.one x⟩
  · rw [setM_any]
    by_cases e : k = x.1
    · subst e
      rw [has_put_same hm (litK_key _)]
      simp
    · rw [has_put_other (litK_ne e), h.has]
      have e1 : (decide (x.1 = k)) = false := by simp; exact fun q => e q.symm
      rw [e1, Bool.or_false]
  · rcases List.mem_append.1 hp with hp | hp
    · have h1 := List.mem_filter.1 hp
      have h2 : p.1 ≠ x.1 := by have := h1.2; simpa using this
      rw [atKey_put_other (litK_ne h2)]
      exact h.look p h1.1 zd
    · rw [List.mem_singleton.1 hp]
      exact atKey_put_same hm (litK_key _) _ _
  · have h1 := one_split M x.1 h.one
    have h2 := size_put ht (k := litK x.1) (.lit (.string x.2.data.toList))
    rw [h.has, h.size] at h2
    rw [h2]
    unfold setM
    rw [List.length_append, List.length_singleton]
    cases hh : M.any (fun p => decide (p.1 = x.1)) with
    | true => rw [hh, if_pos rfl] at h1; rw [if_pos rfl]; omega
    | false => rw [hh, if_neg (by decide)] at h1; rw [if_neg (by decide)]; omega
theorem ownsMap_exact {P : Program} {k : TypeId} {R : Value → Option (DatU × List MemPlace)} {w : World} {b n : Nat} {D : DatU} (h : w.ownsMap P k R b n D) : w.ownsMap P k R b (Maps.size D) D := by
  obtain ⟨es, clock, hb, F, hs, rfl⟩ := h
  exact ⟨es, clock, hb, F, by simp [Maps.size, length_sorted], rfl⟩
theorem plainElem_string_inv {P : Program} {e : TypeId} (he : P.underlying e = some .string) {v : Value} {z : DatU × List MemPlace} (h : plainElem P e v = some z) : ∃ s : ByteArray, v = .string s ∧ z = (.lit (.string s.data.toList), []) ∧ s.size ≤ maxLen := by
  unfold plainElem at h
  rw [he] at h
  cases v <;> simp at h
  obtain ⟨h1, rfl⟩ := h
  exact ⟨_, rfl, rfl, h1⟩
noncomputable def strR : Value → Option (DatU × List MemPlace) := plainElem Tryd.prog 9
theorem strK : Keyed Tryd.prog 9 := string_keyed Tryd.underlying9
theorem strR_mk (s : ByteArray) (h : s.size ≤ maxLen) : strR (.string s) = some (.lit (.string s.data.toList), []) := plainElem_string Tryd.underlying9 h
theorem strR_inv {v : Value} {z : DatU × List MemPlace} (h : strR v = some z) : ∃ s : ByteArray, v = .string s ∧ z = (.lit (.string s.data.toList), []) ∧ s.size ≤ maxLen := plainElem_string_inv Tryd.underlying9 h
theorem keyV (k : ByteArray) (h : k.size ≤ maxLen) : keyOf Tryd.prog 9 (.string k) = some (litK k) := WideMaps.keyOf_string_mk Tryd.underlying9 h
/-- block b is a tree of the pairs M; its blocks lie from n0 on, none of them is one of X -/
structure TreeAt (n0 : Nat) (X : List Nat) (w : World) (b : Nat) (M : List PairS) (mv : Value) : Prop where
  blk : w.heap[b]? = some (.cells #[mv] 99 (0, 0))
  own : n0 ≤ b ∧ b ∉ X
  map : (mv = .map none ∧ M = []) ∨ ∃ mb D, mv = .map (some mb) ∧ n0 ≤ mb ∧ mb ∉ X ∧ w.ownsMap Tryd.prog 9 strR mb M.length D ∧ IsM D M
def TreeK (n0 : Nat) (X : List Nat) (w : World) (b : Nat) (M : List PairS) : Prop := ∃ mv, TreeAt n0 X w b M mv
theorem TreeAt.lt {n0 : Nat} {X : List Nat} {w : World} {b : Nat} {M : List PairS} {mv : Value} (h : TreeAt n0 X w b M mv) : b < w.heap.size := (Array.getElem?_eq_some_iff.1 h.blk).1
theorem TreeAt.one {n0 : Nat} {X : List Nat} {w : World} {b : Nat} {M : List PairS} {mv : Value} (h : TreeAt n0 X w b M mv) : M.Pairwise (fun p q => p.1 ≠ q.1) := by
  rcases h.map with ⟨_, rfl⟩ | ⟨_, _, _, _, _, _, hm⟩
  · exact List.Pairwise.nil
  · exact hm.one
/-- blocks of the caller's own turn, and new ones join them -/
theorem TreeK.turn {n0 : Nat} {X Y : List Nat} {S : Nat → Prop} {w w' : World} {b : Nat} {M : List PairS} (h : TreeK n0 X w b M) (k : Turn S w w') (hS : ∀ i, i < w.heap.size → S i → i ∈ X) (hY : ∀ i ∈ Y, i ∈ X ∨ w.heap.size ≤ i) : TreeK n0 Y w' b M := by
  obtain ⟨mv, hb, ho, hm⟩ := h
  have hbl : b < w.heap.size := (Array.getElem?_eq_some_iff.1 hb).1
  refine ⟨mv, k.heap hb (fun q => ho.2 (hS b hbl q)), ⟨ho.1, fun q => ?_⟩, ?_⟩
  · rcases hY b q with q | q
    · exact ho.2 q
    · omega
  · rcases hm with hm | ⟨mb, D, rfl, h1, h2, h3, h4⟩
    · exact .inl hm
    · have hml := h3.lt
      refine .inr ⟨mb, D, rfl, h1, fun q => ?_, ?_, h4⟩
      · rcases hY mb q with q | q
        · exact h2 q
        · omega
      · obtain ⟨es, clock, hb3, r⟩ := h3
        exact ⟨es, clock, k.heap hb3 (fun q => h2 (hS mb hml q)), r⟩
theorem TreeK.grown {n0 : Nat} {X : List Nat} {w w' : World} {b : Nat} {M : List PairS} (h : TreeK n0 X w b M) (k : w.grownBy w' none) : TreeK n0 X w' b M :=
  h.turn (S := fun _ => False) (Turn.of_grown k) (fun _ _ q => q.elim) (fun _ hi => .inl hi)
theorem TreeK.more {n0 : Nat} {X Y : List Nat} {w w' : World} {b : Nat} {M : List PairS} (h : TreeK n0 X w b M) (k : w.grownBy w' none) (hY : ∀ i ∈ Y, i ∈ X ∨ w.heap.size ≤ i) : TreeK n0 Y w' b M :=
  h.turn (S := fun _ => False) (Turn.of_grown k) (fun _ _ q => q.elim) hY
theorem TreeK.lt {n0 : Nat} {X : List Nat} {w : World} {b : Nat} {M : List PairS} (h : TreeK n0 X w b M) : b < w.heap.size := by obtain ⟨_, h⟩ := h; exact h.lt
theorem TreeK.one {n0 : Nat} {X : List Nat} {w : World} {b : Nat} {M : List PairS} (h : TreeK n0 X w b M) : M.Pairwise (fun p q => p.1 ≠ q.1) := by obtain ⟨_, h⟩ := h; exact h.one
/-- the value of a key, or the empty text -/
def valM (M : List PairS) (k : ByteArray) : ByteArray := ((M.find? (fun p => decide (p.1 = k))).map Prod.snd).getD ⟨#[]⟩
def hasM (M : List PairS) (k : ByteArray) : Bool := M.any (fun p => decide (p.1 = k))
theorem valM_mem : ∀ {M : List PairS}, M.Pairwise (fun p q => p.1 ≠ q.1) → ∀ x ∈ M, valM M x.1 = x.2
  | [], _, x, hx => by simp at hx
  | y :: r, h, x, hx => by
    obtain ⟨h1, h2⟩ := List.pairwise_cons.1 h
    unfold valM
    rcases List.mem_cons.1 hx with rfl | hx'
    · simp
    · have hne : (decide (y.1 = x.1)) = false := by simpa using h1 x hx'
      rw [List.find?_cons, hne]
      exact valM_mem h2 x hx'
theorem valM_none {M : List PairS} {k : ByteArray} (h : hasM M k = false) : valM M k = ⟨#[]⟩ := by
  unfold valM
  unfold hasM at h
  rw [List.find?_eq_none.2]
  · rfl
  · intro x hx
    have := List.any_eq_false.1 h x hx
    simpa using this
theorem IsM.val {D : DatU} {M : List PairS} (h : IsM D M) (k : ByteArray) : D.atKey (litK k) (.lit (.string [])) = .lit (.string (valM M k).data.toList) := by
  cases hh : hasM M k with
  | true =>
    obtain ⟨p, hp, hk⟩ := List.any_eq_true.1 hh
    obtain rfl : p.1 = k := by simpa using hk
    rw [h.look p hp, valM_mem h.one p hp]
  | false =>
    rw [valM_none hh, atKey_of_not_has (by rw [h.has]; exact hh)]
end Go.Proofs.YtemndmhdlgfajaaDoor

namespace Go.Proofs.YtemndmhdlgfajaaDoor
open Go.RowKit Go.Maps
attribute [local irreducible] shaL

theorem zeroStr (w : World) : (zeroValue 9).run Tryd.prog w = .ok (.string ⟨#[]⟩) w := by kernel_rfl
theorem map_ne (mb : Nat) (w : World) : (binOp .eql 97 (.map (some mb)) (.map none)).run Tryd.prog w = .ok (.bool false) w := by kernel_rfl
theorem map_eq (w : World) : (binOp .eql 97 (.map none) (.map none)).run Tryd.prog w = .ok (.bool true) w := by kernel_rfl
theorem tnew_any (n0 : Nat) (X : List Nat) (w : World) (hX : ∀ x ∈ X, x < w.heap.size) (hn0 : n0 ≤ w.heap.size) : Calls Tryd.prog 28 #[] w fun e w' => e = .returned (.pointer (some ⟨w.heap.size, 0, none⟩)) ∧ TreeK n0 X w' w.heap.size [] ∧ w.grownBy w' none := by
  have HX := Lib.hid (And.intro hX hn0)
  clear hX hn0
  go_enter Tryd.func28, Tryd.ntmps28
  go_wp2_with fail
  go_ret
  refine ⟨rfl, ⟨_, heap_alloc_at _ _ _ rfl, ⟨HX.out.2, fun q => ?_⟩, .inl ⟨rfl, rfl⟩⟩, World.grownBy_alloc _ _ _⟩
  have := HX.out.1 _ q
  omega
set_option maxRecDepth 100000 in
theorem tput_any (n0 : Nat) (X : List Nat) (w : World) (b : Nat) (M : List PairS) (k v : ByteArray) (hT : TreeK n0 X w b M) (hX : ∀ x ∈ X, x < w.heap.size) (hn0 : n0 ≤ w.heap.size) (hk : k.size = 16) (hv : v.size ≤ 1000000) (hM : M.length < 1000000) :
    Calls Tryd.prog 61 #[.pointer (some ⟨b, 0, none⟩), .string k, .string v] w fun e w' => e = .returned (.int .i64 0) ∧ TreeK n0 X w' b (setM M (k, v)) ∧ Turn (rest n0 X) w w' := by
  obtain ⟨mv, hb, ho, hm⟩ := hT
  have hk16 : (k.size : Int) = 16 := by omega
  have hkey := keyV k (by unfold maxLen; omega)
  have hval := strR_mk v (by unfold maxLen; omega)
  have c0 := cell_of hb 0
  have f0 := free_of hb 0
  simp at c0
  have hlb : b < w.heap.size := (Array.getElem?_eq_some_iff.1 hb).1
  rcases hm with ⟨rfl, rfl⟩ | ⟨mb, D, rfl, h1, h2, h3, h4⟩
  · have HB := Lib.hid (And.intro hb (And.intro ho (And.intro hX (And.intro hn0 hlb))))
    have hmm := @run_makeMap Tryd.prog
    have he := map_eq
    have hown : ((w.alloc (.map #[] 0)).setCell ⟨b, 0, none⟩ (.map (some w.heap.size))).ownsMap Tryd.prog 9 strR w.heap.size 0 (.map []) := (World.ownsMap_made w Tryd.prog 9 strR).setCell (by show w.heap.size ≠ b; omega) _
    have HK := Lib.hid (And.intro hown (And.intro hkey hval))
    have hblk : ((w.alloc (.map #[] 0)).setCell ⟨b, 0, none⟩ (.map (some w.heap.size))).heap[b]? = some (.cells #[.map (some w.heap.size)] 99 (0, 0)) := heap_setCell (Below.heap_alloc _ _ _ hlb |>.trans hb) 0 _
    have HBK := Lib.hid hblk
    have d0 : ((w.alloc (.map #[] 0)).setCell ⟨b, 0, none⟩ (.map (some w.heap.size))).cell? ⟨b, 0, none⟩ = some (.map (some w.heap.size)) := cell_of hblk 0
    have c0a : (w.alloc (.map #[] 0)).cell? ⟨b, 0, none⟩ = some (.map none) := (World.cell?_alloc_lt _ _ _ hlb).trans c0
    have f0a : (w.alloc (.map #[] 0)).frozen? ⟨b, 0, none⟩ = false := free_of (Below.heap_alloc _ _ _ hlb |>.trans hb) 0
    have t1 : Turn (fun i => i = b) w ((w.alloc (.map #[] 0)).setCell ⟨b, 0, none⟩ (.map (some w.heap.size))) := ((Turn.refl (fun i => i = b) w).alloc _).setCell (fun _ => rfl) _ _
    have HT1 := Lib.hid t1
    clear hb ho hX hn0 hown hkey hval hblk t1 hk hv hM
    have hlb2 := Lib.hid hlb
    clear hlb
    go_enter Tryd.func61, Tryd.ntmps61
    go_wp2_with (at_mapUpdate; refine wpList_mapUpdate_own _ rfl _ _ _ 97 rfl 9 9 strK Tryd.underlying97 strR w.heap.size 0 (.map []) rfl HK.out.1 (by unfold maxLen; omega) _ _ _ rfl rfl HK.out.2.1 _ [] HK.out.2.2 ?_; intro w2 hown2 hg2)
    have HO2 := Lib.hid hown2
    have HG2 := Lib.hid hg2
    clear hown2 hg2
    go_wp2_with fail
    go_ret
    generalize hSZ : w.heap.size = SZ at HO2 HG2 HBK HT1 hlb2
    generalize (w.alloc (.map #[] 0)).setCell ⟨b, 0, none⟩ (.map (some SZ)) = w1 at HG2 HBK HT1
    have hlt2 : b < w.heap.size := HB.out.2.2.2.2
    refine ⟨rfl, ⟨.map (some SZ), (HG2.out.block b (by have := HT1.out.size; omega) (by simp; omega)).trans HBK.out, HB.out.2.1, .inr ⟨SZ, _, rfl, by have := HB.out.2.2.2.1; omega, fun q => by have := HB.out.2.2.1 _ q; omega, HO2.out, isM_nil.put tidy_empty (k, v)⟩⟩, ?_⟩
    have t2 : Turn (fun i => i = b ∨ i = SZ) w w2 := (HT1.out.mono (fun i _ q => .inl q)).row HG2.out (fun i _ e => .inr (by injection e with e; exact e.symm))
    refine t2.mono (fun i hi q => ?_)
    rcases q with rfl | q
    · exact HB.out.2.1
    · omega
  · have HB := Lib.hid (And.intro hb (And.intro ho (And.intro hX (And.intro hn0 hlb))))
    have he := map_ne mb
    have HK := Lib.hid (And.intro h3 (And.intro hkey hval))
    have HI := Lib.hid (And.intro h1 (And.intro h2 h4))
    have hMl : M.length < maxLen := by unfold maxLen; omega
    clear hb ho hX hn0 hlb h1 h2 h3 h4 hkey hval hk hv hM
    go_enter Tryd.func61, Tryd.ntmps61
    go_wp2_with (at_mapUpdate; refine wpList_mapUpdate_own _ rfl _ _ _ 97 rfl 9 9 strK Tryd.underlying97 strR mb M.length D rfl HK.out.1 hMl _ _ _ rfl rfl HK.out.2.1 _ [] HK.out.2.2 ?_; intro w2 hown2 hg2)
    have HO2 := Lib.hid hown2
    have HG2 := Lib.hid hg2
    clear hown2 hg2
    go_wp2_with fail
    go_ret
    have hmb : mb ≠ b := by
      intro e
      obtain ⟨es, cl, h5, _⟩ := HK.out.1
      rw [e, HB.out.1] at h5
      cases h5
    have hi := HI.out.2.2.put (HK.out.1.tidy strK) (k, v)
    refine ⟨rfl, ⟨.map (some mb), (HG2.out.block b HB.out.2.2.2.2 (by simp; exact fun q => hmb q.symm)).trans HB.out.1, HB.out.2.1, .inr ⟨mb, _, rfl, HI.out.1, HI.out.2.1, ?_, hi⟩⟩, (Turn.refl _ w).row HG2.out (fun i _ e => ?_)⟩
    · have h6 := ownsMap_exact HO2.out
      rw [hi.size] at h6
      exact h6
    · injection e with e
      subst e
      exact ⟨HI.out.1, HI.out.2.1⟩
theorem tget_nil (k : ByteArray) (w : World) : Calls Tryd.prog 33 #[.pointer none, .string k] w fun e w' => e = .returned (.tuple #[.string ⟨#[]⟩, .bool false]) ∧ w = w' := by
  go_enter Tryd.func33, Tryd.ntmps33
  go_wp2_with fail
  go_returns
  exact ⟨rfl, rfl⟩
set_option maxRecDepth 100000 in
theorem tget_any (n0 : Nat) (X : List Nat) (w : World) (b : Nat) (M : List PairS) (k : ByteArray) (hT : TreeK n0 X w b M) (hk : k.size ≤ maxLen) :
    Calls Tryd.prog 33 #[.pointer (some ⟨b, 0, none⟩), .string k] w fun e w' => e = .returned (.tuple #[.string (valM M k), .bool (hasM M k)]) ∧ w = w' := by
  obtain ⟨mv, hb, ho, hm⟩ := hT
  have hkey := keyV k hk
  have c0 := cell_of hb 0
  simp at c0
  rcases hm with ⟨rfl, rfl⟩ | ⟨mb, D, rfl, h1, h2, h3, h4⟩
  · have hrun := look_nil (w := w) true strK Tryd.underlying97 (zeroStr w) hkey
    have e1 : valM [] k = ⟨#[]⟩ := rfl
    have e2 : hasM [] k = false := rfl
    rw [e1, e2]
    clear hb ho hkey hk e1 e2
    go_enter Tryd.func33, Tryd.ntmps33
    go_wp2_with fail
    go_returns
    exact ⟨rfl, rfl⟩
  · have hv := h4.val k
    have hh := h4.has k
    have HK := Lib.hid (And.intro h3 hkey)
    have hh2 : hasM M k = Maps.has D (litK k) := hh.symm
    rw [hh2]
    have HV := Lib.hid hv
    have HZ := Lib.hid (zeroStr w)
    clear hb ho hkey hk h1 h2 h3 h4 hv hh hh2
    go_enter Tryd.func33, Tryd.ntmps33
    go_wp2_with (at_lookup; refine wpList_lookup_own_ok _ rfl _ _ 97 rfl 9 9 strK Tryd.underlying97 strR HZ.out (.lit (.string [])) [] (strR_mk ⟨#[]⟩ (by unfold maxLen; decide)) mb M.length D rfl HK.out.1 _ _ rfl HK.out.2 ?_; intro v ps hvr)
    obtain ⟨s, rfl, hz, _⟩ := strR_inv hvr
    rw [HV.out] at hz
    have hs : valM M k = s := by
      have h5 := (Prod.mk.inj hz).1
      injection h5 with h5
      injection h5 with h5
      exact ByteArray.ext (Array.toList_inj.1 h5)
    have HS := Lib.hid hs
    clear hvr hz hs
    go_wp2_with fail
    go_returns
    exact ⟨by rw [HS.out]; rfl, rfl⟩
end Go.Proofs.YtemndmhdlgfajaaDoor

namespace Go.Proofs.YtemndmhdlgfajaaDoor
open Go.RowKit Go.Maps
attribute [local irreducible] shaL

set_option maxRecDepth 100000 in
theorem tleaf_any (k v : ByteArray) (hk : k.size ≤ 1000000000) (hv : v.size ≤ 1000000000) (w : World) (hr : ShaReady w) :
    Calls Tryd.prog 38 #[.string k, .string v] w fun e w' => e = .returned (.string (leafS k v)) ∧ w.grownBy w' none := by
  have ht := Lib.hid (tagged_new w 9 [k, v] _ 2 9 rfl rfl rfl hr (by simp) (by
    intro s hs'
    simp at hs'
    rcases hs' with rfl | rfl <;> omega))
  have h16 := tag16 9 [k, v]
  have hL : leafS k v = ⟨#[1]⟩ ++ tagS 9 [k, v] := rfl
  rw [hL]
  generalize tagS 9 [k, v] = T at ht h16
  have q1 : (9223372036854775807 < (⟨#[1]⟩ : ByteArray).size + T.size) = False := eq_false (by rw [h16]; decide)
  have q2 : (9223372036854775807 < 1 + T.size) = False := eq_false (by rw [h16]; decide)
  clear hr hL h16
  go_enter Tryd.func38, Tryd.ntmps38
  go_wp2_with fail
  refine ht.out.mono ?_
  rintro e w1 ⟨rfl, g1⟩
  have G1 := Lib.hid g1
  clear g1
  go_wp2_with fail
  go_ret
  exact ⟨rfl, G1.out⟩
theorem head_one (s : ByteArray) (h : 1 ≤ s.size) : ((s.extract 0 1).toList == [1]) = (headB s == 1) := by
  obtain ⟨⟨l⟩⟩ := s
  rw [ByteArray.toList_eq]
  match l, h with
  | [], h => exact absurd h (by decide)
  | x :: r, _ =>
    have e : (ByteArray.extract ⟨⟨x :: r⟩⟩ 0 1).data.toList = [x] := by
      rw [ByteArray.data_extract, Array.toList_extract]
      rfl
    rw [e]
    show ([x] == [1]) = (x == 1)
    rw [Bool.eq_iff_iff]
    simp
theorem isLeaf_any (s : ByteArray) (hs : s.size ≤ maxLen) (w : World) : Calls Tryd.prog 88 #[.string s] w fun e w' => e = .returned (.bool (leafB s)) ∧ w = w' := by
  unfold maxLen at hs
  by_cases h : s.size = 17
  · have h1 : ((s.size : Int) == 17) = true := by simp; omega
    have h2 : (1 : Int) ≤ (s.size : Int) := by omega
    have hb : leafB s = ((s.extract 0 1).toList == [1]) := by rw [head_one s (by omega)]; unfold leafB; simp [h]
    rw [hb]
    clear hb
    go_enter Tryd.func88, Tryd.ntmps88
    go_wp2_with fail
    go_ret
    exact ⟨rfl, rfl⟩
  · have h1 : ((s.size : Int) == 17) = false := by simp; omega
    have hb : leafB s = false := by unfold leafB; simp [h]
    rw [hb]
    clear hb
    go_enter Tryd.func88, Tryd.ntmps88
    go_wp2_with fail
    go_ret
    exact ⟨rfl, rfl⟩
theorem is_empty (s : ByteArray) : (s.toList == [0]) = decide (s = emptyS) := by
  rw [ByteArray.toList_eq, Bool.eq_iff_iff, beq_iff_eq, decide_eq_true_iff]
  constructor
  · intro h
    exact ByteArray.ext (Array.toList_inj.1 (h.trans rfl))
  · rintro rfl
    rfl
set_option maxRecDepth 100000 in
theorem join_any (a b : ByteArray) (ha : a.size ≤ 1000000000) (hb : b.size ≤ 1000000000) (w : World) (hr : ShaReady w) :
    Calls Tryd.prog 76 #[.string a, .string b] w fun e w' => e = .returned (.string (joinN a b)) ∧ w.grownBy w' none := by
  have ht : Hid (∀ w0, w.grownBy w0 none → Calls Tryd.prog 45 #[.int .u8 10, .slice (some ⟨w0.heap.size, 0, none⟩) 2 2] (w0.alloc (.cells #[.string a, .string b] 9)) fun e w' => e = .returned (.string (tagS 10 [a, b])) ∧ w0.grownBy w' none) := Lib.hid (fun w0 g => tagged_new w0 10 [a, b] _ 2 10 rfl rfl rfl (hr.grown g) (by simp) (by
    intro s hs'
    simp at hs'
    rcases hs' with rfl | rfl <;> omega))
  have hla := Lib.hid (fun w0 => isLeaf_any a (by unfold maxLen; omega) w0)
  have hlb := Lib.hid (fun w0 => isLeaf_any b (by unfold maxLen; omega) w0)
  have h16 := tag16 10 [a, b]
  have hB : bothS a b = ⟨#[2]⟩ ++ tagS 10 [a, b] := rfl
  have HJ := Lib.hid (show joinN a b = if a = emptyS ∧ (b = emptyS ∨ leafB b = true) then b else if b = emptyS ∧ leafB a = true then a else bothS a b from rfl)
  generalize joinN a b = J at HJ ⊢
  rw [hB] at HJ
  generalize tagS 10 [a, b] = T at ht h16 HJ
  have q1 : (9223372036854775807 < (⟨#[2]⟩ : ByteArray).size + T.size) = False := eq_false (by rw [h16]; decide)
  have q2 : (9223372036854775807 < 1 + T.size) = False := eq_false (by rw [h16]; decide)
  have ea := is_empty a
  have eb := is_empty b
  obtain ⟨la, hlae⟩ : ∃ x, leafB a = x := ⟨_, rfl⟩
  obtain ⟨lb, hlbe⟩ : ∃ x, leafB b = x := ⟨_, rfl⟩
  rw [hlae] at hla HJ
  rw [hlbe] at hlb HJ
  clear hr hB h16 hlae hlbe
  by_cases h1 : a = emptyS
  · have ea1 : (a.toList == [0]) = true := by rw [ea]; simpa using h1
    by_cases h2 : b = emptyS
    · have eb1 : (b.toList == [0]) = true := by rw [eb]; simpa using h2
      have hj : J = b := by rw [HJ.out, if_pos ⟨h1, .inl h2⟩]
      subst hj
      clear ea eb h1 h2 HJ
      go_enter Tryd.func76, Tryd.ntmps76
      go_wp2_with fail
      go_ret
      exact ⟨rfl, World.grownBy.refl _ _⟩
    · have eb1 : (b.toList == [0]) = false := by rw [eb]; simpa using h2
      cases lb
      · have hj : J = ⟨#[2]⟩ ++ T := by rw [HJ.out, if_neg (by simp [h2]), if_neg (by simp [h2])]
        subst hj
        clear ea eb h1 h2 HJ
        go_enter Tryd.func76, Tryd.ntmps76
        go_wp2_with fail
        refine (hlb.out _).mono ?_
        rintro e w1 ⟨rfl, rfl⟩
        go_wp2_with fail
        refine (ht.out _ (World.grownBy.refl _ _)).mono ?_
        rintro e w2 ⟨rfl, g2⟩
        have G2 := Lib.hid g2
        clear g2
        go_wp2_with fail
        go_ret
        exact ⟨rfl, G2.out⟩
      · have hj : J = b := by rw [HJ.out, if_pos ⟨h1, .inr rfl⟩]
        subst hj
        clear ea eb h1 h2 HJ
        go_enter Tryd.func76, Tryd.ntmps76
        go_wp2_with fail
        refine (hlb.out _).mono ?_
        rintro e w1 ⟨rfl, rfl⟩
        go_wp2_with fail
        go_ret
        exact ⟨rfl, World.grownBy.refl _ _⟩
  · have ea1 : (a.toList == [0]) = false := by rw [ea]; simpa using h1
    by_cases h2 : b = emptyS
    · have eb1 : (b.toList == [0]) = true := by rw [eb]; simpa using h2
      cases la
      · have hj : J = ⟨#[2]⟩ ++ T := by rw [HJ.out, if_neg (by simp [h1]), if_neg (by simp)]
        subst hj
        clear ea eb h1 h2 HJ
        go_enter Tryd.func76, Tryd.ntmps76
        go_wp2_with fail
        refine (hla.out _).mono ?_
        rintro e w1 ⟨rfl, rfl⟩
        go_wp2_with fail
        refine (ht.out _ (World.grownBy.refl _ _)).mono ?_
        rintro e w2 ⟨rfl, g2⟩
        have G2 := Lib.hid g2
        clear g2
        go_wp2_with fail
        go_ret
        exact ⟨rfl, G2.out⟩
      · have hj : J = a := by rw [HJ.out, if_neg (by simp [h1]), if_pos ⟨h2, rfl⟩]
        subst hj
        clear ea eb h1 h2 HJ
        go_enter Tryd.func76, Tryd.ntmps76
        go_wp2_with fail
        refine (hla.out _).mono ?_
        rintro e w1 ⟨rfl, rfl⟩
        go_wp2_with fail
        go_ret
        exact ⟨rfl, World.grownBy.refl _ _⟩
    · have eb1 : (b.toList == [0]) = false := by rw [eb]; simpa using h2
      have hj : J = ⟨#[2]⟩ ++ T := by rw [HJ.out, if_neg (by simp [h1]), if_neg (by simp [h2])]
      subst hj
      clear ea eb h1 h2 HJ
      go_enter Tryd.func76, Tryd.ntmps76
      go_wp2_with fail
      refine (ht.out _ (World.grownBy.refl _ _)).mono ?_
      rintro e w2 ⟨rfl, g2⟩
      have G2 := Lib.hid g2
      clear g2
      go_wp2_with fail
      go_ret
      exact ⟨rfl, G2.out⟩
end Go.Proofs.YtemndmhdlgfajaaDoor

namespace Go.Proofs.YtemndmhdlgfajaaDoor
open Go.RowKit Go.Maps Go.Sort
attribute [local irreducible] shaL

/-- keys met so far that are wanted: no key twice -/
def Coll (D : DatU) (P : List UInt8 → Bool) (left : Lit → Bool) (ss : List (List UInt8)) : Prop := ss.Nodup ∧ ∀ x, x ∈ ss ↔ (Maps.has D (.string x) = true ∧ left (.string x) = false ∧ P x = true)
theorem Coll.start (D : DatU) (P : List UInt8 → Bool) : Coll D P (Maps.has D) [] := ⟨List.nodup_nil, fun x => by cases Maps.has D (.string x) <;> simp⟩
theorem Coll.yes {D : DatU} {P : List UInt8 → Bool} {left : Lit → Bool} {ss : List (List UInt8)} (h : Coll D P left ss) {x : List UInt8} {y : DatU} (hlk : left (.string x) = true) (hat : ∀ zd, D.atKey (.string x) zd = y) (hp : P x = true) : Coll D P (fun z => left z && !z.sameKey (.string x)) (ss ++ [x]) := by
  have hhas : Maps.has D (.string x) = true := has_true_of_atKey hat
  have hnew : x ∉ ss := fun hx => by have := ((h.2 x).1 hx).2.1; rw [hlk] at this; cases this
  refine ⟨List.nodup_append.2 ⟨h.1, by simp, fun a ha b hb => by simp at hb; subst hb; exact fun e => hnew (e ▸ ha)⟩, fun y => ?_⟩
  by_cases hy : y = x
  · subst hy; simp [hhas, hp, Lit.sameKey]
  · simp [h.2 y, hy, Lit.sameKey]
theorem Coll.no {D : DatU} {P : List UInt8 → Bool} {left : Lit → Bool} {ss : List (List UInt8)} (h : Coll D P left ss) {x : List UInt8} (hlk : left (.string x) = true) (hp : P x = false) : Coll D P (fun z => left z && !z.sameKey (.string x)) ss := by
  refine ⟨h.1, fun y => ?_⟩
  by_cases hy : y = x
  · subst hy
    have : y ∉ ss := fun hx => by have := ((h.2 y).1 hx).2.1; rw [hlk] at this; cases this
    simp [this, hp]
  · simp [h.2 y, hy, Lit.sameKey]
/-- the keys that are wanted, rising -/
def sortK (M : List PairS) (P : ByteArray → Bool) : List ByteArray := (((M.filter fun x => P x.1).map fun x => x.1.data.toList).mergeSort fun x y => decide (x ≤ y)).map str
theorem list_inj {a b : ByteArray} (h : a.data.toList = b.data.toList) : a = b := ByteArray.ext (Array.toList_inj.1 h)
theorem Coll.perm {D : DatU} {M : List PairS} {P : ByteArray → Bool} {left : Lit → Bool} {ss : List (List UInt8)} (h : Coll D (fun l => P (str l)) left ss) (hI : IsM D M) (hl : ∀ kl, left kl = false) : ss.Perm ((M.filter fun x => P x.1).map fun x => x.1.data.toList) := by
  refine (List.perm_ext_iff_of_nodup h.1 ?_).2 fun x => ?_
  · refine List.pairwise_map.2 ((hI.one.filter _).imp fun {a b} hne e => hne (list_inj e))
  · rw [h.2 x, hl]
    have h1 := hI.has (str x)
    have h2 : litK (str x) = .string x := rfl
    rw [h2] at h1
    rw [h1, List.mem_map, List.any_eq_true]
    constructor
    · rintro ⟨⟨p, hp, hk⟩, _, hP⟩
      have hk' : p.1 = str x := by simpa using hk
      refine ⟨p, List.mem_filter.2 ⟨hp, ?_⟩, by rw [hk']; rfl⟩
      rw [hk']
      exact hP
    · rintro ⟨p, hp, hk⟩
      have h3 := List.mem_filter.1 hp
      have hk' : p.1 = str x := list_inj hk
      refine ⟨⟨p, h3.1, by simpa using hk'⟩, rfl, ?_⟩
      show P (str x) = true
      rw [← hk']
      exact h3.2
theorem enc_strs (ss : List (List UInt8)) : ss.map encStr = strsV (ss.map str) := by
  unfold strsV
  rw [List.map_map]
  rfl
theorem own_low {w : World} {B B' n : Nat} {t : TypeId} {v : Value} {xs : List Value} (h : w.ownsRow B t 1 v n xs) (hb : B' ≤ B) : w.ownsRow B' t 1 v n xs := by
  refine ⟨h.1, ?_⟩
  rcases h.2 with h' | ⟨g, cap, cur, rfl, hB, r⟩
  · exact .inl h'
  · exact .inr ⟨g, cap, cur, rfl, Nat.le_trans hb hB, r⟩
theorem own_keep {w w' : World} {B n : Nat} {t : TypeId} {v : Value} {xs : List Value} {row : Option Nat} (h : w.ownsRow B t 1 v n xs) (k : w.grownBy w' row) (hne : ∀ x, v.ownBlock = some x → row ≠ some x) : w'.ownsRow B t 1 v n xs := by
  refine ⟨h.1, ?_⟩
  rcases h.2 with h' | ⟨g, cap, cur, rfl, hB, hg, r⟩
  · exact .inl h'
  · exact .inr ⟨g, cap, cur, rfl, hB, (k.block g (Array.getElem?_eq_some_iff.1 hg).1 (fun e => hne g rfl e.symm)).trans hg, r⟩
theorem sortK_nil (P : ByteArray → Bool) : sortK [] P = [] := by simp [sortK]
theorem sorted_strs {M : List PairS} {P : ByteArray → Bool} {ss : List (List UInt8)} (h : ss.Perm ((M.filter fun x => P x.1).map fun x => x.1.data.toList)) : (ss.mergeSort fun x y => decide (x ≤ y)).map str = sortK M P := by
  unfold sortK
  rw [mergeSort_of_perm h]
/-- all keys, rising -/
def keysM (M : List PairS) : List ByteArray := sortK M fun _ => true
end Go.Proofs.YtemndmhdlgfajaaDoor

namespace Go.Proofs.YtemndmhdlgfajaaDoor
open Go.RowKit Go.Maps
attribute [local irreducible] shaL

/-- the first one that is meant, or -1 -/
def firstI (L : List ByteArray) (P : ByteArray → Bool) : Int := match L.findIdx? P with
  | some i => i
  | none => -1
theorem firstI_at (L : List ByteArray) (P : ByteArray → Bool) (k : Nat) (hk : k < L.length) (hp : P L[k] = true) (hn : ∀ j, (h : j < L.length) → j < k → P L[j] = false) : firstI L P = k := by
  have : L.findIdx? P = some k := by
    rw [List.findIdx?_eq_some_iff_getElem]
    exact ⟨hk, hp, fun j hj => by simp [hn j (by omega) hj]⟩
  unfold firstI
  rw [this]
theorem firstI_none (L : List ByteArray) (P : ByteArray → Bool) (hn : ∀ j, (h : j < L.length) → P L[j] = false) : firstI L P = -1 := by
  have : L.findIdx? P = none := by
    rw [List.findIdx?_eq_none_iff]
    intro x hx
    obtain ⟨j, hj, rfl⟩ := List.getElem_of_mem hx
    exact hn j hj
  unfold firstI
  rw [this]
end Go.Proofs.YtemndmhdlgfajaaDoor

namespace Go.Proofs.YtemndmhdlgfajaaDoor
open Go.RowKit Go.Maps

/-- j places have been looked at; what is kept of them, i texts, lies at the row's head; from place j on the row is as it was -/
structure KeptL (q : ByteArray → Bool) (L cur : List ByteArray) (i j : Nat) : Prop where
  len : cur.length = L.length
  lt : i < j
  low : cur.take i = (L.take j).filter q
  high : cur.drop j = L.drop j
theorem take_succ_at {L : List ByteArray} {j : Nat} {x : ByteArray} (h : L[j]? = some x) : L.take (j + 1) = L.take j ++ [x] := by
  rw [List.take_add_one, h]
  rfl
theorem KeptL.start (q : ByteArray → Bool) (L : List ByteArray) (k : Nat) (hk : k < L.length) (hp : q L[k] = false) (hn : ∀ j, (h : j < L.length) → j < k → q L[j] = true) : KeptL q L L k (k + 1) := by
  refine ⟨rfl, Nat.lt_succ_self _, ?_, rfl⟩
  rw [take_succ_at (List.getElem?_eq_getElem hk), List.filter_append, List.filter_eq_self.2]
  · simp [hp]
  · intro x hx
    obtain ⟨j, hj, rfl⟩ := List.getElem_of_mem hx
    simp at hj
    simp only [List.getElem_take]
    exact hn j (by omega) (by omega)
theorem KeptL.at_ {q : ByteArray → Bool} {L cur : List ByteArray} {i j : Nat} (h : KeptL q L cur i j) (t : Nat) (ht : j ≤ t) : cur[t]? = L[t]? := by
  have h1 : (cur.drop j)[t - j]? = (L.drop j)[t - j]? := by rw [h.high]
  rw [List.getElem?_drop, List.getElem?_drop, show j + (t - j) = t from by omega] at h1
  exact h1
theorem KeptL.keep {q : ByteArray → Bool} {L cur : List ByteArray} {i j : Nat} (h : KeptL q L cur i j) {x : ByteArray} (hx : L[j]? = some x) (hq : q x = true) : KeptL q L (cur.set i x) (i + 1) (j + 1) := by
  have hj : j < L.length := (List.getElem?_eq_some_iff.1 hx).1
  have hl := h.len
  have hlt := h.lt
  refine ⟨by simpa using hl, by omega, ?_, ?_⟩
  · rw [take_succ_at hx, List.filter_append, ← h.low, List.take_add_one, List.getElem?_set_self (by omega), List.take_set_of_le (Nat.le_refl _)]
    simp [hq]
  · rw [List.drop_set_of_lt (by omega)]
    have h1 := h.high
    have : (cur.drop j).drop 1 = (L.drop j).drop 1 := by rw [h1]
    simpa [List.drop_drop] using this
theorem KeptL.skip {q : ByteArray → Bool} {L cur : List ByteArray} {i j : Nat} (h : KeptL q L cur i j) {x : ByteArray} (hx : L[j]? = some x) (hq : q x = false) : KeptL q L cur i (j + 1) := by
  refine ⟨h.len, by have := h.lt; omega, ?_, ?_⟩
  · rw [take_succ_at hx, List.filter_append, ← h.low]
    simp [hq]
  · have h1 := h.high
    have : (cur.drop j).drop 1 = (L.drop j).drop 1 := by rw [h1]
    simpa [List.drop_drop] using this
theorem KeptL.count {q : ByteArray → Bool} {L cur : List ByteArray} {i : Nat} (h : KeptL q L cur i L.length) : (L.filter q).length = i ∧ cur.take i = L.filter q := by
  have h1 := h.low
  rw [List.take_length] at h1
  refine ⟨?_, h1⟩
  rw [← h1, List.length_take, h.len]
  have := h.lt
  omega
theorem KeptL.few {q : ByteArray → Bool} {L cur : List ByteArray} {i j : Nat} (h : KeptL q L cur i j) (hj : j ≤ L.length) : i < L.length := by have := h.lt; omega

/-- a list whose places from o on are set, one by one -/
def setL : List Value → Nat → List Value → List Value
  | xs, _, [] => xs
  | xs, o, v :: r => setL (xs.set o v) (o + 1) r
theorem setL_take : ∀ (vs xs : List Value) (o : Nat), (setL xs o vs).take o = xs.take o
  | [], _, _ => rfl
  | v :: r, xs, o => by
    have h1 := setL_take r (xs.set o v) (o + 1)
    have h2 : ((setL (xs.set o v) (o + 1) r).take (o + 1)).take o = ((xs.set o v).take (o + 1)).take o := by rw [h1]
    rw [List.take_take, List.take_take, Nat.min_eq_left (by omega)] at h2
    show (setL (xs.set o v) (o + 1) r).take o = xs.take o
    rw [h2, List.take_set_of_le (Nat.le_refl _)]
theorem own_setCells {base : Nat} {e : TypeId} {g n cap : Nat} : ∀ (vs xs : List Value) (o : Nat) (w : World), w.ownsRow base e 1 (.slice (some ⟨g, 0, none⟩) n cap) n xs →
    (w.setCells g o vs).ownsRow base e 1 (.slice (some ⟨g, 0, none⟩) n cap) n (setL xs o vs) ∧ w.grownBy (w.setCells g o vs) (some g)
  | [], xs, o, w, h => ⟨h, World.grownBy.refl _ _⟩
  | v :: r, xs, o, w, h => by
    have h1 := h.stored o v
    have h2 := own_setCells r (xs.set o v) (o + 1) (w.setCell ⟨g, o, none⟩ v) h1.1
    exact ⟨h2.1, h1.2.trans h2.2⟩
theorem own_take {w : World} {base : Nat} {e : TypeId} {g n cap : Nat} {xs : List Value} (h : w.ownsRow base e 1 (.slice (some ⟨g, 0, none⟩) n cap) n xs) (i : Nat) (hi : i ≤ n) : w.ownsRow base e 1 (.slice (some ⟨g, 0, none⟩) i cap) i (xs.take i) := by
  have hl := h.1
  refine ⟨by simp; omega, ?_⟩
  rcases h.2 with ⟨h', _⟩ | ⟨g', cap', cur, h', hb, hg, hnc, hcm, hcs, htake⟩
  · simp at h'
  · simp only [Value.slice.injEq, Option.some.injEq, Addr.mk.injEq, and_true, true_and] at h'
    obtain ⟨rfl, rfl⟩ := h'
    refine .inr ⟨g, cap, cur, rfl, hb, hg, by omega, hcm, hcs, ?_⟩
    rw [← htake, List.take_take, Nat.mul_one, Nat.mul_one, Nat.min_eq_left hi]
end Go.Proofs.YtemndmhdlgfajaaDoor

namespace Go.Proofs.YtemndmhdlgfajaaDoor
open Go.RowKit Go.Maps
attribute [local irreducible] shaL

theorem zero_str (w : World) : (zeroValue 9).run Tryd.prog w = .ok (.string ⟨#[]⟩) w := by
  obtain ⟨i0, hi, hz0, hz1, hz2⟩ := info_parts infoStrW
  simp [zeroValue, typeInfo, hi, hz0]
theorem clear_strs (w : World) (ty : TypeId) (b o n c : Nat) (hn : 0 < n) (hc : ∀ j, j < n → (w.cell? ⟨b, o + j, none⟩).isSome = true) (hf : ∀ j, j < n → w.frozen? ⟨b, o + j, none⟩ = false) :
    (Builtin.clear_ #[26] ty #[.slice (some ⟨b, o, none⟩) n c]).run Tryd.prog w = .ok (.tuple #[]) (w.setCells b o (List.replicate n (.string ⟨#[]⟩))) :=
  Lib.run_clear_slice w 26 9 ty (.string ⟨#[]⟩) Tryd.underlying26 zero_str rfl rfl b o n c hn hc hf
theorem str_cell {w : World} {B g n c : Nat} {L : List ByteArray} (h : w.ownsRow B 9 1 (.slice (some ⟨g, 0, none⟩) n c) n (strsV L)) {j : Nat} {x : ByteArray} (hx : L[j]? = some x) : w.cell? ⟨g, j, none⟩ = some (.string x) := by
  have hl := h.1
  have hj := (List.getElem?_eq_some_iff.1 hx).1
  rw [strsV_length] at hl
  rw [h.cellAt j (by omega)]
  simp [strsV, hx]
theorem strsV_set (L : List ByteArray) (i : Nat) (x : ByteArray) : (strsV L).set i (.string x) = strsV (L.set i x) := by simp [strsV, List.map_set]
theorem strsV_take (L : List ByteArray) (i : Nat) : (strsV L).take i = strsV (L.take i) := by simp [strsV, List.map_take]
end Go.Proofs.YtemndmhdlgfajaaDoor

namespace Go.Proofs.YtemndmhdlgfajaaDoor
open Go.RowKit Go.Maps
attribute [local irreducible] shaL

/-- a node of bytes, of which the first is this one -/
def beginsB (s : ByteArray) (m : UInt8) : Bool := decide (s.size = 17) && (headB s == m)
end Go.Proofs.YtemndmhdlgfajaaDoor

namespace Go.Proofs.YtemndmhdlgfajaaDoor
open Go.RowKit Go.Maps
attribute [local irreducible] shaL

def likeL (key : ByteArray) (d : Nat) (L : List ByteArray) : List ByteArray := L.filter fun x => belowB x key d
end Go.Proofs.YtemndmhdlgfajaaDoor

namespace Go.Proofs.YtemndmhdlgfajaaDoor
open Go.RowKit

set_option maxRecDepth 100000 in
set_option maxHeartbeats 8000000 in
theorem round5 {w wr : World} {bk bh A k j at' : Nat} {u : ByteArray} {blk : List UInt8} {L : List Nat} {x_1 x_2 x_3 x_4 x_5 x_6 x_11 x_12 x_13 x_14 x_15 x_16 x_17 x_18 x_19 x_20 x_21 x_22 x_23 x_24 x_25 x_26 x_27 x_28 x_29 x_30 x_31 x_32 x_33 x_34 x_35 x_36 x_37 x_38 x_39 x_40 x_41 x_42 x_43 x_44 x_45 x_46 x_47 x_48 x_49 x_50 x_51 x_52 x_53 x_54 x_55 x_56 x_57 x_58 x_59 x_60 x_61 x_62 x_63 x_64 x_65 x_66 x_67 x_68 x_69 x_70 x_71 x_72 x_73 x_74 x_75 x_76 x_77 x_78 x_79 x_80 x_81 x_82 x_83 x_84 x_85 x_86 x_87 x_88 x_89 x_90 x_91 x_92 x_93 x_94 x_95 x_96 x_97 x_98 x_99 x_100 x_101 x_102 x_103 x_104 x_105 x_106 x_107 x_108 x_109 x_110 x_111 x_112 x_113 x_114 x_115 x_116 x_117 x_118 x_119 x_120 x_121 x_122 x_123 x_124 x_125 x_126 x_127 x_128 x_129 x_130 x_131 x_132 x_133 x_134 x_135 x_136 x_137 x_138 x_139 x_140 x_141 x_142 x_143 x_144 x_145 x_146 x_147 x_148 x_149 x_150 x_151 x_152 x_153 x_154 x_155 x_156 x_157 x_158 x_159 x_160 x_161 x_162 x_163 x_164 x_165 x_166 x_167 x_168 x_169 x_170 x_171 x_172 x_173 x_174 x_175 x_176 x_177 x_178 x_179 x_180 x_181 x_182 x_183 x_184 x_185 x_186 x_187 x_188 x_189 x_190 x_191 x_192 x_193 x_194 x_195 x_196 x_197 x_198 x_199 x_200 x_201 x_202 x_203 x_204 x_205 x_206 x_207 x_208 x_209 x_210 x_211 x_212 x_213 x_214 x_215 x_216 x_217 x_218 x_219 x_220 x_221 x_222 x_223 x_224 x_225 x_226 x_227 x_228 x_229 x_230 x_231 x_232 x_233 x_234 x_235 x_236 x_237 x_238 x_239 x_240 x_241 x_242 x_243 x_244 x_245 x_246 x_247 x_248 x_249 x_250 x_251 x_252 x_253 x_254 x_255 x_256 x_257 x_258 x_259 x_260 x_261 x_262 x_263 x_264 x_265 x_266 x_267 x_268 x_269 x_270 x_271 x_272 x_273 x_274 x_275 x_276 x_277 x_278 x_279 x_280 x_281 x_282 x_283 x_284 x_285 x_286 x_287 x_288 x_289 x_290 x_291 x_292 x_293 x_294 x_295 x_296 x_297 x_298 x_299 x_300 x_301 x_302 x_303 x_304 x_305 x_306 x_307 x_308 x_309 : Value} {K : Act → World → Prop} {Q0 : Exit → Act → World → Prop}
    (hlt : k < 16) (hjl : j < 4) (hb64 : at' + 64 ≤ u.size) (hul2 : u.size ≤ 1000200) (HBYT : Hid (∀ i (hi : i < 64), (u[at' + i]'(by omega)).toNat = (blk.getD i 0).toNat)) (HB : Hid (BW w wr bk bh A L ((wordsZ blk k).set k (part blk k j))))
    (HX : Hid (∀ (y_63 y_64 y_65 y_66 y_67 y_68 y_69 y_70 y_71 y_72 y_73 y_74 y_75 y_76 y_77 y_78 y_79 y_80 y_81 y_82 y_83 y_84 : Value) (w2 : World), Hid (BW w w2 bk bh A L ((wordsZ blk k).set k (part blk k (j + 1)))) →
      K ⟨List.toArray (.string u :: x_1 :: x_2 :: x_3 :: x_4 :: x_5 :: x_6 :: .int .i64 at' :: .slice (some ⟨A, 0, none⟩) 64 64 :: .int .i64 k :: .int .i64 ((j : Int) + 1) :: x_11 :: x_12 :: x_13 :: x_14 :: x_15 :: x_16 :: x_17 :: x_18 :: x_19 :: x_20 :: x_21 :: x_22 :: x_23 :: x_24 :: x_25 :: x_26 :: x_27 :: x_28 :: x_29 :: x_30 :: x_31 :: x_32 :: x_33 :: x_34 :: x_35 :: x_36 :: x_37 :: x_38 :: x_39 :: x_40 :: x_41 :: x_42 :: x_43 :: x_44 :: x_45 :: x_46 :: x_47 :: x_48 :: x_49 :: x_50 :: x_51 :: x_52 :: x_53 :: x_54 :: x_55 :: x_56 :: x_57 :: x_58 :: x_59 :: x_60 :: x_61 :: x_62 :: y_63 :: y_64 :: y_65 :: y_66 :: y_67 :: y_68 :: y_69 :: y_70 :: y_71 :: y_72 :: y_73 :: y_74 :: y_75 :: y_76 :: y_77 :: y_78 :: y_79 :: y_80 :: y_81 :: y_82 :: y_83 :: y_84 :: x_85 :: x_86 :: x_87 :: x_88 :: x_89 :: x_90 :: x_91 :: x_92 :: x_93 :: x_94 :: x_95 :: x_96 :: x_97 :: x_98 :: x_99 :: x_100 :: x_101 :: x_102 :: x_103 :: x_104 :: x_105 :: x_106 :: x_107 :: x_108 :: x_109 :: x_110 :: x_111 :: x_112 :: x_113 :: x_114 :: x_115 :: x_116 :: x_117 :: x_118 :: x_119 :: x_120 :: x_121 :: x_122 :: x_123 :: x_124 :: x_125 :: x_126 :: x_127 :: x_128 :: x_129 :: x_130 :: x_131 :: x_132 :: x_133 :: x_134 :: x_135 :: x_136 :: x_137 :: x_138 :: x_139 :: x_140 :: x_141 :: x_142 :: x_143 :: x_144 :: x_145 :: x_146 :: x_147 :: x_148 :: x_149 :: x_150 :: x_151 :: x_152 :: x_153 :: x_154 :: x_155 :: x_156 :: x_157 :: x_158 :: x_159 :: x_160 :: x_161 :: x_162 :: x_163 :: x_164 :: x_165 :: x_166 :: x_167 :: x_168 :: x_169 :: x_170 :: x_171 :: x_172 :: x_173 :: x_174 :: x_175 :: x_176 :: x_177 :: x_178 :: x_179 :: x_180 :: x_181 :: x_182 :: x_183 :: x_184 :: x_185 :: x_186 :: x_187 :: x_188 :: x_189 :: x_190 :: x_191 :: x_192 :: x_193 :: x_194 :: x_195 :: x_196 :: x_197 :: x_198 :: x_199 :: x_200 :: x_201 :: x_202 :: x_203 :: x_204 :: x_205 :: x_206 :: x_207 :: x_208 :: x_209 :: x_210 :: x_211 :: x_212 :: x_213 :: x_214 :: x_215 :: x_216 :: x_217 :: x_218 :: x_219 :: x_220 :: x_221 :: x_222 :: x_223 :: x_224 :: x_225 :: x_226 :: x_227 :: x_228 :: x_229 :: x_230 :: x_231 :: x_232 :: x_233 :: x_234 :: x_235 :: x_236 :: x_237 :: x_238 :: x_239 :: x_240 :: x_241 :: x_242 :: x_243 :: x_244 :: x_245 :: x_246 :: x_247 :: x_248 :: x_249 :: x_250 :: x_251 :: x_252 :: x_253 :: x_254 :: x_255 :: x_256 :: x_257 :: x_258 :: x_259 :: x_260 :: x_261 :: x_262 :: x_263 :: x_264 :: x_265 :: x_266 :: x_267 :: x_268 :: x_269 :: x_270 :: x_271 :: x_272 :: x_273 :: x_274 :: x_275 :: x_276 :: x_277 :: x_278 :: x_279 :: x_280 :: x_281 :: x_282 :: x_283 :: x_284 :: x_285 :: x_286 :: x_287 :: x_288 :: x_289 :: x_290 :: x_291 :: x_292 :: x_293 :: x_294 :: x_295 :: x_296 :: x_297 :: x_298 :: x_299 :: x_300 :: x_301 :: x_302 :: x_303 :: x_304 :: x_305 :: x_306 :: x_307 :: x_308 :: x_309 :: []), []⟩ w2)) :
    Code.wp Tryd.prog (loopBody Tryd.f74 4) (Exit.then K Q0) ⟨List.toArray (.string u :: x_1 :: x_2 :: x_3 :: x_4 :: x_5 :: x_6 :: .int .i64 at' :: .slice (some ⟨A, 0, none⟩) 64 64 :: .int .i64 k :: .int .i64 j :: x_11 :: x_12 :: x_13 :: x_14 :: x_15 :: x_16 :: x_17 :: x_18 :: x_19 :: x_20 :: x_21 :: x_22 :: x_23 :: x_24 :: x_25 :: x_26 :: x_27 :: x_28 :: x_29 :: x_30 :: x_31 :: x_32 :: x_33 :: x_34 :: x_35 :: x_36 :: x_37 :: x_38 :: x_39 :: x_40 :: x_41 :: x_42 :: x_43 :: x_44 :: x_45 :: x_46 :: x_47 :: x_48 :: x_49 :: x_50 :: x_51 :: x_52 :: x_53 :: x_54 :: x_55 :: x_56 :: x_57 :: x_58 :: x_59 :: x_60 :: x_61 :: x_62 :: x_63 :: x_64 :: x_65 :: x_66 :: x_67 :: x_68 :: x_69 :: x_70 :: x_71 :: x_72 :: x_73 :: x_74 :: x_75 :: x_76 :: x_77 :: x_78 :: x_79 :: x_80 :: x_81 :: x_82 :: x_83 :: x_84 :: x_85 :: x_86 :: x_87 :: x_88 :: x_89 :: x_90 :: x_91 :: x_92 :: x_93 :: x_94 :: x_95 :: x_96 :: x_97 :: x_98 :: x_99 :: x_100 :: x_101 :: x_102 :: x_103 :: x_104 :: x_105 :: x_106 :: x_107 :: x_108 :: x_109 :: x_110 :: x_111 :: x_112 :: x_113 :: x_114 :: x_115 :: x_116 :: x_117 :: x_118 :: x_119 :: x_120 :: x_121 :: x_122 :: x_123 :: x_124 :: x_125 :: x_126 :: x_127 :: x_128 :: x_129 :: x_130 :: x_131 :: x_132 :: x_133 :: x_134 :: x_135 :: x_136 :: x_137 :: x_138 :: x_139 :: x_140 :: x_141 :: x_142 :: x_143 :: x_144 :: x_145 :: x_146 :: x_147 :: x_148 :: x_149 :: x_150 :: x_151 :: x_152 :: x_153 :: x_154 :: x_155 :: x_156 :: x_157 :: x_158 :: x_159 :: x_160 :: x_161 :: x_162 :: x_163 :: x_164 :: x_165 :: x_166 :: x_167 :: x_168 :: x_169 :: x_170 :: x_171 :: x_172 :: x_173 :: x_174 :: x_175 :: x_176 :: x_177 :: x_178 :: x_179 :: x_180 :: x_181 :: x_182 :: x_183 :: x_184 :: x_185 :: x_186 :: x_187 :: x_188 :: x_189 :: x_190 :: x_191 :: x_192 :: x_193 :: x_194 :: x_195 :: x_196 :: x_197 :: x_198 :: x_199 :: x_200 :: x_201 :: x_202 :: x_203 :: x_204 :: x_205 :: x_206 :: x_207 :: x_208 :: x_209 :: x_210 :: x_211 :: x_212 :: x_213 :: x_214 :: x_215 :: x_216 :: x_217 :: x_218 :: x_219 :: x_220 :: x_221 :: x_222 :: x_223 :: x_224 :: x_225 :: x_226 :: x_227 :: x_228 :: x_229 :: x_230 :: x_231 :: x_232 :: x_233 :: x_234 :: x_235 :: x_236 :: x_237 :: x_238 :: x_239 :: x_240 :: x_241 :: x_242 :: x_243 :: x_244 :: x_245 :: x_246 :: x_247 :: x_248 :: x_249 :: x_250 :: x_251 :: x_252 :: x_253 :: x_254 :: x_255 :: x_256 :: x_257 :: x_258 :: x_259 :: x_260 :: x_261 :: x_262 :: x_263 :: x_264 :: x_265 :: x_266 :: x_267 :: x_268 :: x_269 :: x_270 :: x_271 :: x_272 :: x_273 :: x_274 :: x_275 :: x_276 :: x_277 :: x_278 :: x_279 :: x_280 :: x_281 :: x_282 :: x_283 :: x_284 :: x_285 :: x_286 :: x_287 :: x_288 :: x_289 :: x_290 :: x_291 :: x_292 :: x_293 :: x_294 :: x_295 :: x_296 :: x_297 :: x_298 :: x_299 :: x_300 :: x_301 :: x_302 :: x_303 :: x_304 :: x_305 :: x_306 :: x_307 :: x_308 :: x_309 :: []), []⟩ wr := by
  conv => arg 2; whnf
  have c1 : wr.cell? ⟨A, k, none⟩ = some (.int .u64 (part blk k j)) := by
    rw [HB.out.x.cell k (by rw [List.length_set, wordsZ_length _ _ (by omega)]; omega), List.getD_eq_getElem?_getD, List.getElem?_set_self (by rw [wordsZ_length _ _ (by omega)]; omega)]
    rfl
  have f1 : wr.frozen? ⟨A, k, none⟩ = false := free_of HB.out.x k
  have hby := HBYT.out (4 * k + j) (by omega)
  have hp : part blk k j < 16777216 := part_lt3 blk k j hjl
  have hv := (blk.getD (4 * k + j) 0).toNat_lt
  obtain ⟨p, hP⟩ : ∃ p, part blk k j = p := ⟨_, rfl⟩
  obtain ⟨v, hV⟩ : ∃ v, (blk.getD (4 * k + j) 0).toNat = v := ⟨_, rfl⟩
  rw [hP] at c1 hp
  rw [hV] at hby hv
  have HP := Lib.hid hP
  have HV := Lib.hid hV
  clear hP hV
  have b1 : (0 : Int) ≤ (k : Int) := by omega
  have b2 : (k : Int) < 64 := by omega
  have b3 : (0 : Int) ≤ (at' : Int) + 4 * (k : Int) + j := by omega
  have b4 : (at' : Int) + 4 * (k : Int) + j < u.size := by omega
  have b5 : IntKind.i64.wrap (4 * (k : Int)) = 4 * (k : Int) := IntWalk.i64_in _ (by omega)
  have b6 : IntKind.i64.wrap ((at' : Int) + 4 * (k : Int)) = (at' : Int) + 4 * (k : Int) := IntWalk.i64_in _ (by omega)
  have b10 : IntKind.i64.wrap ((at' : Int) + 4 * (k : Int) + j) = (at' : Int) + 4 * (k : Int) + j := IntWalk.i64_in _ (by omega)
  have b7 : ((at' : Int) + 4 * (k : Int) + j).toNat = at' + (4 * k + j) := by omega
  have b8 : IntKind.u64.wrap (256 * (p : Int)) = 256 * (p : Int) := by
    simp only [IntKind.wrap, IntKind.bits, IntKind.signed, IntKind.min, IntKind.max]; simp; omega
  have b9 : IntKind.u64.wrap (v : Int) = (v : Int) := by
    simp only [IntKind.wrap, IntKind.bits, IntKind.signed, IntKind.min, IntKind.max]; simp; omega
  have b11 : IntKind.u64.wrap (256 * (p : Int) + v) = 256 * (p : Int) + v := by
    simp only [IntKind.wrap, IntKind.bits, IntKind.signed, IntKind.min, IntKind.max]; simp; omega
  have q : ∀ wX : World, (Instr.index 9 (.string u) (.int .i64 ((at' : Int) + 4 * (k : Int) + j))).run Tryd.prog wX = .ok (.int .u8 v) wX := by
    intro wX
    rw [run_index_string _ _ _ _ _ (by kernel_rfl), dif_pos ⟨b3, b4⟩]
    congr 2
    simp only [b7]
    rw [hby]
  have HBY := Lib.hid hby
  clear hby
  go_wp2_with fail
  go_still_tail 17, (by kernel_rfl)
  go_wp2_with fail
  refine HX.out _ _ _ _ _ _ _ _ _ _ _ _ _ _ _ _ _ _ _ _ _ _ _ ?_
  have := HB.out.put k (256 * p + v)
  rw [List.set_set] at this
  rw [part, HP.out, HV.out, Nat.mul_comm]
  show BW _ _ _ _ _ _ _
  simpa using this.drew
end Go.Proofs.YtemndmhdlgfajaaDoor

namespace Go.Proofs.YtemndmhdlgfajaaDoor
open Go.RowKit

set_option maxRecDepth 100000 in
set_option maxHeartbeats 8000000 in
theorem round8 {w wr : World} {bk bh gw caph capw i : Nat} {st t : St} {x_0 x_1 x_2 x_3 x_5 x_6 x_7 x_8 x_9 x_10 x_11 x_12 x_13 x_15 x_16 x_17 x_18 x_19 x_20 x_22 x_23 x_24 x_25 x_26 x_27 x_28 x_29 x_30 x_31 x_32 x_33 x_34 x_35 x_36 x_37 x_38 x_39 x_40 x_41 x_42 x_43 x_44 x_45 x_46 x_47 x_48 x_49 x_50 x_51 x_52 x_53 x_54 x_55 x_56 x_57 x_58 x_59 x_60 x_61 x_62 x_63 x_64 x_65 x_66 x_67 x_68 x_69 x_70 x_71 x_72 x_73 x_74 x_75 x_76 x_77 x_78 x_79 x_80 x_81 x_82 x_83 x_84 x_85 x_86 x_87 x_88 x_89 x_90 x_91 x_92 x_93 x_94 x_95 x_96 x_97 x_98 x_99 x_100 x_101 x_102 x_103 x_104 x_105 x_106 x_107 x_108 x_109 x_110 x_111 x_112 x_113 x_114 x_115 x_116 x_117 x_118 x_119 x_120 x_121 x_122 x_123 x_124 x_125 x_126 x_127 x_128 x_129 x_130 x_131 x_132 x_133 x_134 x_135 x_136 x_137 x_138 x_139 x_140 x_141 x_142 x_143 x_144 x_145 x_146 x_147 x_148 x_149 x_150 x_151 x_152 x_153 x_154 x_155 x_156 x_157 x_158 x_159 x_160 x_161 x_162 x_163 x_164 x_165 x_166 x_167 x_168 x_169 x_170 x_171 x_172 x_173 x_174 x_175 x_176 x_177 x_178 x_179 x_180 x_181 x_182 x_183 x_184 x_185 x_186 x_187 x_188 x_189 x_190 x_191 x_192 x_193 x_194 x_195 x_196 x_197 x_198 x_199 x_200 x_201 x_202 x_203 x_204 x_205 x_206 x_207 x_208 x_209 x_210 x_211 x_212 x_213 x_214 x_215 x_216 x_217 x_218 x_219 x_220 x_221 x_222 x_223 x_224 x_225 x_226 x_227 x_228 x_229 x_230 x_231 x_232 x_233 x_234 x_235 x_236 x_237 x_238 x_239 x_240 x_241 x_242 x_243 x_244 x_245 x_246 x_247 x_248 x_249 x_250 x_251 x_252 x_253 x_254 x_255 x_256 x_257 x_258 x_259 x_260 x_261 x_262 x_263 x_264 x_265 x_266 x_267 x_268 x_269 x_270 x_271 x_272 x_273 x_274 x_275 x_276 x_277 x_278 x_279 x_280 x_281 x_282 x_283 x_284 x_285 x_286 x_287 x_288 x_289 x_290 x_291 x_292 x_293 x_294 x_295 x_296 x_297 x_298 x_299 x_300 x_301 x_302 x_303 x_304 x_305 x_306 x_307 x_308 x_309 : Value} {K : Act → World → Prop} {Q0 : Exit → Act → World → Prop}
    (hlt : i < 8) (stOk : st.ok) (tOk : t.ok) (hgw : bh ≠ gw) (hBh : w.heap.size ≤ bh) (hkb : bk ≠ bh) (HR : Hid (RW w wr bk bh ((st.add t).list.take i ++ st.list.drop i))) (HV : Hid (∀ j, j < 8 → wr.cell? ⟨gw, j, none⟩ = some (.int .u64 (t.list.getD j 0 : Nat))))
    (HX : Hid (∀ (y_272 y_273 y_274 y_275 y_276 y_277 y_278 y_279 y_280 y_281 y_282 y_283 y_284 y_285 y_286 y_287 y_288 : Value) (w2 : World), Hid (RW w w2 bk bh ((st.add t).list.take (i + 1) ++ st.list.drop (i + 1))) ∧ Hid (∀ j, j < 8 → w2.cell? ⟨gw, j, none⟩ = some (.int .u64 (t.list.getD j 0 : Nat))) →
      K ⟨List.toArray (x_0 :: x_1 :: x_2 :: x_3 :: .slice (some ⟨bh, 0, none⟩) 8 caph :: x_5 :: x_6 :: x_7 :: x_8 :: x_9 :: x_10 :: x_11 :: x_12 :: x_13 :: .slice (some ⟨gw, 0, none⟩) 8 capw :: x_15 :: x_16 :: x_17 :: x_18 :: x_19 :: x_20 :: .int .i64 ((i : Int) + 1) :: x_22 :: x_23 :: x_24 :: x_25 :: x_26 :: x_27 :: x_28 :: x_29 :: x_30 :: x_31 :: x_32 :: x_33 :: x_34 :: x_35 :: x_36 :: x_37 :: x_38 :: x_39 :: x_40 :: x_41 :: x_42 :: x_43 :: x_44 :: x_45 :: x_46 :: x_47 :: x_48 :: x_49 :: x_50 :: x_51 :: x_52 :: x_53 :: x_54 :: x_55 :: x_56 :: x_57 :: x_58 :: x_59 :: x_60 :: x_61 :: x_62 :: x_63 :: x_64 :: x_65 :: x_66 :: x_67 :: x_68 :: x_69 :: x_70 :: x_71 :: x_72 :: x_73 :: x_74 :: x_75 :: x_76 :: x_77 :: x_78 :: x_79 :: x_80 :: x_81 :: x_82 :: x_83 :: x_84 :: x_85 :: x_86 :: x_87 :: x_88 :: x_89 :: x_90 :: x_91 :: x_92 :: x_93 :: x_94 :: x_95 :: x_96 :: x_97 :: x_98 :: x_99 :: x_100 :: x_101 :: x_102 :: x_103 :: x_104 :: x_105 :: x_106 :: x_107 :: x_108 :: x_109 :: x_110 :: x_111 :: x_112 :: x_113 :: x_114 :: x_115 :: x_116 :: x_117 :: x_118 :: x_119 :: x_120 :: x_121 :: x_122 :: x_123 :: x_124 :: x_125 :: x_126 :: x_127 :: x_128 :: x_129 :: x_130 :: x_131 :: x_132 :: x_133 :: x_134 :: x_135 :: x_136 :: x_137 :: x_138 :: x_139 :: x_140 :: x_141 :: x_142 :: x_143 :: x_144 :: x_145 :: x_146 :: x_147 :: x_148 :: x_149 :: x_150 :: x_151 :: x_152 :: x_153 :: x_154 :: x_155 :: x_156 :: x_157 :: x_158 :: x_159 :: x_160 :: x_161 :: x_162 :: x_163 :: x_164 :: x_165 :: x_166 :: x_167 :: x_168 :: x_169 :: x_170 :: x_171 :: x_172 :: x_173 :: x_174 :: x_175 :: x_176 :: x_177 :: x_178 :: x_179 :: x_180 :: x_181 :: x_182 :: x_183 :: x_184 :: x_185 :: x_186 :: x_187 :: x_188 :: x_189 :: x_190 :: x_191 :: x_192 :: x_193 :: x_194 :: x_195 :: x_196 :: x_197 :: x_198 :: x_199 :: x_200 :: x_201 :: x_202 :: x_203 :: x_204 :: x_205 :: x_206 :: x_207 :: x_208 :: x_209 :: x_210 :: x_211 :: x_212 :: x_213 :: x_214 :: x_215 :: x_216 :: x_217 :: x_218 :: x_219 :: x_220 :: x_221 :: x_222 :: x_223 :: x_224 :: x_225 :: x_226 :: x_227 :: x_228 :: x_229 :: x_230 :: x_231 :: x_232 :: x_233 :: x_234 :: x_235 :: x_236 :: x_237 :: x_238 :: x_239 :: x_240 :: x_241 :: x_242 :: x_243 :: x_244 :: x_245 :: x_246 :: x_247 :: x_248 :: x_249 :: x_250 :: x_251 :: x_252 :: x_253 :: x_254 :: x_255 :: x_256 :: x_257 :: x_258 :: x_259 :: x_260 :: x_261 :: x_262 :: x_263 :: x_264 :: x_265 :: x_266 :: x_267 :: x_268 :: x_269 :: x_270 :: x_271 :: y_272 :: y_273 :: y_274 :: y_275 :: y_276 :: y_277 :: y_278 :: y_279 :: y_280 :: y_281 :: y_282 :: y_283 :: y_284 :: y_285 :: y_286 :: y_287 :: y_288 :: x_289 :: x_290 :: x_291 :: x_292 :: x_293 :: x_294 :: x_295 :: x_296 :: x_297 :: x_298 :: x_299 :: x_300 :: x_301 :: x_302 :: x_303 :: x_304 :: x_305 :: x_306 :: x_307 :: x_308 :: x_309 :: []), []⟩ w2)) :
    Code.wp Tryd.prog (loopBody Tryd.f74 7) (Exit.then K Q0) ⟨List.toArray (x_0 :: x_1 :: x_2 :: x_3 :: .slice (some ⟨bh, 0, none⟩) 8 caph :: x_5 :: x_6 :: x_7 :: x_8 :: x_9 :: x_10 :: x_11 :: x_12 :: x_13 :: .slice (some ⟨gw, 0, none⟩) 8 capw :: x_15 :: x_16 :: x_17 :: x_18 :: x_19 :: x_20 :: .int .i64 i :: x_22 :: x_23 :: x_24 :: x_25 :: x_26 :: x_27 :: x_28 :: x_29 :: x_30 :: x_31 :: x_32 :: x_33 :: x_34 :: x_35 :: x_36 :: x_37 :: x_38 :: x_39 :: x_40 :: x_41 :: x_42 :: x_43 :: x_44 :: x_45 :: x_46 :: x_47 :: x_48 :: x_49 :: x_50 :: x_51 :: x_52 :: x_53 :: x_54 :: x_55 :: x_56 :: x_57 :: x_58 :: x_59 :: x_60 :: x_61 :: x_62 :: x_63 :: x_64 :: x_65 :: x_66 :: x_67 :: x_68 :: x_69 :: x_70 :: x_71 :: x_72 :: x_73 :: x_74 :: x_75 :: x_76 :: x_77 :: x_78 :: x_79 :: x_80 :: x_81 :: x_82 :: x_83 :: x_84 :: x_85 :: x_86 :: x_87 :: x_88 :: x_89 :: x_90 :: x_91 :: x_92 :: x_93 :: x_94 :: x_95 :: x_96 :: x_97 :: x_98 :: x_99 :: x_100 :: x_101 :: x_102 :: x_103 :: x_104 :: x_105 :: x_106 :: x_107 :: x_108 :: x_109 :: x_110 :: x_111 :: x_112 :: x_113 :: x_114 :: x_115 :: x_116 :: x_117 :: x_118 :: x_119 :: x_120 :: x_121 :: x_122 :: x_123 :: x_124 :: x_125 :: x_126 :: x_127 :: x_128 :: x_129 :: x_130 :: x_131 :: x_132 :: x_133 :: x_134 :: x_135 :: x_136 :: x_137 :: x_138 :: x_139 :: x_140 :: x_141 :: x_142 :: x_143 :: x_144 :: x_145 :: x_146 :: x_147 :: x_148 :: x_149 :: x_150 :: x_151 :: x_152 :: x_153 :: x_154 :: x_155 :: x_156 :: x_157 :: x_158 :: x_159 :: x_160 :: x_161 :: x_162 :: x_163 :: x_164 :: x_165 :: x_166 :: x_167 :: x_168 :: x_169 :: x_170 :: x_171 :: x_172 :: x_173 :: x_174 :: x_175 :: x_176 :: x_177 :: x_178 :: x_179 :: x_180 :: x_181 :: x_182 :: x_183 :: x_184 :: x_185 :: x_186 :: x_187 :: x_188 :: x_189 :: x_190 :: x_191 :: x_192 :: x_193 :: x_194 :: x_195 :: x_196 :: x_197 :: x_198 :: x_199 :: x_200 :: x_201 :: x_202 :: x_203 :: x_204 :: x_205 :: x_206 :: x_207 :: x_208 :: x_209 :: x_210 :: x_211 :: x_212 :: x_213 :: x_214 :: x_215 :: x_216 :: x_217 :: x_218 :: x_219 :: x_220 :: x_221 :: x_222 :: x_223 :: x_224 :: x_225 :: x_226 :: x_227 :: x_228 :: x_229 :: x_230 :: x_231 :: x_232 :: x_233 :: x_234 :: x_235 :: x_236 :: x_237 :: x_238 :: x_239 :: x_240 :: x_241 :: x_242 :: x_243 :: x_244 :: x_245 :: x_246 :: x_247 :: x_248 :: x_249 :: x_250 :: x_251 :: x_252 :: x_253 :: x_254 :: x_255 :: x_256 :: x_257 :: x_258 :: x_259 :: x_260 :: x_261 :: x_262 :: x_263 :: x_264 :: x_265 :: x_266 :: x_267 :: x_268 :: x_269 :: x_270 :: x_271 :: x_272 :: x_273 :: x_274 :: x_275 :: x_276 :: x_277 :: x_278 :: x_279 :: x_280 :: x_281 :: x_282 :: x_283 :: x_284 :: x_285 :: x_286 :: x_287 :: x_288 :: x_289 :: x_290 :: x_291 :: x_292 :: x_293 :: x_294 :: x_295 :: x_296 :: x_297 :: x_298 :: x_299 :: x_300 :: x_301 :: x_302 :: x_303 :: x_304 :: x_305 :: x_306 :: x_307 :: x_308 :: x_309 :: []), []⟩ wr := by
  conv => arg 2; whnf
  have c1 := HR.out.h i hlt
  have c2 := HV.out i hlt
  have f1 := HR.out.free i
  rw [half_at st t i hlt] at c1
  have l1 := getD_lt (list_ok stOk) (by decide) i
  have l2 := getD_lt (list_ok tOk) (by decide) i
  have hs := half_succ st t i hlt
  obtain ⟨x, hx⟩ : ∃ x, st.list.getD i 0 = x := ⟨_, rfl⟩
  obtain ⟨y, hy⟩ : ∃ x, t.list.getD i 0 = x := ⟨_, rfl⟩
  rw [hx] at c1 l1 hs
  rw [hy] at c2 l2 hs
  have HS := Lib.hid hs
  clear hs hx hy
  have v1 : IntKind.u64.wrap ((x : Int) + y) = (x : Int) + y := by rw [show (x : Int) + y = ((x + y : Nat) : Int) from by simp]; exact wrap_u64 _ (by omega)
  have b1 : (0 : Int) ≤ (i : Int) := by omega
  have b2 : (i : Int) < 8 := by omega
  go_wp2_with fail
  go_still_tail 12, (by kernel_rfl)
  go_wp2_with fail
  refine HX.out _ _ _ _ _ _ _ _ _ _ _ _ _ _ _ _ _ _ ?_
  have hL8 : ((st.add t).list.take i ++ st.list.drop i).length = 8 := by
    simp [St.list]
    omega
  refine ⟨?_, ?_⟩
  · have := HR.out.put hBh hkb hL8 i ((x + y) % 4294967296) hlt
    rw [HS.out] at this
    have h2 : RW w (wr.setCell ⟨bh, i, none⟩ (.int .u64 ((x + y) % 4294967296 : Nat))).drew bk bh ((st.add t).list.take (i + 1) ++ st.list.drop (i + 1)) := ⟨grownBy_drew this.g, this.k, this.c, this.h⟩
    show RW _ _ _ _ _
    simpa using h2
  · intro j hj
    rw [← HV.out j hj]
    unfold World.cell?
    have := heap_setCell_ne wr bh i (.int .u64 (((x : Int) + y) % 4294967296)) (i := gw) hgw
    simp only [World.drew]
    simp only [this]
end Go.Proofs.YtemndmhdlgfajaaDoor

namespace Go.Proofs.YtemndmhdlgfajaaDoor
open Go.RowKit Go.Maps
attribute [local irreducible] shaL

/-- the pairs of these keys -/
def pairsM (M : List PairS) (L : List ByteArray) : List PairS := L.map fun k => (k, valM M k)
set_option maxRecDepth 100000 in
/-- a tree's look-up, in whatever world -/
theorem TreeAt.run {n0 : Nat} {X : List Nat} {w : World} {b : Nat} {M : List PairS} {mv : Value} (h : TreeAt n0 X w b M mv) (k : ByteArray) (hk : k.size ≤ maxLen) (hh : hasM M k = true) : (Instr.lookup 97 mv (.string k) false).run Tryd.prog w = .ok (.string (valM M k)) w := by
  rcases h.map with ⟨rfl, rfl⟩ | ⟨mb, D, rfl, h1, h2, h3, h4⟩
  · exact absurd hh (by simp [hasM])
  · obtain ⟨v, ps, hrun, hv⟩ := h3.lookup strK Tryd.underlying97 (zeroStr w) (strR_mk ⟨#[]⟩ (by unfold maxLen; decide)) (keyV k hk)
    obtain ⟨s, rfl, hz, _⟩ := strR_inv hv
    have h5 := h4.val k
    have h6 := (Prod.mk.inj hz).1
    have h7 : (⟨#[]⟩ : ByteArray).data.toList = [] := rfl
    rw [h7, h5] at h6
    injection h6 with h6
    injection h6 with h6
    rw [hrun, ← ByteArray.ext (Array.toList_inj.1 h6)]
theorem TreeK.drew {n0 : Nat} {X : List Nat} {w : World} {b : Nat} {M : List PairS} (h : TreeK n0 X w b M) : TreeK n0 X w.drew b M := h.grown (grownBy_drew (World.grownBy.refl _ _))
theorem TreeAt.grown {n0 : Nat} {X : List Nat} {w w' : World} {b : Nat} {M : List PairS} {mv : Value} (h : TreeAt n0 X w b M mv) (k : w.grownBy w' none) : TreeAt n0 X w' b M mv := by
  refine ⟨k.heap h.blk (by simp), h.own, ?_⟩
  rcases h.map with hm | ⟨mb, D, rfl, h1, h2, h3, h4⟩
  · exact .inl hm
  · exact .inr ⟨mb, D, rfl, h1, h2, h3.kept k (by simp), h4⟩
/-- what a look-up at a key's cell reads, in whatever world behind -/
theorem one_reads {n0 : Nat} {X : List Nat} {w : World} {b g o : Nat} {M : List PairS} {mv : Value} {k v : ByteArray} (h : TreeAt n0 X w b M mv) (hk : k.size ≤ maxLen) (hh : hasM M k = true) (hv : valM M k = v) (hc : w.cell? ⟨g, o, none⟩ = some (.string k)) (w' : World) (q : w.grownBy w' none) :
    w'.cell? ⟨g, o, none⟩ = some (.string k) ∧ w'.cell? ⟨b, 0, none⟩ = some mv ∧ (Instr.lookup 97 mv (.string k) false).run Tryd.prog w' = .ok (.string v) w' := by
  have h1 := h.grown q
  refine ⟨q.cell hc (by simp), by rw [cell_of h1.blk]; rfl, ?_⟩
  rw [h1.run k hk hh, hv]
end Go.Proofs.YtemndmhdlgfajaaDoor

namespace Go.Proofs.YtemndmhdlgfajaaDoor
open Go.RowKit Go.Maps
attribute [local irreducible] shaL

/-- a node that may be -/
def okN (n : ByteArray) : Bool := decide (n = emptyS) || (beginsB n 1 || beginsB n 2)
/-- a last one that may be -/
def endN (L : List ByteArray) (t : Bool) : Bool := match L.getLast? with | none => true | some l => beginsB l 2 || (t && !decide (l = emptyS))
def besideB (L : List ByteArray) (t : Bool) : Bool := L.all okN && endN L t
end Go.Proofs.YtemndmhdlgfajaaDoor

namespace Go.Proofs.YtemndmhdlgfajaaDoor
open Go.RowKit Go.Maps
attribute [local irreducible] shaL

def goodB (L : List ByteArray) (t : Bool) (pk pv key : ByteArray) (d : Nat) : Bool :=
  besideB L t && (if t then decide (pk.size = 16) && belowB pk key (d + L.length) else decide (pk.size = 0) && decide (pv.size = 0))
theorem is_nil (s : ByteArray) : (s.toList == []) = decide (s.size = 0) := by
  rw [ByteArray.toList_eq, Bool.eq_iff_iff, beq_iff_eq, decide_eq_true_iff]
  show s.data.toList = [] ↔ s.data.size = 0
  rw [← Array.length_toList, List.length_eq_zero_iff]
end Go.Proofs.YtemndmhdlgfajaaDoor

namespace Go.Proofs.YtemndmhdlgfajaaDoor
open Go.RowKit Go.Maps

theorem infoU8P : (Tryd.prog.info? 5).map (fun i => (i.zero, i.size, i.bytes)) = some (some (.int .u8 0), 1, 1) := by kernel_rfl
/-- a key of two small numbers -/
def keyL14 (a b : UInt8) : List UInt8 := [a, 0, b, 0, 0, 0, 0, 0, 0, 0, 0, 0, 0, 0, 0, 0]
def keyS14 (a b : UInt8) : ByteArray := str (keyL14 a b)
theorem keyS14_size (a b : UInt8) : (keyS14 a b).size = 16 := rfl
end Go.Proofs.YtemndmhdlgfajaaDoor
