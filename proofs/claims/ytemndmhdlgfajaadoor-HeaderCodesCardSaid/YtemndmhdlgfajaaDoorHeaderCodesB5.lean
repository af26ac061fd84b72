/- Pairs in memory; the walk of the document's Set, Leaf. · Keys that rise, parted at a bit. No walk. · The walks of above (at any keys), Node, Root. · The walks of the document's Leaf and Node. · The walks of Node, Root. · Plain words: a node of both its halves. No walk. · Plain words: the way to a key, what stands beside it, the climb back. No walk. · Plain words for Prove: the keys that go on, the way so far. No walk. · The walk of proof's turned. · The walk of a proof's Node, by what climb is said to do. · slices.Backward over texts. · The walk of proof's climb. · The walks of a proof's tells, Has, Lacks, by what climb is said to do. · The walk of layer 14's laws' both. · The walk of band's Nodes. · Plain words for band's Root: the nodes above each two. No walk. · What a round that appends to a box's row owes, a call lying between. No walk. · Out of the listed variables: package sha's two tables in memory; and a world for the witness. · Arguments opened: arrays of bytes, slices of integers. No walk. · A row's post, where the call has only made memory. No walk. -/
import Derived.Test.YtemndmhdlgfajaaDoorHeaderCodesB4
import Derived.Test.YtemndmhdlgfajaaDoorHeaderCodesB3
import Derived.Test.YtemndmhdlgfajaaDoorRefTag
import Derived.Maps.AppendAt
import Derived.Deep.RegionWith
import Derived.Sort.Walk0
import Derived.Test.YtemndmhdlgfajaaDoorHeaderCodesB2
import Derived.Deep.DeepCutAuto
import Derived.Laws.BitsAllLaws
import Derived.Lib.ConvBytes
import Derived.RangeFuncNested
import Derived.RangeFuncBound
import Derived.RangeFuncCalls
import Derived.RangeFuncLeaves
import Derived.Shelf.Abstract
import Derived.Shelf.RegionOpen
import Derived.OwnWalkIn
import Derived.TacticsInMore
import Derived.LoopNIn
import Derived.LoopIn
import Derived.Deep.RegionHeld3
import Derived.RangeFuncBox
import Derived.Test.YtemndmhdlgfajaaDoorCards
import Derived.Test.YtemndmhdlgfajaaDoorTie
import Derived.Test.YtemndmhdlgfajaaDoorShaCalls
import Derived.Lib.LaidIn
import Derived.Lib.LaidU8T
import Derived.Deep.DeepHandedRow
import Derived.Deep.DeepWitnessRowRef
import Derived.ProofKit
import Derived.OpenShut
import Derived.ShutString
import Derived.WideKeyArr2
import Derived.ChangeSlices
import Derived.Test.YtemndmhdlgfajaaDoorRows
import Derived.WalkKit
namespace Go.Proofs.YtemndmhdlgfajaaDoor
open Go.RowKit Go.Maps
attribute [local irreducible] shaL

def pv (M : List PairS) : List Value := M.flatMap fun x => [.string x.1, .string x.2]
theorem pv_length : ∀ M : List PairS, (pv M).length = M.length * 2
  | [] => rfl
  | x :: r => by
    have := pv_length r
    simp only [pv, List.flatMap_cons, List.length_append, List.length_cons, List.length_nil] at this ⊢
    omega
theorem pv_append (M N : List PairS) : pv (M ++ N) = pv M ++ pv N := by simp [pv]
theorem pv_at : ∀ (M : List PairS) (i : Nat) (h : i < M.length), (pv M)[i * 2]? = some (.string M[i].1) ∧ (pv M)[i * 2 + 1]? = some (.string M[i].2)
  | x :: r, 0, _ => ⟨rfl, rfl⟩
  | x :: r, i + 1, h => by
    have ih := pv_at r i (by simpa using h)
    have e : pv (x :: r) = .string x.1 :: .string x.2 :: pv r := rfl
    rw [e, show (i + 1) * 2 = i * 2 + 1 + 1 by omega]
    simp only [List.getElem?_cons_succ, List.getElem_cons_succ]
    exact ih
def PairsAt (w : World) (v : Value) (M : List PairS) : Prop :=
  ∃ a cap, v = .slice a M.length cap ∧ M.length ≤ cap ∧ cap ≤ maxLen ∧ ∀ i (h : i < M.length), ∃ g o, a = some ⟨g, o, none⟩ ∧ w.cell? ⟨g, o + i * 2, none⟩ = some (.string M[i].1) ∧ w.cell? ⟨g, o + i * 2 + 1, none⟩ = some (.string M[i].2)
theorem PairsAt.grown {w w' : World} {v : Value} {M : List PairS} (h : PairsAt w v M) (k : w.grownBy w' none) : PairsAt w' v M := by
  obtain ⟨a, cap, e, h1, h2, hc⟩ := h
  refine ⟨a, cap, e, h1, h2, fun i hi => ?_⟩
  obtain ⟨g, o, e2, h3, h4⟩ := hc i hi
  exact ⟨g, o, e2, k.cell h3 (by simp), k.cell h4 (by simp)⟩
theorem own_low2 {w : World} {B B' n s : Nat} {t : TypeId} {v : Value} {xs : List Value} (h : w.ownsRow B t s v n xs) (hb : B' ≤ B) : w.ownsRow B' t s v n xs := by
  refine ⟨h.1, ?_⟩
  rcases h.2 with h' | ⟨g, cap, cur, rfl, hB, r⟩
  · exact .inl h'
  · exact .inr ⟨g, cap, cur, rfl, Nat.le_trans hb hB, r⟩
theorem eq_str (a b : ByteArray) : (a.toList == b.toList) = decide (a = b) := by
  rw [ByteArray.toList_eq, ByteArray.toList_eq, Bool.eq_iff_iff, beq_iff_eq, decide_eq_true_iff]
  exact ⟨fun h => ByteArray.ext (Array.toList_inj.1 h), fun h => by rw [h]⟩
theorem filter_step (M : List PairS) (P : PairS → Bool) (i : Nat) (h : i < M.length) : (M.take (i + 1)).filter P = (M.take i).filter P ++ (if P M[i] then [M[i]] else []) := by
  rw [List.take_succ_eq_append_getElem h, List.filter_append]
  congr 1
  by_cases hp : P M[i] = true
  · simp [hp]
  · simp [hp]
end Go.Proofs.YtemndmhdlgfajaaDoor

namespace Go.Proofs.YtemndmhdlgfajaaDoor
open Go.RowKit Go.Maps Go.Sort
attribute [local irreducible] shaL

def Rises (L : List ByteArray) : Prop := L.Pairwise fun x y => Op.bytesLess y.data.toList x.data.toList = false
theorem rises_sortK (M : List PairS) (P : ByteArray → Bool) : Rises (sortK M P) := by
  unfold Rises sortK
  rw [List.pairwise_map]
  refine (List.pairwise_mergeSort (fun a b c h1 h2 => ?_) (fun a b => ?_) _).imp fun {a b} h => ?_
  · simp only [decide_eq_true_eq] at h1 h2 ⊢
    exact List.le_trans h1 h2
  · simp only [Bool.or_eq_true, decide_eq_true_eq]
    exact List.le_total a b
  · show Op.bytesLess b a = false
    rw [bytesLess_eq]
    simp only [decide_eq_true_eq] at h
    simp
    exact h
def sideK (b d : Nat) (L : List ByteArray) : List ByteArray := L.filter fun k => bitS k d == b
theorem side_pairs (M : List PairS) (b d : Nat) (L : List ByteArray) : side b d (pairsM M L) = pairsM M (sideK b d L) := by
  unfold side pairsM sideK
  rw [List.filter_map]
  rfl
/-- where the ones begin -/
def cutK (L : List ByteArray) (d : Nat) : Nat := match L.findIdx? (fun k => bitS k d == 1) with
  | some i => i
  | none => L.length
theorem cutK_le (L : List ByteArray) (d : Nat) : cutK L d ≤ L.length := by
  unfold cutK
  split
  · rename_i i h
    have := (List.findIdx?_eq_some_iff_getElem.1 h).1
    omega
  · exact Nat.le_refl _
theorem firstI_cut (L : List ByteArray) (d : Nat) : (cutK L d = L.length ∧ firstI L (fun k => bitS k d == 1) = -1) ∨ (cutK L d < L.length ∧ firstI L (fun k => bitS k d == 1) = (cutK L d : Nat)) := by
  unfold cutK firstI
  cases h : L.findIdx? (fun k => bitS k d == 1) with
  | none => exact .inl ⟨rfl, rfl⟩
  | some i => exact .inr ⟨(List.findIdx?_eq_some_iff_getElem.1 h).1, rfl⟩
theorem cut_sides (L : List ByteArray) (d : Nat) (hd : d < 128) (hR : Rises L) (hl : ∀ k ∈ L, k.size = 16) (ha : ∀ x ∈ L, ∀ y ∈ L, ∀ i, i < d → bitS x i = bitS y i) : L.take (cutK L d) = sideK 0 d L ∧ L.drop (cutK L d) = sideK 1 d L := by
  have hz : ∀ j, (h : j < L.length) → j < cutK L d → bitS L[j] d = 0 := by
    intro j hj hc
    unfold cutK at hc
    have hb := bitS_le L[j] d
    cases h : L.findIdx? (fun k => bitS k d == 1) with
    | none =>
      have := List.findIdx?_eq_none_iff.1 h L[j] (List.getElem_mem _)
      simp at this
      omega
    | some i =>
      rw [h] at hc
      have := (List.findIdx?_eq_some_iff_getElem.1 h).2.2 j hc
      simp at this
      omega
  have ho : ∀ j, (h : j < L.length) → cutK L d ≤ j → bitS L[j] d = 1 := by
    intro j hj hc
    unfold cutK at hc
    have hb := bitS_le L[j] d
    cases h : L.findIdx? (fun k => bitS k d == 1) with
    | none => rw [h] at hc; simp at hc; omega
    | some i =>
      rw [h] at hc
      simp at hc
      obtain ⟨hi, h1, _⟩ := List.findIdx?_eq_some_iff_getElem.1 h
      have h1' : bitS L[i] d = 1 := by simpa using h1
      by_cases e : i = j
      · subst e; exact h1'
      · have hr := List.pairwise_iff_getElem.1 hR i j hi hj (by omega)
        by_cases h0 : bitS L[j] d = 1
        · exact h0
        · exfalso
          have := order_bit L[i].data.toList L[j].data.toList d (by rw [Array.length_toList]; exact hl _ (List.getElem_mem _)) (by rw [Array.length_toList]; exact hl _ (List.getElem_mem _)) hd (fun q hq => ha _ (List.getElem_mem _) _ (List.getElem_mem _) q hq) (fun e => h0 (e.symm.trans h1')) hr
          have h2 : bitS L[i] d = 0 := this.1
          omega
  have h0 : ∀ x ∈ L.take (cutK L d), bitS x d = 0 := by
    intro x hx
    obtain ⟨j, hj, rfl⟩ := List.getElem_of_mem hx
    rw [List.getElem_take]
    rw [List.length_take] at hj
    exact hz j (by omega) (by omega)
  have h1 : ∀ x ∈ L.drop (cutK L d), bitS x d = 1 := by
    intro x hx
    obtain ⟨j, hj, rfl⟩ := List.getElem_of_mem hx
    rw [List.getElem_drop]
    rw [List.length_drop] at hj
    exact ho _ (by omega) (by omega)
  have e : ∀ b, sideK b d L = (L.take (cutK L d)).filter (fun k => bitS k d == b) ++ (L.drop (cutK L d)).filter (fun k => bitS k d == b) := by
    intro b
    unfold sideK
    rw [← List.filter_append, List.take_append_drop]
  constructor
  · rw [e, List.filter_eq_self.2 (fun x hx => by simp [h0 x hx]), List.filter_eq_nil_iff.2 (fun x hx => by simp [h1 x hx]), List.append_nil]
  · rw [e, List.filter_eq_nil_iff.2 (fun x hx => by simp [h0 x hx]), List.filter_eq_self.2 (fun x hx => by simp [h1 x hx]), List.nil_append]
theorem Rises.sub {L N : List ByteArray} (h : Rises L) (hs : N.Sublist L) : Rises N := List.Pairwise.sublist hs h
end Go.Proofs.YtemndmhdlgfajaaDoor

namespace Go.Proofs.YtemndmhdlgfajaaDoor
open Go.RowKit Go.Maps
attribute [local irreducible] shaL

theorem strs_front {w : World} {g o n c : Nat} {L : List ByteArray} (h : StrsAt w (.slice (some ⟨g, o, none⟩) n c) L) (k : Nat) (hk : k ≤ n) (c2 : Nat) : StrsAt w (.slice (some ⟨g, o, none⟩) k c2) (L.take k) := by
  obtain ⟨a, cap, he, hc⟩ := h
  injection he with e1 e2 e3
  refine ⟨some ⟨g, o, none⟩, c2, by rw [List.length_take]; congr 1; omega, fun i hi => ?_⟩
  rw [List.length_take] at hi
  obtain ⟨g', o', e4, h1⟩ := hc i (by omega)
  rw [← e1] at e4
  cases e4
  exact ⟨g, o, rfl, by rw [List.getElem_take]; exact h1⟩
theorem strs_back {w : World} {g o n c : Nat} {L : List ByteArray} (h : StrsAt w (.slice (some ⟨g, o, none⟩) n c) L) (k : Nat) (hk : k ≤ n) (c2 : Nat) : StrsAt w (.slice (some ⟨g, o + k, none⟩) (n - k) c2) (L.drop k) := by
  obtain ⟨a, cap, he, hc⟩ := h
  injection he with e1 e2 e3
  refine ⟨some ⟨g, o + k, none⟩, c2, by rw [List.length_drop, e2], fun i hi => ?_⟩
  rw [List.length_drop] at hi
  obtain ⟨g', o', e4, h1⟩ := hc (k + i) (by omega)
  rw [← e1] at e4
  cases e4
  exact ⟨g, o + k, rfl, by rw [List.getElem_drop, Nat.add_assoc]; exact h1⟩
theorem pairs_key (M : List PairS) (L : List ByteArray) (d : Nat) (hA : Alike d (pairsM M L)) : (∀ k ∈ L, k.size = 16) ∧ (∀ x ∈ L, ∀ y ∈ L, ∀ i, i < d → bitS x i = bitS y i) :=
  ⟨fun k hk => hA.len (k, valM M k) (List.mem_map.2 ⟨k, hk, rfl⟩), fun x hx y hy i hi => hA.bits (x, valM M x) (List.mem_map.2 ⟨x, hx, rfl⟩) (y, valM M y) (List.mem_map.2 ⟨y, hy, rfl⟩) i hi⟩
def vals_small (M : List PairS) : Prop := ∀ x ∈ M, x.2.size ≤ 1000000
theorem val_small {M : List PairS} (h : vals_small M) (k : ByteArray) : (valM M k).size ≤ 1000000 := by
  unfold valM
  cases hf : M.find? (fun p => decide (p.1 = k)) with
  | none => exact Nat.zero_le _
  | some p => exact h p (List.mem_of_find?_eq_some hf)
end Go.Proofs.YtemndmhdlgfajaaDoor

namespace Go.Proofs.YtemndmhdlgfajaaDoor
open Go.RowKit Go.Maps
attribute [local irreducible] shaL

theorem own_keep2 {w w' : World} {B n s : Nat} {t : TypeId} {v : Value} {xs : List Value} {row : Option Nat} (h : w.ownsRow B t s v n xs) (k : w.grownBy w' row) (hne : ∀ x, v.ownBlock = some x → row ≠ some x) : w'.ownsRow B t s v n xs := by
  refine ⟨h.1, ?_⟩
  rcases h.2 with h' | ⟨g, cap, cur, rfl, hB, hg, r⟩
  · exact .inl h'
  · exact .inr ⟨g, cap, cur, rfl, hB, (k.block g (Array.getElem?_eq_some_iff.1 hg).1 (fun e => hne g rfl e.symm)).trans hg, r⟩
theorem side_take (b d : Nat) (M : List PairS) (i : Nat) (h : i < M.length) : side b d (M.take (i + 1)) = side b d (M.take i) ++ (if bitS M[i].1 d == b then [M[i]] else []) := filter_step M (fun x => bitS x.1 d == b) i h
theorem head_of {y : ByteArray} (hn : NodeS y) (hne : y ≠ emptyS) : ∃ h : 0 < y.size, (leafB y = true ∧ y[0] = 1) ∨ (leafB y = false ∧ y[0] = 2) := by
  cases hn with
  | none => exact absurd rfl hne
  | leaf k v => exact ⟨by rw [leafS_size]; decide, .inl ⟨leafS_leaf k v, rfl⟩⟩
  | both a b => exact ⟨by rw [bothS_size]; decide, .inr ⟨bothS_leaf a b, rfl⟩⟩
/-- of some keys the node isn't empty -/
theorem nodeN_some : ∀ (f d : Nat) (l : List PairS), d + f = 128 → Alike d l → l ≠ [] → nodeN f l d ≠ emptyS
  | 0, d, l, hd, hA, hne => by
    have := hA.few (by omega)
    match l, this, hne with
    | [x], _, _ => exact leafS_ne _ _
  | f + 1, d, l, hd, hA, hne => by
    match l, hne, hA with
    | [x], _, _ => exact leafS_ne _ _
    | x :: y :: r, _, hA =>
      rw [nodeN_more f d _ (by simp)]
      have hl := side_len d (x :: y :: r)
      have h0 := nodeN_some f (d + 1) (side 0 d (x :: y :: r)) (by omega) hA.side
      have h1 := nodeN_some f (d + 1) (side 1 d (x :: y :: r)) (by omega) hA.side
      unfold joinN
      split
      · rename_i h
        by_cases he : side 1 d (x :: y :: r) = []
        · by_cases he0 : side 0 d (x :: y :: r) = []
          · rw [he, he0] at hl; simp at hl
          · exact absurd h.1 (h0 he0)
        · exact h1 he
      · split
        · rename_i h
          by_cases he0 : side 0 d (x :: y :: r) = []
          · by_cases he : side 1 d (x :: y :: r) = []
            · rw [he, he0] at hl; simp at hl
            · exact absurd h.1 (h1 he)
          · exact h0 he0
        · exact bothS_ne _ _
end Go.Proofs.YtemndmhdlgfajaaDoor

namespace Go.Proofs.YtemndmhdlgfajaaDoor
open Go.RowKit Go.Maps
attribute [local irreducible] shaL

theorem own_form' {w : World} {B n : Nat} {t : TypeId} {v : Value} {xs : List Value} (h : w.ownsRow B t 1 v n xs) : (v = .slice none 0 0 ∧ n = 0) ∨ ∃ g cap, v = .slice (some ⟨g, 0, none⟩) n cap ∧ n ≤ cap ∧ cap ≤ maxLen := by
  rcases h.2 with ⟨e, h0⟩ | ⟨g, cap, cur, e, hB, hg, h1, h2, _⟩
  · exact .inl ⟨e, h0⟩
  · exact .inr ⟨g, cap, e, h1, h2⟩
/-- those that begin as s does, by so many bits -/
def startM (M : List PairS) (s : ByteArray) (d : Nat) : List PairS := M.filter fun x => belowB x.1 s d
def nodeAt (M : List PairS) (s : ByteArray) (d : Nat) : ByteArray := nodeN (128 - d) (startM M s d) d
theorem pairs_perm {M : List PairS} (hone : M.Pairwise (fun p q => p.1 ≠ q.1)) (P : ByteArray → Bool) : (pairsM M (sortK M P)).Perm (M.filter fun x => P x.1) := by
  have h1 : (sortK M P).Perm (((M.filter fun x => P x.1).map fun x => x.1.data.toList).map str) := (List.mergeSort_perm _ _).map str
  have h2 : ((M.filter fun x => P x.1).map fun x => x.1.data.toList).map str = (M.filter fun x => P x.1).map Prod.fst := by
    rw [List.map_map]
    rfl
  rw [h2] at h1
  have h3 := h1.map (fun k => (k, valM M k))
  have h4 : ((M.filter fun x => P x.1).map Prod.fst).map (fun k => (k, valM M k)) = M.filter fun x => P x.1 := by
    rw [List.map_map]
    refine (List.map_congr_left (g := id) fun x hx => ?_).trans (List.map_id _)
    show (x.1, valM M x.1) = x
    rw [valM_mem hone x (List.mem_filter.1 hx).1]
  rw [h4] at h3
  exact h3
theorem start_alike {M : List PairS} (hone : M.Pairwise (fun p q => p.1 ≠ q.1)) (h16 : ∀ x ∈ M, x.1.size = 16) (s : ByteArray) (d : Nat) : Alike d (startM M s d) := by
  refine ⟨fun x hx => h16 x (List.mem_filter.1 hx).1, hone.filter _, fun x hx y hy i hi => ?_⟩
  have e1 := (belowB_iff x.1 s d).1 (List.mem_filter.1 hx).2 i hi
  have e2 := (belowB_iff y.1 s d).1 (List.mem_filter.1 hy).2 i hi
  rw [e1, e2]
theorem sortK_has {M : List PairS} {P : ByteArray → Bool} {k : ByteArray} (h : k ∈ sortK M P) : hasM M k = true := by
  unfold sortK at h
  obtain ⟨l, hl, rfl⟩ := List.mem_map.1 h
  obtain ⟨x, hx, rfl⟩ := List.mem_map.1 ((List.mergeSort_perm _ _).mem_iff.1 hl)
  exact List.any_eq_true.2 ⟨x, (List.mem_filter.1 hx).1, by simp; rfl⟩
theorem sortK_len (M : List PairS) (P : ByteArray → Bool) : (sortK M P).length ≤ M.length := by
  unfold sortK
  rw [List.length_map, List.length_mergeSort, List.length_map]
  exact List.length_filter_le _ _
/-- a tree as the laws make it -/
structure Plain (M : List PairS) : Prop where
  k16 : ∀ x ∈ M, x.1.size = 16
  small : vals_small M
  few : M.length ≤ 1000000
end Go.Proofs.YtemndmhdlgfajaaDoor

namespace Go.Proofs.YtemndmhdlgfajaaDoor
open Go.RowKit
attribute [local irreducible] shaL

theorem half_bits {k s : ByteArray} {d b : Nat} (hb : b ≤ 1) (h : ∀ i, bitS s i = if i < d + 1 then (2 * bandN k d + b) / 2 ^ (d + 1 - 1 - i) % 2 else 0) : (∀ i, i < d → bitS s i = bitS k i) ∧ bitS s d = b := by
  constructor
  · intro i hi
    rw [h i, if_pos (by omega), ← bandN_bit k d i hi, show d + 1 - 1 - i = (d - 1 - i) + 1 by omega, Nat.pow_succ, Nat.mul_comm (2 ^ _) 2, ← Nat.div_div_eq_div_mul]
    congr 2
    omega
  · rw [h d, if_pos (by omega), show d + 1 - 1 - d = 0 by omega]
    omega
theorem start_half {M : List PairS} {k s : ByteArray} {d b : Nat} (h1 : ∀ i, i < d → bitS s i = bitS k i) (h2 : bitS s d = b) : startM M s (d + 1) = side b d (startM M k d) := by
  unfold startM side
  rw [List.filter_filter]
  refine List.filter_congr fun x _ => ?_
  have e : belowB x.1 s d = belowB x.1 k d := by
    rw [Bool.eq_iff_iff, belowB_iff, belowB_iff]
    exact ⟨fun h i hi => (h i hi).trans (h1 i hi), fun h i hi => (h i hi).trans (h1 i hi).symm⟩
  rw [belowB_succ, e, h2, Bool.and_comm]
theorem join_half (l : List PairS) (d : Nat) (hd : d ≤ 15) : joinN (nodeN (127 - d) (side 0 d l) (d + 1)) (nodeN (127 - d) (side 1 d l) (d + 1)) = nodeN (128 - d) l d := by
  by_cases h2 : 2 ≤ l.length
  · rw [show 128 - d = (127 - d) + 1 by omega, nodeN_more _ _ _ h2]
  · match l, h2 with
    | [], _ =>
      show joinN (nodeN _ [] _) (nodeN _ [] _) = _
      rw [nodeN_nil, nodeN_nil]
      unfold joinN
      rw [if_pos ⟨rfl, .inl rfl⟩]
    | [x], _ =>
      have hb := bitS_le x.1 d
      rw [nodeN_one]
      by_cases h : bitS x.1 d = 0
      · have e0 : side 0 d [x] = [x] := by unfold side; simp [h]
        have e1 : side 1 d [x] = [] := by unfold side; simp [h]
        rw [e0, e1, nodeN_one, nodeN_nil]
        unfold joinN
        rw [if_neg (fun q => leafS_ne _ _ q.1), if_pos ⟨rfl, leafS_leaf _ _⟩]
      · have h1 : bitS x.1 d = 1 := by omega
        have e0 : side 0 d [x] = [] := by unfold side; simp [h1]
        have e1 : side 1 d [x] = [x] := by unfold side; simp [h1]
        rw [e0, e1, nodeN_one, nodeN_nil]
        unfold joinN
        rw [if_pos ⟨rfl, .inr (leafS_leaf _ _)⟩]
    | x :: y :: r, h2 => simp at h2
theorem nodeAt_half {M : List PairS} {k s : ByteArray} {d b : Nat} (hd : d ≤ 15) (hb : b ≤ 1) (h : ∀ i, bitS s i = if i < d + 1 then (2 * bandN k d + b) / 2 ^ (d + 1 - 1 - i) % 2 else 0) : nodeAt M s (d + 1) = nodeN (127 - d) (side b d (startM M k d)) (d + 1) := by
  obtain ⟨h1, h2⟩ := half_bits hb h
  unfold nodeAt
  rw [start_half h1 h2, show 128 - (d + 1) = 127 - d by omega]
theorem nodeAt_join {M : List PairS} {k s0 s1 : ByteArray} {d : Nat} (hd : d ≤ 15) (h0 : ∀ i, bitS s0 i = if i < d + 1 then (2 * bandN k d + 0) / 2 ^ (d + 1 - 1 - i) % 2 else 0) (h1 : ∀ i, bitS s1 i = if i < d + 1 then (2 * bandN k d + 1) / 2 ^ (d + 1 - 1 - i) % 2 else 0) :
    joinN (nodeAt M s0 (d + 1)) (nodeAt M s1 (d + 1)) = nodeAt M k d := by
  rw [nodeAt_half hd (by omega) h0, nodeAt_half hd (by omega) h1, join_half _ d hd]
  rfl
end Go.Proofs.YtemndmhdlgfajaaDoor

namespace Go.Proofs.YtemndmhdlgfajaaDoor
attribute [local irreducible] shaL

/-- those on the key's own side, and those on the other one -/
def onS (key : ByteArray) (d : Nat) (l : List PairS) : List PairS := side (bitS key d) d l
def offS (key : ByteArray) (d : Nat) (l : List PairS) : List PairS := side (1 - bitS key d) d l
/-- what stands beside the way to a key -/
def wayB (key : ByteArray) : Nat → List PairS → Nat → List ByteArray
  | 0, _, _ => []
  | f + 1, l, d => if l.length < 2 then [] else nodeN f (offS key d l) (d + 1) :: wayB key f (onS key d l) (d + 1)
/-- who is at its end -/
def restB (key : ByteArray) : Nat → List PairS → Nat → List PairS
  | 0, l, _ => l
  | f + 1, l, d => if l.length < 2 then l else restB key f (onS key d l) (d + 1)
def endS : List PairS → ByteArray
  | [] => emptyS
  | x :: _ => leafS x.1 x.2
/-- up from a node, past what stands beside -/
def climbN (key : ByteArray) : Nat → List ByteArray → ByteArray → ByteArray
  | _, [], x => x
  | d, b :: r, x => if bitS key d = 1 then joinN b (climbN key (d + 1) r x) else joinN (climbN key (d + 1) r x) b
theorem endS_few (f : Nat) (l : List PairS) (d : Nat) (h : l.length ≤ 1) : endS l = nodeN f l d := by
  match l, h with
  | [], _ => rw [nodeN_nil]; rfl
  | [x], _ => rw [nodeN_one]; rfl
theorem way_climb (key : ByteArray) : ∀ (f d : Nat) (l : List PairS), d + f = 128 → Alike d l → climbN key d (wayB key f l d) (endS (restB key f l d)) = nodeN f l d := by
  intro f
  induction f with
  | zero =>
    intro d l hd hA
    exact endS_few 0 l d (hA.few (by omega))
  | succ f ih =>
    intro d l hd hA
    unfold wayB restB
    by_cases h : l.length < 2
    · rw [if_pos h, if_pos h]
      exact endS_few (f + 1) l d (by omega)
    · rw [if_neg h, if_neg h, nodeN_more f d l (by omega)]
      unfold climbN
      rw [ih (d + 1) (onS key d l) (by omega) hA.side]
      have hb := bitS_le key d
      unfold onS offS
      by_cases h1 : bitS key d = 1
      · rw [if_pos h1, h1]
      · have h0 : bitS key d = 0 := by omega
        rw [if_neg h1, h0]
theorem rest_few (key : ByteArray) : ∀ (f d : Nat) (l : List PairS), d + f = 128 → Alike d l → (restB key f l d).length ≤ 1 := by
  intro f
  induction f with
  | zero =>
    intro d l hd hA
    exact hA.few (by omega)
  | succ f ih =>
    intro d l hd hA
    unfold restB
    by_cases h : l.length < 2
    · rw [if_pos h]; omega
    · rw [if_neg h]
      exact ih (d + 1) (onS key d l) (by omega) hA.side
theorem way_len (key : ByteArray) : ∀ (f d : Nat) (l : List PairS), (wayB key f l d).length ≤ f := by
  intro f
  induction f with
  | zero => intro d l; exact Nat.le_refl _
  | succ f ih =>
    intro d l
    unfold wayB
    by_cases h : l.length < 2
    · rw [if_pos h]; exact Nat.zero_le _
    · rw [if_neg h, List.length_cons]
      have := ih (d + 1) (onS key d l)
      omega
theorem start_on (M : List PairS) (key : ByteArray) (d : Nat) : onS key d (startM M key d) = startM M key (d + 1) := (start_half (fun _ _ => rfl) rfl).symm
/-- at its end: those that begin as the key does, by as many bits as the way is long -/
theorem rest_start (M : List PairS) (key : ByteArray) : ∀ (f d : Nat), restB key f (startM M key d) d = startM M key (d + (wayB key f (startM M key d) d).length) := by
  intro f
  induction f with
  | zero => intro d; rfl
  | succ f ih =>
    intro d
    unfold restB wayB
    by_cases h : (startM M key d).length < 2
    · rw [if_pos h, if_pos h]; rfl
    · rw [if_neg h, if_neg h, start_on, ih (d + 1), List.length_cons]
      congr 1
      omega
/-- two keys or more: a node that is no leaf's -/
theorem nodeN_both : ∀ (f d : Nat) (l : List PairS), d + f = 128 → Alike d l → 2 ≤ l.length → ∃ a b, nodeN f l d = bothS a b := by
  intro f
  induction f with
  | zero =>
    intro d l hd hA h
    have := hA.few (by omega)
    omega
  | succ f ih =>
    intro d l hd hA h
    rw [nodeN_more f d l h]
    have hl := side_len d l
    have hne : ∀ b, side b d l ≠ [] → nodeN f (side b d l) (d + 1) ≠ emptyS := fun b hq => nodeN_some f (d + 1) _ (by omega) hA.side hq
    unfold joinN
    by_cases h0 : side 0 d l = []
    · have h1 : 2 ≤ (side 1 d l).length := by rw [h0] at hl; simp at hl; omega
      obtain ⟨a, b, e⟩ := ih (d + 1) (side 1 d l) (by omega) hA.side h1
      rw [h0, nodeN_nil, e, if_neg (by rw [bothS_leaf]; exact fun q => by rcases q.2 with q | q; exact bothS_ne _ _ q; cases q), if_neg (fun q => bothS_ne _ _ q.1)]
      exact ⟨_, _, rfl⟩
    · by_cases h1 : side 1 d l = []
      · have h2 : 2 ≤ (side 0 d l).length := by rw [h1] at hl; simp at hl; omega
        obtain ⟨a, b, e⟩ := ih (d + 1) (side 0 d l) (by omega) hA.side h2
        rw [h1, nodeN_nil, e, if_neg (fun q => bothS_ne _ _ q.1), if_neg (by rw [bothS_leaf]; exact fun q => by cases q.2)]
        exact ⟨_, _, rfl⟩
      · rw [if_neg (fun q => hne 0 h0 q.1), if_neg (fun q => hne 1 h1 q.1)]
        exact ⟨_, _, rfl⟩
theorem node_ok {n : ByteArray} (h : NodeS n) : okN n = true := by
  unfold okN beginsB
  cases h
  · simp
  · rename_i k v
    have e : headB (leafS k v) = 1 := head_app 1 _
    rw [leafS_size, e]
    simp
  · rename_i a b
    have e : headB (bothS a b) = 2 := head_app 2 _
    rw [bothS_size, e]
    simp
theorem way_nodes (key : ByteArray) : ∀ (f d : Nat) (l : List PairS), ∀ n ∈ wayB key f l d, NodeS n := by
  intro f
  induction f with
  | zero => intro d l n h; cases h
  | succ f ih =>
    intro d l n h
    unfold wayB at h
    by_cases h2 : l.length < 2
    · rw [if_pos h2] at h; cases h
    · rw [if_neg h2] at h
      rcases List.mem_cons.1 h with rfl | h
      · exact nodeN_node _ _ _
      · exact ih _ _ n h
theorem off_len (key : ByteArray) (d : Nat) (l : List PairS) : (onS key d l).length + (offS key d l).length = l.length := by
  have h := side_len d l
  have hb := bitS_le key d
  unfold onS offS
  by_cases h1 : bitS key d = 1
  · rw [h1, Nat.sub_self]; omega
  · have h0 : bitS key d = 0 := by omega
    rw [h0]; exact h
theorem way_end (key : ByteArray) : ∀ (f d : Nat) (l : List PairS), d + f = 128 → Alike d l → endN (wayB key f l d) (decide ((restB key f l d) ≠ [])) = true := by
  intro f
  induction f with
  | zero => intro d l _ _; rfl
  | succ f ih =>
    intro d l hd hA
    unfold wayB restB
    by_cases h : l.length < 2
    · rw [if_pos h]; rfl
    · rw [if_neg h, if_neg h]
      have h1 := ih (d + 1) (onS key d l) (by omega) hA.side
      rcases hw : wayB key f (onS key d l) (d + 1) with _ | ⟨b, r⟩
      · have hfew : (onS key d l).length ≤ 1 := by
          match f, hw with
          | 0, _ => exact (Alike.side (b := bitS key d) hA).few (by omega)
          | f + 1, hw =>
            unfold wayB at hw
            by_cases q : (onS key d l).length < 2
            · omega
            · rw [if_neg q] at hw; cases hw
        have hrest : restB key f (onS key d l) (d + 1) = onS key d l := by
          match f with
          | 0 => rfl
          | f + 1 => unfold restB; rw [if_pos (by omega)]
        have hol := off_len key d l
        rw [hrest]
        unfold endN
        show (beginsB _ 2 || (_ && !decide (_ = emptyS))) = true
        by_cases h2 : 2 ≤ (offS key d l).length
        · obtain ⟨a, b, e⟩ := nodeN_both f (d + 1) (offS key d l) (by omega) hA.side h2
          have eh : headB (bothS a b) = 2 := head_app 2 _
          rw [e]
          show ((decide ((bothS a b).size = 17) && (headB (bothS a b) == 2)) || (_ && !decide (bothS a b = emptyS))) = true
          rw [bothS_size, eh]
          simp
        · have hon : onS key d l ≠ [] := fun q => by rw [q] at hol; simp at hol; omega
          have hoff : offS key d l ≠ [] := fun q => by rw [q] at hol; simp at hol; omega
          have hne := nodeN_some f (d + 1) (offS key d l) (by omega) hA.side hoff
          simp [hon, hne]
      · rw [hw] at h1
        unfold endN at h1 ⊢
        rw [List.getLast?_cons_cons]
        exact h1
/-- what stands beside a way may be -/
theorem way_may (key : ByteArray) (f d : Nat) (l : List PairS) (hd : d + f = 128) (hA : Alike d l) : besideB (wayB key f l d) (decide ((restB key f l d) ≠ [])) = true := by
  unfold besideB
  rw [way_end key f d l hd hA, Bool.and_true, List.all_eq_true]
  exact fun n hn => node_ok (way_nodes key f d l n hn)
/-- a way from further down: the same, without what stands beside above -/
theorem way_drop (M : List PairS) (key : ByteArray) : ∀ (k f a : Nat), k ≤ (wayB key f (startM M key a) a).length → wayB key (f - k) (startM M key (a + k)) (a + k) = (wayB key f (startM M key a) a).drop k := by
  intro k
  induction k with
  | zero => intro f a _; rfl
  | succ k ih =>
    intro f a h
    match f with
    | 0 => exact absurd h (Nat.not_succ_le_zero k)
    | f + 1 =>
      unfold wayB at h
      by_cases h2 : (startM M key a).length < 2
      · rw [if_pos h2] at h; exact absurd h (Nat.not_succ_le_zero k)
      · rw [if_neg h2, List.length_cons, start_on] at h
        have e := ih f (a + 1) (by omega)
        have e2 : wayB key (f + 1) (startM M key a) a = nodeN f (offS key a (startM M key a)) (a + 1) :: wayB key f (startM M key (a + 1)) (a + 1) := by
          rw [← start_on]
          show (if (startM M key a).length < 2 then [] else _) = _
          rw [if_neg h2]
        rw [e2, List.drop_succ_cons, ← e, show f + 1 - (k + 1) = f - k by omega, show a + (k + 1) = a + 1 + k by omega]
def keyOf : List PairS → ByteArray
  | [] => ⟨#[]⟩
  | x :: _ => x.1
def valOf : List PairS → ByteArray
  | [] => ⟨#[]⟩
  | x :: _ => x.2
/-- a tree's own proof is good -/
theorem way_good (M : List PairS) (key : ByteArray) (d : Nat) (hd : d ≤ 128) (hone : M.Pairwise (fun p q => p.1 ≠ q.1)) (h16 : ∀ x ∈ M, x.1.size = 16) :
    goodB (wayB key (128 - d) (startM M key d) d) (decide ((restB key (128 - d) (startM M key d) d) ≠ [])) (keyOf (restB key (128 - d) (startM M key d) d)) (valOf (restB key (128 - d) (startM M key d) d)) key d = true := by
  have hA := start_alike hone h16 key d
  have h1 := way_may key (128 - d) d (startM M key d) (by omega) hA
  have h2 := rest_start M key (128 - d) d
  unfold goodB
  rw [h1, Bool.true_and]
  generalize wayB key (128 - d) (startM M key d) d = L at h2
  rw [h2]
  rcases hr : startM M key (d + L.length) with _ | ⟨x, r⟩
  · rfl
  · have hx : x ∈ startM M key (d + L.length) := by rw [hr]; exact List.mem_cons_self
    have hx2 := List.mem_filter.1 hx
    have e1 : belowB x.1 key (d + L.length) = true := hx2.2
    have e2 := h16 x hx2.1
    rw [show decide (x :: r ≠ []) = true from rfl, if_pos rfl]
    show (decide (x.1.size = 16) && belowB x.1 key (d + L.length)) = true
    rw [e1, e2]
    rfl
end Go.Proofs.YtemndmhdlgfajaaDoor

namespace Go.Proofs.YtemndmhdlgfajaaDoor
attribute [local irreducible] shaL

theorem likeL_like (key : ByteArray) (d : Nat) (L : List ByteArray) : likeL key (d + 1) (likeL key d L) = likeL key (d + 1) L := by
  unfold likeL
  rw [List.filter_filter]
  refine List.filter_congr fun x _ => ?_
  rw [Bool.eq_iff_iff, Bool.and_eq_true]
  refine ⟨fun h => h.1, fun h => ⟨h, ?_⟩⟩
  exact (belowB_iff x key d).2 (fun i hi => (belowB_iff x key (d + 1)).1 h i (by omega))
theorem keysM_perm (M : List PairS) : (keysM M).Perm (M.map Prod.fst) := by
  have h1 : (keysM M).Perm (((M.filter fun _ => true).map fun x => x.1.data.toList).map str) := (List.mergeSort_perm _ _).map str
  rw [List.map_map] at h1
  have e : (M.filter fun _ => true) = M := List.filter_eq_self.2 (fun _ _ => rfl)
  rw [e] at h1
  exact h1
theorem like_perm (M : List PairS) (key : ByteArray) (d : Nat) : (likeL key d (keysM M)).Perm ((startM M key d).map Prod.fst) := by
  have h := (keysM_perm M).filter (fun x => belowB x key d)
  rw [List.filter_map] at h
  exact h
theorem like_len (M : List PairS) (key : ByteArray) (d : Nat) : (likeL key d (keysM M)).length = (startM M key d).length := by
  have := (like_perm M key d).length_eq
  rwa [List.length_map] at this
theorem like_one (M : List PairS) (key : ByteArray) (d : Nat) (h : (startM M key d).length = 1) : likeL key d (keysM M) = [keyOf (startM M key d)] := by
  have hp := like_perm M key d
  match hs : startM M key d, h with
  | [x], _ =>
    rw [hs] at hp
    exact List.perm_singleton.1 hp
theorem like_mem {M : List PairS} {key : ByteArray} {d : Nat} {s : ByteArray} (h16 : ∀ x ∈ M, x.1.size = 16) (h : s ∈ likeL key d (keysM M)) : s.size = 16 := by
  obtain ⟨x, hx, rfl⟩ := List.mem_map.1 ((keysM_perm M).mem_iff.1 (List.mem_filter.1 h).1)
  exact h16 x hx
theorem keys16 {M : List PairS} {s : ByteArray} (h16 : ∀ x ∈ M, x.1.size = 16) (h : s ∈ keysM M) : s.size = 16 := by
  obtain ⟨x, hx, rfl⟩ := List.mem_map.1 ((keysM_perm M).mem_iff.1 h)
  exact h16 x hx
theorem keys_len (M : List PairS) : (keysM M).length = M.length := by rw [(keysM_perm M).length_eq, List.length_map]
theorem val_one {M : List PairS} (hone : M.Pairwise (fun p q => p.1 ≠ q.1)) (key : ByteArray) (d : Nat) (h : (startM M key d).length = 1) : valM M (keyOf (startM M key d)) = valOf (startM M key d) := by
  match hs : startM M key d, h with
  | [x], _ =>
    have hx : x ∈ startM M key d := by rw [hs]; exact List.mem_cons_self
    exact valM_mem hone x (List.mem_filter.1 hx).1
/-- what stands beside the way to a key in a tree, from a depth on; who is at its end -/
def wayT (M : List PairS) (key : ByteArray) (d : Nat) : List ByteArray := wayB key (128 - d) (startM M key d) d
def restT (M : List PairS) (key : ByteArray) (d : Nat) : List PairS := restB key (128 - d) (startM M key d) d
theorem wayT_more {M : List PairS} {key : ByteArray} {d : Nat} (hd : d < 128) (h : 2 ≤ (startM M key d).length) : wayT M key d = nodeN (128 - (d + 1)) (offS key d (startM M key d)) (d + 1) :: wayT M key (d + 1) ∧ restT M key d = restT M key (d + 1) := by
  unfold wayT restT
  have e1 : ∀ (f : Nat) (l : List PairS) (d : Nat), wayB key (f + 1) l d = if l.length < 2 then [] else nodeN f (offS key d l) (d + 1) :: wayB key f (onS key d l) (d + 1) := fun _ _ _ => rfl
  have e2 : ∀ (f : Nat) (l : List PairS) (d : Nat), restB key (f + 1) l d = if l.length < 2 then l else restB key f (onS key d l) (d + 1) := fun _ _ _ => rfl
  rw [show 128 - d = (128 - (d + 1)) + 1 by omega, e1, e2, if_neg (by omega), if_neg (by omega), start_on]
  exact ⟨rfl, rfl⟩
theorem wayT_end {M : List PairS} {key : ByteArray} {d : Nat} (h : (startM M key d).length < 2) : wayT M key d = [] ∧ restT M key d = startM M key d := by
  unfold wayT restT
  match 128 - d with
  | 0 => exact ⟨rfl, rfl⟩
  | f + 1 =>
    unfold wayB restB
    rw [if_pos h, if_pos h]
    exact ⟨rfl, rfl⟩
theorem beside_node {M : List PairS} {key s : ByteArray} {d : Nat} (hd : d < 128) (hs : ∀ i, i < 128 → bitS s i = if i = d then 1 - bitS key i else bitS key i) : nodeAt M s (d + 1) = nodeN (128 - (d + 1)) (offS key d (startM M key d)) (d + 1) := by
  unfold nodeAt offS
  rw [start_half (k := key) (b := 1 - bitS key d) (fun i hi => by rw [hs i (by omega), if_neg (by omega)]) (by rw [hs d hd, if_pos rfl])]
theorem start_two {M : List PairS} (hone : M.Pairwise (fun p q => p.1 ≠ q.1)) (h16 : ∀ x ∈ M, x.1.size = 16) {key : ByteArray} {d : Nat} (hd : d ≤ 128) (h : 2 ≤ (startM M key d).length) : d < 128 := by
  rcases Nat.lt_or_ge d 128 with q | q
  · exact q
  · have := (start_alike hone h16 key d).few q
    omega
theorem capD_at (d : Nat) (h : d ≤ 128) : capD (d : Int) = d := by unfold capD; omega
end Go.Proofs.YtemndmhdlgfajaaDoor

namespace Go.Proofs.YtemndmhdlgfajaaDoor
open Go.RowKit Go.Maps

theorem conv_bytes (k : ByteArray) (w : World) : (convert 9 67 (.string k)).run Tryd.prog w = .ok (.slice (some ⟨w.heap.size, 0, none⟩) k.size (grownCap w k.size 0 5)) (Lib.bytesWorld w 5 k) :=
  Lib.run_convert_string_bytes w 9 67 5 k (u := .string) Tryd.underlying9 Tryd.underlying67 Tryd.underlying5
theorem grown_bytes (k : ByteArray) (w : World) (e : TypeId) : w.grownBy (Lib.bytesWorld w e k) none := by
  have h := grownBy_alloc' (grownBy_drew (World.grownBy.refl w none)) (.cells (Lib.bytesCells w e k) e)
  refine ⟨h.os, h.tape, h.output, by rw [Lib.bytesWorld_size]; omega, fun i hi _ => Lib.bytesWorld_at_old w e k i hi⟩
theorem bitL_flip (l : List UInt8) (q r c : Nat) (hq : q < l.length) (hr : r < 8) (hc : ((l[q]?).getD 0).toNat = c) (i : Nat) :
    bitL (l.set q (UInt8.ofNat (c ^^^ 2 ^ (7 - r)))) i = if i = 8 * q + r then 1 - bitL l i else bitL l i := by
  have hp : 2 ^ (7 - r) < 256 := Nat.lt_of_le_of_lt (Nat.pow_le_pow_right (by decide) (by omega : 7 - r ≤ 7)) (by decide)
  have hc8 : c < 256 := by rw [← hc]; exact UInt8.toNat_lt _
  have hor : c ^^^ 2 ^ (7 - r) < 256 := Nat.xor_lt_two_pow (n := 8) hc8 hp
  unfold bitL
  by_cases hiq : i / 8 = q
  · rw [hiq, List.getElem?_set_self hq, Option.getD_some, UInt8.toNat_ofNat_of_lt' hor, hc, bit_test, bit_test, Nat.testBit_xor, Nat.testBit_two_pow]
    by_cases hir : i % 8 = r
    · rw [if_pos (by omega), hir]
      cases c.testBit (7 - r) <;> simp
    · rw [if_neg (by omega)]
      have : decide (7 - r = 7 - i % 8) = false := by simp; omega
      rw [this]
      simp
  · rw [List.getElem?_set_ne (fun e => hiq e.symm), if_neg (by omega)]
theorem half_pow (r : Nat) (h : r < 8) : (128 : Int) / 2 ^ r = ((2 ^ (7 - r) : Nat) : Int) := by
  match r, h with
  | 0, _ | 1, _ | 2, _ | 3, _ | 4, _ | 5, _ | 6, _ | 7, _ => rfl
theorem flip_conv (k : ByteArray) (hk : k.size = 16) (w : World) (KB q : Nat) (hKB : w.heap.size = KB) (u : UInt8) (C : Nat) (W3 : World) (hW : W3.heap = ((Lib.bytesWorld w 5 k).setCell ⟨KB, q, none⟩ (.int .u8 u.toNat)).heap) :
    (convert 67 9 (.slice (some ⟨KB, 0, none⟩) 16 C)).run Tryd.prog W3 = .ok (.string (str (k.data.toList.set q u))) W3 := by
  subst hKB
  have h16 : (k.data.toList.set q u).length = 16 := by rw [List.length_set, Array.length_toList]; exact hk
  have h := run_convert_bytes_back (P := Tryd.prog) W3 67 9 5 ⟨w.heap.size, 0, none⟩ C (k.data.toList.set q u) Tryd.underlying67 Tryd.underlying5 Tryd.underlying9 (fun j hj => by
    have hb := Lib.bytesWorld_at_new w 5 k
    have hj2 : j < k.size := by omega
    have hc := Lib.bytesWorld_cell w 5 k j hj2
    rw [cell_of hb] at hc
    have hs := cell_of (heap_setCell hb q (.int .u8 u.toNat)) j
    have hW3 : W3.cell? ⟨w.heap.size, j, none⟩ = ((Lib.bytesWorld w 5 k).setCell ⟨w.heap.size, q, none⟩ (.int .u8 u.toNat)).cell? ⟨w.heap.size, j, none⟩ := by unfold World.cell?; rw [hW]
    rw [show (⟨w.heap.size, 0, none⟩ : Addr).add j = ⟨w.heap.size, j, none⟩ from (by unfold Addr.add; split <;> simp_all), hW3, hs, Array.getElem?_setIfInBounds]
    have hsz : j < (Lib.bytesCells w 5 k).size := by
      rcases Nat.lt_or_ge j (Lib.bytesCells w 5 k).size with h | h
      · exact h
      · rw [Array.getElem?_eq_none h] at hc; cases hc
    by_cases e : q = j
    · subst e
      simp [hsz]
    · have hl : j < k.data.toList.length := by rw [Array.length_toList]; exact hj2
      rw [if_neg e, hc, List.getElem_set_ne e]
      simp [List.getD, List.getElem?_eq_getElem hl])
  rw [h16] at h
  exact h
end Go.Proofs.YtemndmhdlgfajaaDoor

namespace Go.Proofs.YtemndmhdlgfajaaDoor
open Go.RowKit Go.Maps
attribute [local irreducible] shaL

theorem strs_grown {w w' : World} {v : Value} {L : List ByteArray} (hv : StrsAt w v L) (q : w.grownBy w' none) : StrsAt w' v L := by
  obtain ⟨a, cap, e, hc⟩ := hv
  refine ⟨a, cap, e, fun i hi => ?_⟩
  obtain ⟨g, o, e2, h1⟩ := hc i hi
  exact ⟨g, o, e2, q.cell h1 (by simp)⟩
end Go.Proofs.YtemndmhdlgfajaaDoor

namespace Go.Proofs.YtemndmhdlgfajaaDoor
open Go.RowKit Go.Shelf
attribute [local irreducible] shaL
attribute [local go_sem] Oper.semAt_some

/-- the places of a list, the last one first, as far as the k-th -/
def downs (m : Nat) (k : Nat) : List Nat := (List.range k).map fun j => m - 1 - j
theorem downs_succ (m k : Nat) : downs m (k + 1) = downs m k ++ [m - 1 - k] := by simp [downs, List.range_succ]
theorem downs_length (m k : Nat) : (downs m k).length = k := by simp [downs]
/-- the k-th text (behind the last one: none) -/
def entT (L : List ByteArray) (k : Nat) : ByteArray := L.getD k ⟨#[]⟩
theorem entT_at (L : List ByteArray) (k : Nat) (h : k < L.length) : L[k]? = some (entT L k) := by
  unfold entT
  rw [List.getD_eq_getElem?_getD, List.getElem?_eq_getElem h]
  rfl
/-- all that lay when the loop began lies on, but for one block -/
def butOne (n0 n : Nat) (i : Nat) : Prop := n0 ≤ i ∨ i = n
/-- what a range over slices.Backward(s) hands on -/
def encT (es : List ByteArray) (x : Nat) : Array Value := #[.int .i64 (min x es.length : Nat), .string (entT es x)]
end Go.Proofs.YtemndmhdlgfajaaDoor

namespace Go.Proofs.YtemndmhdlgfajaaDoor
open Go.RowKit Go.Shelf
attribute [local irreducible] shaL
attribute [local go_sem] Oper.semAt_some

theorem joinN_few (a b : ByteArray) (ha : a.size ≤ 1000) (hb : b.size ≤ 1000) : (joinN a b).size ≤ 1000 := by
  unfold joinN
  split
  · exact hb
  · split
    · exact ha
    · rw [bothS_size]; omega
theorem climb_few (key : ByteArray) : ∀ (L : List ByteArray) (d : Nat) (x : ByteArray), (∀ s ∈ L, s.size ≤ 1000) → x.size ≤ 1000 → (climbN key d L x).size ≤ 1000
  | [], _, _, _, hx => hx
  | b :: r, d, x, hL, hx => by
    have h1 := climb_few key r (d + 1) x (fun s hs => hL s (List.mem_cons_of_mem _ hs)) hx
    have h2 := hL b List.mem_cons_self
    unfold climbN
    split
    · exact joinN_few _ _ h2 h1
    · exact joinN_few _ _ h1 h2
/-- the node behind some rounds -/
def climbed (key : ByteArray) (d : Nat) (L : List ByteArray) (x : ByteArray) (k : Nat) : ByteArray := climbN key (d + (L.length - k)) (L.drop (L.length - k)) x
theorem climbed_zero (key : ByteArray) (d : Nat) (L : List ByteArray) (x : ByteArray) : climbed key d L x 0 = x := by
  unfold climbed
  rw [Nat.sub_zero, List.drop_length]
  rfl
theorem climbed_all (key : ByteArray) (d : Nat) (L : List ByteArray) (x : ByteArray) : climbed key d L x L.length = climbN key d L x := by
  unfold climbed
  rw [Nat.sub_self]
  rfl
theorem climbed_succ (key : ByteArray) (d : Nat) (L : List ByteArray) (x : ByteArray) (k : Nat) (hk : k < L.length) :
    climbed key d L x (k + 1) = if bitS key (d + (L.length - 1 - k)) = 1 then joinN (entT L (L.length - 1 - k)) (climbed key d L x k) else joinN (climbed key d L x k) (entT L (L.length - 1 - k)) := by
  have e1 : L.length - (k + 1) = L.length - 1 - k := by omega
  have e2 : L.length - k = (L.length - 1 - k) + 1 := by omega
  have hi : L.length - 1 - k < L.length := by omega
  have e3 : L.drop (L.length - 1 - k) = entT L (L.length - 1 - k) :: L.drop (L.length - 1 - k + 1) := by
    have h := entT_at L _ hi
    rw [List.getElem?_eq_getElem hi] at h
    rw [List.drop_eq_getElem_cons hi, Option.some.inj h]
  unfold climbed
  rw [e1, e3, e2]
  rfl
theorem climbed_few (key : ByteArray) (d : Nat) (L : List ByteArray) (x : ByteArray) (k : Nat) (hL : ∀ s ∈ L, s.size ≤ 1000) (hx : x.size ≤ 1000) : (climbed key d L x k).size ≤ 1000 :=
  climb_few _ _ _ _ (fun s hs => hL s (List.mem_of_mem_drop hs)) hx
theorem entT_few (L : List ByteArray) (k : Nat) (hL : ∀ s ∈ L, s.size ≤ 1000) : (entT L k).size ≤ 1000 := by
  by_cases h : k < L.length
  · exact hL _ (List.mem_of_getElem? (entT_at L k h))
  · unfold entT
    rw [List.getD_eq_getElem?_getD, List.getElem?_eq_none (by omega)]
    exact Nat.zero_le _
theorem read_put {w W : World} {n D : Nat} {o : Obj} (h : Below n w W) (hd : n ≤ D) : Below n w (W.putObj D o) :=
  h.trans ⟨rfl, rfl, rfl, by simp, fun k hk => World.putObj_heap_other (by omega)⟩
/-- a round: past what stands beside at a place -/
def stepC (key : ByteArray) (d : Nat) (L : List ByteArray) (nd : ByteArray) (i : Nat) : ByteArray := if bitS key (d + min i L.length) = 1 then joinN (entT L i) nd else joinN nd (entT L i)
theorem fold_climbed (key : ByteArray) (d : Nat) (L : List ByteArray) (x : ByteArray) : ∀ k, k ≤ L.length → (downs L.length k).foldl (stepC key d L) x = climbed key d L x k := by
  intro k
  induction k with
  | zero => intro _; rw [climbed_zero]; rfl
  | succ k ih =>
    intro hk
    rw [downs_succ, List.foldl_append, ih (by omega), climbed_succ key d L x k (by omega)]
    show stepC key d L _ _ = _
    unfold stepC
    rw [Nat.min_eq_left (by omega)]
theorem fold_few (key : ByteArray) (d : Nat) (L : List ByteArray) (hL : ∀ s ∈ L, s.size ≤ 1000) : ∀ (pre : List Nat) (x : ByteArray), x.size ≤ 1000 → (pre.foldl (stepC key d L) x).size ≤ 1000
  | [], _, hx => hx
  | i :: r, x, hx => fold_few key d L hL r _ (by
    unfold stepC
    split
    · exact joinN_few _ _ (entT_few L i hL) hx
    · exact joinN_few _ _ hx (entT_few L i hL))
end Go.Proofs.YtemndmhdlgfajaaDoor

namespace Go.Proofs.YtemndmhdlgfajaaDoor
open Go.RowKit Go.Maps
attribute [local irreducible] shaL

theorem str_same (a b : ByteArray) : (a.toList == b.toList) = decide (a = b) := by
  rw [ByteArray.toList_eq, ByteArray.toList_eq, Bool.eq_iff_iff, beq_iff_eq, decide_eq_true_iff]
  exact ⟨fun h => ByteArray.ext (Array.toList_inj.1 h), fun h => by rw [h]⟩
def tellsB (L : List ByteArray) (t : Bool) (pk pv node key : ByteArray) (d : Nat) : Bool := goodB L t pk pv key d && decide (climbN key d L (if t then leafS pk pv else emptyS) = node)
end Go.Proofs.YtemndmhdlgfajaaDoor

namespace Go.Proofs.YtemndmhdlgfajaaDoor
open Go.RowKit Go.Maps
attribute [local irreducible] shaL

abbrev PutS := UInt8 × UInt8 × ByteArray
/-- a list of puts, as it came in -/
def PutsAt (w : World) (v : Value) (L : List PutS) : Prop :=
  ∃ a cap, v = .slice a L.length cap ∧ ∀ i (h : i < L.length), ∃ g o, a = some ⟨g, o, none⟩ ∧ w.cell? ⟨g, o + i * 3, none⟩ = some (.int .u8 (UInt8.toNat L[i].1)) ∧ w.cell? ⟨g, o + i * 3 + 1, none⟩ = some (.int .u8 (UInt8.toNat L[i].2.1)) ∧ w.cell? ⟨g, o + i * 3 + 2, none⟩ = some (.string L[i].2.2)
def cut20 (s : ByteArray) : ByteArray := s.extract 0 (min s.size 20)
theorem cut20_size (s : ByteArray) : (cut20 s).size ≤ 20 := by
  unfold cut20
  rw [ByteArray.size_extract]
  omega
theorem cut20_eq (s : ByteArray) : s.extract 0 (min (s.size : Int) 20).toNat = cut20 s := by
  unfold cut20
  congr 1
  omega
/-- the pairs that they make -/
def bothM (L : List PutS) : List PairS := L.foldl (fun M p => setM M (keyS14 p.1 p.2.1, cut20 p.2.2)) []
theorem bothM_snoc (L : List PutS) (p : PutS) : bothM (L ++ [p]) = setM (bothM L) (keyS14 p.1 p.2.1, cut20 p.2.2) := by
  unfold bothM
  rw [List.foldl_append]
  rfl
theorem setM_len (M : List PairS) (x : PairS) : (setM M x).length ≤ M.length + 1 := by
  unfold setM
  rw [List.length_append, List.length_singleton]
  have := List.length_filter_le (fun p : PairS => !decide (p.1 = x.1)) M
  omega
theorem setM_all {M : List PairS} {x : PairS} {P : PairS → Prop} (h : ∀ y ∈ M, P y) (hx : P x) : ∀ y ∈ setM M x, P y := by
  intro y hy
  rcases List.mem_append.1 hy with hy | hy
  · exact h y (List.mem_filter.1 hy).1
  · rw [List.mem_singleton.1 hy]; exact hx
theorem bothM_all : ∀ (L : List PutS) (M : List PairS), (∀ x ∈ M, x.1.size = 16 ∧ x.2.size ≤ 20) → (∀ x ∈ L.foldl (fun M p => setM M (keyS14 p.1 p.2.1, cut20 p.2.2)) M, x.1.size = 16 ∧ x.2.size ≤ 20) ∧ (L.foldl (fun M p => setM M (keyS14 p.1 p.2.1, cut20 p.2.2)) M).length ≤ M.length + L.length
  | [], M, h => ⟨h, by simp⟩
  | p :: r, M, h => by
    have h1 := bothM_all r (setM M (keyS14 p.1 p.2.1, cut20 p.2.2)) (setM_all h ⟨keyS14_size _ _, cut20_size _⟩)
    refine ⟨h1.1, Nat.le_trans h1.2 ?_⟩
    have := setM_len M (keyS14 p.1 p.2.1, cut20 p.2.2)
    simp only [List.length_cons]
    omega
theorem bothM_ok (L : List PutS) (hL : L.length ≤ 12) : (∀ x ∈ bothM L, x.1.size = 16 ∧ x.2.size ≤ 20) ∧ (bothM L).length ≤ 12 := by
  have h := bothM_all L [] (fun x hx => by cases hx)
  refine ⟨h.1, ?_⟩
  have := h.2
  simp only [List.length_nil] at this
  unfold bothM
  omega
theorem plain_of {M : List PairS} (h : ∀ x ∈ M, x.1.size = 16 ∧ x.2.size ≤ 20) (hl : M.length ≤ 12) : Plain M := ⟨fun x hx => (h x hx).1, fun x hx => by have := (h x hx).2; omega, by omega⟩
def ownL (v : Value) : List Nat := v.ownBlock.toList
theorem ownL_mem {v : Value} {x : Nat} : x ∈ ownL v ↔ v.ownBlock = some x := by unfold ownL; simp
theorem puts_ck {w w' : World} {g : Nat} {i j : Nat} {x y : Value} (k : w.grownBy w' none) (h : w.cell? ⟨g, i, none⟩ = some x ∧ w.cell? ⟨g, j, none⟩ = some y) : w'.cell? ⟨g, i, none⟩ = some x ∧ w'.cell? ⟨g, j, none⟩ = some y := ⟨k.cell h.1 (by simp), k.cell h.2 (by simp)⟩
theorem own_keep2' {w w' : World} {B n s : Nat} {t : TypeId} {v : Value} {xs : List Value} (h : w.ownsRow B t s v n xs) (k : w.grownBy w' none) : w'.ownsRow B t s v n xs := by
  refine ⟨h.1, ?_⟩
  rcases h.2 with h' | ⟨g, cap, cur, rfl, hB, hg, r⟩
  · exact .inl h'
  · exact .inr ⟨g, cap, cur, rfl, hB, (k.block g (Array.getElem?_eq_some_iff.1 hg).1 (by simp)).trans hg, r⟩
end Go.Proofs.YtemndmhdlgfajaaDoor

namespace Go.Proofs.YtemndmhdlgfajaaDoor
open Go.RowKit Go.Maps
attribute [local irreducible] shaL

/-- the pairs of a band -/
def bandS (M : List PairS) (d b : Nat) : List PairS := M.filter fun x => bandN x.1 d == b
def nodesB (M : List PairS) (d : Nat) : List ByteArray := (List.range (2 ^ d)).map fun b => nodeN (128 - d) (bandS M d b) d
theorem nodesB_len (M : List PairS) (d : Nat) : (nodesB M d).length = 2 ^ d := by simp [nodesB]
theorem band_first {s : ByteArray} {b d : Nat} (hb : b < 2 ^ d) (hs : ∀ i, bitS s i = if i < d then b / 2 ^ (d - 1 - i) % 2 else 0) (k : ByteArray) : belowB k s d = (bandN k d == b) := by
  have hN : bandN s d = b := by
    have h := band_of_bits s b d (fun i hi => by rw [hs i, if_pos hi]) d (Nat.le_refl _)
    rw [h, Nat.sub_self, Nat.pow_zero, Nat.div_one, Nat.mod_eq_of_lt hb]
  rw [Bool.eq_iff_iff, belowB_iff, beq_iff_eq]
  constructor
  · intro h
    rw [bandN_same k s d h, hN]
  · intro h i hi
    rw [← bandN_bit k d i hi, ← bandN_bit s d i hi, h, hN]
theorem start_band {s : ByteArray} {b d : Nat} (hb : b < 2 ^ d) (hs : ∀ i, bitS s i = if i < d then b / 2 ^ (d - 1 - i) % 2 else 0) (M : List PairS) : startM M s d = bandS M d b := by
  unfold startM bandS
  exact List.filter_congr fun x _ => band_first hb hs x.1
end Go.Proofs.YtemndmhdlgfajaaDoor

namespace Go.Proofs.YtemndmhdlgfajaaDoor
attribute [local irreducible] shaL

/-- the nodes above each two -/
def joinedL (L : List ByteArray) : List ByteArray := (List.range (L.length / 2)).map fun k => joinN (entT L (2 * k)) (entT L (2 * k + 1))
theorem joinedL_len (L : List ByteArray) : (joinedL L).length = L.length / 2 := by simp [joinedL]
theorem band_side (M : List PairS) (d b c : Nat) (hc : c ≤ 1) : side c d (bandS M d b) = bandS M (d + 1) (2 * b + c) := by
  unfold side bandS
  rw [List.filter_filter]
  refine List.filter_congr fun x _ => ?_
  have hb := bitS_le x.1 d
  rw [Bool.eq_iff_iff, Bool.and_eq_true, beq_iff_eq, beq_iff_eq, beq_iff_eq]
  show _ ↔ 2 * bandN x.1 d + bitS x.1 d = 2 * b + c
  omega
theorem entT_nodes (M : List PairS) (d k : Nat) (hk : k < 2 ^ d) : entT (nodesB M d) k = nodeN (128 - d) (bandS M d k) d := by
  unfold entT nodesB
  rw [List.getD_eq_getElem?_getD, List.getElem?_map, List.getElem?_range hk]
  rfl
theorem nodes_join (M : List PairS) (d : Nat) (hd : d ≤ 15) : joinedL (nodesB M (d + 1)) = nodesB M d := by
  have h2 : 2 ^ (d + 1) / 2 = 2 ^ d := by rw [Nat.pow_succ, Nat.mul_div_cancel _ (by decide)]
  unfold joinedL
  rw [nodesB_len, h2]
  show _ = (List.range (2 ^ d)).map fun b => nodeN (128 - d) (bandS M d b) d
  refine List.map_congr_left fun k hk => ?_
  have hk2 : k < 2 ^ d := List.mem_range.1 hk
  have hp : 2 ^ (d + 1) = 2 * 2 ^ d := by rw [Nat.pow_succ, Nat.mul_comm]
  rw [entT_nodes M (d + 1) (2 * k) (by omega), entT_nodes M (d + 1) (2 * k + 1) (by omega)]
  have e0 : side 0 d (bandS M d k) = bandS M (d + 1) (2 * k) := band_side M d k 0 (by omega)
  have e1 := band_side M d k 1 (by omega)
  rw [← e0, ← e1, show 128 - (d + 1) = 127 - d by omega]
  exact join_half (bandS M d k) d hd
/-- the one that is left -/
theorem nodes_root (M : List PairS) : nodesB M 0 = [nodeN 128 M 0] := by
  unfold nodesB
  have e : bandS M 0 0 = M := List.filter_eq_self.2 (fun _ _ => rfl)
  show [nodeN 128 (bandS M 0 0) 0] = _
  rw [e]
end Go.Proofs.YtemndmhdlgfajaaDoor

namespace Go.Proofs.YtemndmhdlgfajaaDoor
open Go.RowKit Go.Shelf

theorem ownsRow_far {W : World} {base : Nat} {e : TypeId} {size k : Nat} {v : Value} {xs : List Value} (h : W.ownsRow base e size v k xs) {j : Nat} (hj : v.ownBlock = some j) : base ≤ j ∧ ∃ o : Obj, W.heap[j]? = some o ∧ o.isCells = true := by
  rcases h.2 with ⟨rfl, _⟩ | ⟨g, cap, cur, rfl, hb, hgb, _⟩
  · simp [Value.ownBlock] at hj
  · obtain rfl : g = j := by simpa [Value.ownBlock] using hj
    exact ⟨hb, _, hgb, rfl⟩
theorem ownsRow_stays {W W' : World} {base : Nat} {e : TypeId} {size k : Nat} {v : Value} {xs : List Value} (h : W.ownsRow base e size v k xs) (hg : W.grownBy W' none) : W'.ownsRow base e size v k xs := by
  refine h.kept hg ?_
  cases hv : v.ownBlock with
  | none => exact .inl rfl
  | some g => exact .inr (by simp)
theorem append_round {W4 W w2 w8 : World} {n n₀ B : Nat} {t e : TypeId} {size k m : Nat} {v v' : Value} {xs ys : List Value} {tmp : Obj} (hte : t ≠ e) (hn : n < n₀) (hn₀ : n₀ ≤ W.heap.size) (hB : Below n W4 W) (b1 : Boxed W n t v) (hO : W.ownsRow n₀ e size v k xs) (g2 : W.grownBy w2 none)
    (ho8 : w8.ownsRow n₀ e size v' m ys) (hg8 : (w2.alloc tmp).grownBy w8 v.ownBlock) :
    (w8.cell? ⟨n, 0, none⟩ = some v ∧ w8.frozen? ⟨n, 0, none⟩ = false) ∧
    (KeepsFrom B W (w8.setCell ⟨n, 0, none⟩ v') ∧ Turn (butOne n₀ n) W (w8.setCell ⟨n, 0, none⟩ v') ∧ (∃ v, Boxed (w8.setCell ⟨n, 0, none⟩ v') n t v ∧ (w8.setCell ⟨n, 0, none⟩ v').ownsRow n₀ e size v m ys ∧ True) ∧ Below n W4 (w8.setCell ⟨n, 0, none⟩ v')) := by
  have b2 := b1.kept g2 (by simp)
  have hO2 := ownsRow_stays hO g2
  have hO3 := ownsRow_stays hO2 (World.grownBy_alloc w2 tmp none)
  have g3 : W.grownBy (w2.alloc tmp) none := grownBy_trans g2 (World.grownBy_alloc w2 tmp none)
  have b3 := b2.alloc tmp
  have b8 : Boxed w8 n t v := b3.kept hg8 (b3.not_row hte hO3)
  refine ⟨⟨b8.cell, b8.frozen⟩, ?_, ?_, ⟨v', b8.set v', ho8.kept (grownBy_setCell' w8 n v') (.inr (b8.not_row hte ho8).symm), trivial⟩, ?_⟩
  · refine (((KeepsOthers.of_grownBy g3 (fun j o ej _ => by cases ej)).trans (KeepsOthers.of_grownBy hg8 fun j o ej hj => ?_)).trans (KeepsOthers.setCell _ _ _)).from _
    obtain ⟨_, o', h1, h2⟩ := ownsRow_far hO3 ej
    rw [h1] at hj
    cases hj
    exact h2
  · have h0 : Turn (butOne n₀ n) W (w2.alloc tmp) := Turn.of_grown g3
    have h1 : Turn (butOne n₀ n) W w8 := h0.row hg8 (fun i _ ei => Or.inl (ownsRow_far hO3 ei).1)
    exact h1.setCell (k := n) (fun _ => Or.inr rfl) 0 v'
  · have hs := hB.size
    have h1 : Below n W4 (w2.alloc tmp) := hB.grown g3 (by omega) (fun k e => by cases e)
    have h2 : Below n W4 w8 := h1.grown hg8 (by have := g3.size; omega) (fun j ej => by have := (ownsRow_far hO3 ej).1; omega)
    exact h2.setCell (p := ⟨n, 0, none⟩) (Nat.le_refl _) v'
end Go.Proofs.YtemndmhdlgfajaaDoor

namespace Go.Proofs.YtemndmhdlgfajaaDoor
open Go.ChangeShapes Go.WideShapes Go.ChangeAt Go.RowKit Go.Lib Go.Shelf

/-- a listed array of 32-bit numbers, cell by cell -/
theorem u32_of_reads {w : World} {name : String} {g t : Nat} {n : Nat} (L : List Nat) (hL : L.length = n) (hn : Tryd.prog.globalNamed name = some g) (hy : (Tryd.prog.globals[g]?).map (·.type) = some t)
    (hu : Tryd.prog.underlying t = some (.array n 123)) (hc : Tryd.prog.cellsOf 123 = 1)
    (h : VarReads Tryd.prog w name (.agg (L.map fun n : Nat => .lit (.int .u32 (n : Int))))) (i : Nat) (hi : i < n) : w.cell? ⟨g, i, none⟩ = some (.int .u32 (L.getD i 0 : Nat)) := by
  obtain ⟨g', t', cs, fuel, p, hg, hty, hvar, hd⟩ := h
  obtain rfl := Option.some.inj (hn.symm.trans hg)
  obtain rfl := Option.some.inj (hy.symm.trans hty)
  obtain ⟨fuel', d, q, hdi, he⟩ := array_elem hu hd i hi
  rw [hc] at he
  obtain ⟨z, e0, x0, _⟩ := DataW.trod_int Tryd.underlying123 he
  have hd2 : d = .lit (.int .u32 (L.getD i 0 : Nat)) := by
    have hlt : i < L.length := by omega
    rw [List.getElem?_map, List.getElem?_eq_getElem hlt] at hdi
    rw [List.getD_eq_getElem?_getD, List.getElem?_eq_getElem hlt]
    exact (Option.some.inj hdi).symm
  rw [hd2] at x0
  rw [World.var?_cell hn hvar i]
  have := congrArg (fun l : List Value => l[0]?) e0
  simp [List.getElem?_take, List.getElem?_drop] at this
  rw [this]
  simp only [Prod.mk.injEq, DataW.lit.injEq, Lit.int.injEq, true_and] at x0
  rw [x0.1]

theorem start_is : (Rows.laid_plumbob_sha_start : DataW Unit) = .agg (start.list.map fun n : Nat => .lit (.int .u32 (n : Int))) := by kernel_rfl
theorem roots_is : (Rows.laid_plumbob_sha_roots : DataW Unit) = .agg (rootsL.map fun n : Nat => .lit (.int .u32 (n : Int))) := by kernel_rfl
theorem nStart : Tryd.prog.globalNamed "plumbob/sha.start" = some 0 := by kernel_rfl
theorem yStart : (Tryd.prog.globals[0]?).map (·.type) = some 124 := by kernel_rfl
theorem nRoots : Tryd.prog.globalNamed "plumbob/sha.roots" = some 1 := by kernel_rfl
theorem yRoots : (Tryd.prog.globals[1]?).map (·.type) = some 139 := by kernel_rfl
theorem cU32 : Tryd.prog.cellsOf 123 = 1 := by kernel_rfl
theorem shaReady_of_laid {w : World} (h : laidMet Tryd.prog [("plumbob/sha.start", Rows.laid_plumbob_sha_start), ("plumbob/sha.roots", Rows.laid_plumbob_sha_roots)] w) : ShaReady w := by
  have h1 := Lib.laidMet.reads h (.head _)
  have h2 := Lib.laidMet.reads h (.tail _ (.head _))
  rw [start_is] at h1
  rw [roots_is] at h2
  refine ⟨fun j v hv => ?_, fun i hi => u32_of_reads rootsL rfl nRoots yRoots Tryd.underlying139 cU32 h2 i hi⟩
  have hj : j < 8 := by
    have := (List.getElem?_eq_some_iff.1 hv).1
    rwa [u32s_length, St.list_length] at this
  rw [Nat.zero_add, u32_of_reads start.list rfl nStart yStart Tryd.underlying124 cU32 h1 j hj, ← hv, u32s_at _ _ (by rw [St.list_length]; exact hj)]

/-- the settled world, the two variables holding what their texts lay -/
noncomputable def shaWorld (os : Os) : World :=
  let w0 := World.holding Tryd.prog os ⟨#[], #[], []⟩
  let put (h : Array Obj) (g : Nat) (cs : Array Value) : Array Obj := h.modify g fun
    | .cells _ t frozen => .cells cs t frozen
    | o => o
  let h1 := put w0.heap 0 (u32s start.list).toArray
  let h2 := put h1 1 (u32s rootsL).toArray
  { w0 with heap := h2 }
theorem sha_met (os : Os) (args : Array Value) : laidMet Tryd.prog [("plumbob/sha.start", Rows.laid_plumbob_sha_start), ("plumbob/sha.roots", Rows.laid_plumbob_sha_roots)] ((shaWorld os).forCall (fun _ _ => 0) ⟨#[], args, []⟩).memory :=
  (LaidIn.of_run (l := [("plumbob/sha.start", Rows.laid_plumbob_sha_start), ("plumbob/sha.roots", Rows.laid_plumbob_sha_roots)]) [0, 1] 8 (by kernel_rfl) (by kernel_rfl) (by kernel_rfl) (by kernel_rfl)).met
theorem own : ownKnob Tryd.prog.godebug = none := by kernel_rfl
end Go.Proofs.YtemndmhdlgfajaaDoor

namespace Go.Proofs.YtemndmhdlgfajaaDoor
open Go.RowKit Go.ChangeShapes Go.WideShapes

theorem cell_plain' {w : World} {a : Addr} {n : Nat} {v : Value} (h : w.cell? (a.add n) = some v) : w.cell? ⟨a.block, a.off + n, none⟩ = some v := by
  have hs := World.cell?_spot h
  obtain ⟨b, o, sp⟩ := a
  by_cases hn : n = 0
  · subst hn
    have : sp = none := by simpa [Addr.add] using hs
    subst this
    simpa [Addr.add] using h
  · simpa [Addr.add, hn] using h

section
variable {H : Type} {enc : TypeId × Value → H} {P : Program} {w : World} {base : Nat} {spare : Nat → Bool} {held : Bool}
def byteOf : Value → UInt8 | .int _ n => UInt8.ofNat n.toNat | _ => 0
/-- an array of bytes -/
theorem open_byte_array {r : Reach} {b0 : Nat} {t e : TypeId} {n : Nat} {v : Value} {d : DataW H} {p : List MemPlace} (hu : P.underlying t = some (.array n e)) (he : P.underlying e = some (.int .u8)) (hce : P.cellsOf e = 1) (hct : P.cellsOf t = n)
    (hval : Value.okWide P w r b0 t v) (h : DataW.Trod enc P w base spare held t v d p) : ∃ l : List UInt8, l.length = n ∧ v = .agg (bytesV l).toArray := by
  simp only [Value.okWide, hu] at hval
  obtain ⟨cs, rfl, hsz, -⟩ := hval
  obtain ⟨fuel, hf⟩ := h
  obtain ⟨xs, m, rfl, hx, hcl, hxl, hat⟩ := DataW.trod_array hu hf
  have hcs : cs.toList.length = n := by rw [← hct]; simpa using hsz
  refine ⟨cs.toList.map byteOf, by simpa using hcs, ?_⟩
  congr 1
  apply Array.toList_inj.1
  apply List.ext_getElem (by simp [bytesV])
  intro i h1 h2
  have hi : i < n := by omega
  have h3 := hat i hi
  have hxi : xs[i]? = some (xs[i]'(by omega)) := List.getElem?_eq_getElem (by omega)
  have h4 : ((Value.agg cs).cells.toList.drop (i * P.cellsOf e)).take (P.cellsOf e) = [cs.toList[i]] := by
    rw [hce, Nat.mul_one]
    show (cs.toList.drop i).take 1 = _
    rw [List.drop_eq_getElem_cons (by omega)]
    rfl
  rw [h4, hxi] at h3
  obtain ⟨a, ea, -, wa⟩ := DataW.trod_int he h3
  simp only [List.cons.injEq, and_true] at ea
  have hb : 0 ≤ a ∧ a ≤ 255 := by simpa [Lit.wf, IntKind.min, IntKind.max, IntKind.signed, IntKind.bits] using wa
  simp only [bytesV, List.getElem_map, List.getElem_toArray, ea, byteOf]
  congr 1
  simp
  omega
/-- a slice of integers: nil, or cells -/
theorem open_int_slice {t e : TypeId} {a0 : Option Addr} {len cap : Nat} {d : DataW H} {p : List MemPlace} (ht : P.underlying t = some (.slice e)) (he : P.underlying e = some (.int .i64)) (hc : P.cellsOf e = 1)
    (h : DataW.Trod enc P w base spare held t (.slice a0 len cap) d p) : ∃ L : List Int, L.length = len ∧ IntsAt w (.slice a0 len cap) L ∧ len ≤ cap ∧ cap ≤ maxLen ∧ ∀ x ∈ L, -9223372036854775808 ≤ x ∧ x ≤ 9223372036854775807 := by
  obtain ⟨fuel, hf⟩ := h
  rcases open_ints ht he hc hf with ⟨hcs, hx⟩ | ⟨a, len', cap', zs, hcs, _, hl, hm, hz, hx, hcell, hws⟩
  · have hv : Value.slice a0 len cap = .slice none 0 0 := by simpa [Value.cells] using hcs
    cases hv
    exact ⟨[], rfl, IntsAt.nil _ _ _, Nat.le_refl _, by unfold maxLen; omega, by simp⟩
  · have hv : Value.slice a0 len cap = .slice (some a) len' cap' := by simpa [Value.cells] using hcs
    cases hv
    have hls : len ≤ zs.length := by rw [hz]; split <;> omega
    have hlen : (zs.take len).length = len := by simp; omega
    refine ⟨zs.take len, hlen, ⟨some a, cap, by rw [hlen], fun i hi => ?_⟩, hl, hm, fun x hx => ?_⟩
    · have hc' := hcell i (by omega)
      have h00 := World.cell?_spot (hcell 0 (by omega))
      obtain ⟨g, o, sp⟩ := a
      obtain rfl : sp = none := by simpa [Addr.add] using h00
      refine ⟨g, o, rfl, ?_⟩
      rw [cell_plain' hc', List.getElem_take, List.getD_eq_getElem?_getD, List.getElem?_eq_getElem (by omega)]
      rfl
    · have := hws x (List.mem_of_mem_take hx)
      simpa [Lit.wf, IntKind.min, IntKind.max, IntKind.signed, IntKind.bits] using this
/-- an array of integers -/
theorem open_int_array {r : Reach} {b0 : Nat} {t e : TypeId} {n : Nat} {k : IntKind} {v : Value} {d : DataW H} {p : List MemPlace} (hu : P.underlying t = some (.array n e)) (he : P.underlying e = some (.int k)) (hce : P.cellsOf e = 1) (hct : P.cellsOf t = n)
    (hval : Value.okWide P w r b0 t v) (h : DataW.Trod enc P w base spare held t v d p) : ∃ l : List Int, l.length = n ∧ (∀ x ∈ l, (Lit.int k x).wf = true) ∧ v = .agg (l.map (Value.int k)).toArray := by
  simp only [Value.okWide, hu] at hval
  obtain ⟨cs, rfl, hsz, -⟩ := hval
  obtain ⟨fuel, hf⟩ := h
  obtain ⟨xs, m, rfl, hx, hcl, hxl, hat⟩ := DataW.trod_array hu hf
  have hcs : cs.toList.length = n := by rw [← hct]; simpa using hsz
  have each : ∀ i (hi : i < n), ∃ a, cs.toList[i]'(by omega) = .int k a ∧ (Lit.int k a).wf = true := by
    intro i hi
    have h3 := hat i hi
    have hxi : xs[i]? = some (xs[i]'(by omega)) := List.getElem?_eq_getElem (by omega)
    have h4 : ((Value.agg cs).cells.toList.drop (i * P.cellsOf e)).take (P.cellsOf e) = [cs.toList[i]'(by omega)] := by
      rw [hce, Nat.mul_one]
      show (cs.toList.drop i).take 1 = _
      rw [List.drop_eq_getElem_cons (by omega)]
      rfl
    rw [h4, hxi] at h3
    obtain ⟨a, ea, -, wa⟩ := DataW.trod_int he h3
    simp only [List.cons.injEq, and_true] at ea
    exact ⟨a, ea, wa⟩
  refine ⟨cs.toList.map intOf, by simpa using hcs, ?_, ?_⟩
  · intro x hx
    obtain ⟨v, hv, rfl⟩ := List.mem_map.1 hx
    obtain ⟨i, hi, rfl⟩ := List.getElem_of_mem hv
    obtain ⟨a, ea, wa⟩ := each i (by omega)
    rw [ea]
    exact wa
  · congr 1
    apply Array.toList_inj.1
    apply List.ext_getElem (by simp)
    intro i h1 h2
    obtain ⟨a, ea, wa⟩ := each i (by omega)
    simp only [List.getElem_map, ea, intOf]
end
end Go.Proofs.YtemndmhdlgfajaaDoor

namespace Go.Proofs.YtemndmhdlgfajaaDoor
open Go.ChangeShapes Go.WideShapes Go.ChangeAt Go.RowKit

variable {H : Type} {enc : TypeId × Value → H} {P : Program}

/-- The row's post where nothing that was there has turned ('again' is false: nothing is asked of what is frozen). -/
theorem post_of_below {f : Func} {s : ChangeSpec} {apart fresh handsOn : Bool} {W W' : World} {args : Array Value} {v : Value} {ds gs : List (DataW H)} {before pa pv : List MemPlace}
    (hW : DataW.Whole enc P f.params.toList s.vars apart W args.toList ds gs before)
    (hres : ∀ (b : Nat) (sp : Nat → Bool) (hd : Bool), DataW.TrodAll enc P W' b sp hd f.resultTypes.toList (v.resultList f.resultTypes.size) (s.fn H (ds ++ gs)).results [])
    (hargs : ∀ sp : Nat → Bool, (∀ p ∈ before, sp p.block = true) → DataW.TrodAll enc P W' 0 sp true f.params.toList args.toList (s.fn H (ds ++ gs)).args pa)
    (hvars : ∀ sp : Nat → Bool, (∀ p ∈ before, sp p.block = true) → DataW.TrodVars enc P W' sp s.vars (s.fn H (ds ++ gs)).vars pv)
    (hps : before = pa ++ pv) (hk : Below W.heap.size W W') :
    s.post enc P f apart fresh handsOn false W args v W' := by
  have hold : ∀ p ∈ before, (fun b => decide (b < W.heap.size)) p.block = true := fun p hp => by simpa using hW.lt p hp
  refine ⟨ds, gs, before, [], pa, pv, hW, hres _ _ _, hargs _ hold, hvars _ hold, World.keptBut_mono (fun p hp => ⟨hp, ?_⟩) (hk.frame (· ∈ before)), fun h => by cases h⟩
  rw [hps, List.mem_append] at hp
  exact Or.inr hp

/-- The same, what was handed in being read again by 'Below.trod'. -/
theorem post_of_below_at {f : Func} {s : ChangeSpec} {apart fresh handsOn : Bool} {W W' : World} {args : Array Value} {v : Value} {ds gs : List (DataW H)} {before pa pv : List MemPlace}
    (hW : DataW.Whole enc P f.params.toList s.vars apart W args.toList ds gs before)
    (hres : ∀ (b : Nat) (sp : Nat → Bool) (hd : Bool), DataW.TrodAll enc P W' b sp hd f.resultTypes.toList (v.resultList f.resultTypes.size) (s.fn H (ds ++ gs)).results [])
    (hargs : DataW.TrodAll enc P W' 0 (fun b => decide (b < W.heap.size)) true f.params.toList args.toList (s.fn H (ds ++ gs)).args pa)
    (hvars : DataW.TrodVars enc P W' (fun b => decide (b < W.heap.size)) s.vars (s.fn H (ds ++ gs)).vars pv)
    (hps : before = pa ++ pv) (hk : Below W.heap.size W W') :
    s.post enc P f apart fresh handsOn false W args v W' := by
  refine ⟨ds, gs, before, [], pa, pv, hW, hres _ _ _, hargs, hvars, World.keptBut_mono (fun p hp => ⟨hp, ?_⟩) (hk.frame (· ∈ before)), fun h => by cases h⟩
  rw [hps, List.mem_append] at hp
  exact Or.inr hp
end Go.Proofs.YtemndmhdlgfajaaDoor
