/- Pairs in memory; the walk of the document's Set, Leaf. · The walks of the document's Leaf and Node. · Plain words: a node of both its halves. No walk. · Plain words: the way to a key, what stands beside it, the climb back. No walk. · Plain words for Prove: the keys that go on, the way so far. No walk. · The walk of Prove. · The walk of a proof's Node, by what climb is said to do. · slices.Backward over texts. · The walk of proof's climb. · The walks of a proof's tells, Has, Lacks, by what climb is said to do. · Prove, where a key or a depth may not be; climb, in the form that Node, Has, Lacks ask for. · A tree's own proof: Good, Node, Has, Lacks of it. · The walk of layer 14's laws' both. · The walk of layer 14's laws' speaks. · The walk of Decode. · The walk of header's Decode. · The walk of a proof's Encode, where it is done. · The walk of band's Nodes. · Plain words for band's Root: the nodes above each two. No walk. · What a round that appends to a box's row owes, a call lying between. No walk. · The walks of the document's Encode and Value of an entry. · Arguments opened: arrays of bytes, slices of integers. No walk. -/
import Derived.Test.YtioahjdojgcfdaaDoorHeaderChainsB4
import Derived.Test.YtioahjdojgcfdaaDoorHeaderChainsB3
import Derived.Test.YtioahjdojgcfdaaDoorRefTag
import Derived.Maps.AppendAt
import Derived.Deep.RegionWith
import Derived.Test.YtioahjdojgcfdaaDoorHeaderChainsB5
import Derived.Deep.DeepCutAuto
import Derived.Test.YtioahjdojgcfdaaDoorHeaderChainsB2
import Derived.Deep.AppendLies
import Derived.Deep.RegionHeld3
import Derived.RangeFuncNested
import Derived.RangeFuncBound
import Derived.RangeFuncCalls
import Derived.RangeFuncLeaves
import Derived.Shelf.Abstract
import Derived.Shelf.RegionOpen
import Derived.OwnWalkIn
import Derived.TacticsInMore
import Derived.LoopNIn
import Derived.LoopIn
import Derived.Test.YtioahjdojgcfdaaDoorHeaderChainsB1
import Derived.RangeFuncBox
import Derived.OpenShut
import Derived.WideKeyArr2
import Derived.ChangeSlices
namespace Go.Proofs.YtioahjdojgcfdaaDoor
open Go.RowKit Go.Maps
attribute [local irreducible] shaL

def pv (M : List PairS) : List Value := M.flatMap fun x => [.string x.1, .string x.2]
theorem pv_length : ∀ M : List PairS, (pv M).length = M.length * 2
  | [] => rfl
  | x :: r => by
    have := pv_length r
    simp only [pv, List.flatMap_cons, List.length_append, List.length_cons, List.length_nil] at this ⊢
    omega
theorem pv_append (M N : List PairS) : pv (M ++ N) = pv M ++ pv N := by simp [pv]
theorem pv_at : ∀ (M : List PairS) (i : Nat) (h : i < M.length), (pv M)[i * 2]? = some (.string M[i].1) ∧ (pv M)[i * 2 + 1]? = some (.string M[i].2)
  | x :: r, 0, _ => ⟨rfl, rfl⟩
  | x :: r, i + 1, h => by
    have ih := pv_at r i (by simpa using h)
    have e : pv (x :: r) = .string x.1 :: .string x.2 :: pv r := rfl
    rw [e, show (i + 1) * 2 = i * 2 + 1 + 1 by omega]
    simp only [List.getElem?_cons_succ, List.getElem_cons_succ]
    exact ih
def PairsAt (w : World) (v : Value) (M : List PairS) : Prop :=
  ∃ a cap, v = .slice a M.length cap ∧ M.length ≤ cap ∧ cap ≤ maxLen ∧ ∀ i (h : i < M.length), ∃ g o, a = some ⟨g, o, none⟩ ∧ w.cell? ⟨g, o + i * 2, none⟩ = some (.string M[i].1) ∧ w.cell? ⟨g, o + i * 2 + 1, none⟩ = some (.string M[i].2)
theorem PairsAt.grown {w w' : World} {v : Value} {M : List PairS} (h : PairsAt w v M) (k : w.grownBy w' none) : PairsAt w' v M := by
  obtain ⟨a, cap, e, h1, h2, hc⟩ := h
  refine ⟨a, cap, e, h1, h2, fun i hi => ?_⟩
  obtain ⟨g, o, e2, h3, h4⟩ := hc i hi
  exact ⟨g, o, e2, k.cell h3 (by simp), k.cell h4 (by simp)⟩
theorem own_low2 {w : World} {B B' n s : Nat} {t : TypeId} {v : Value} {xs : List Value} (h : w.ownsRow B t s v n xs) (hb : B' ≤ B) : w.ownsRow B' t s v n xs := by
  refine ⟨h.1, ?_⟩
  rcases h.2 with h' | ⟨g, cap, cur, rfl, hB, r⟩
  · exact .inl h'
  · exact .inr ⟨g, cap, cur, rfl, Nat.le_trans hb hB, r⟩
theorem eq_str (a b : ByteArray) : (a.toList == b.toList) = decide (a = b) := by
  rw [ByteArray.toList_eq, ByteArray.toList_eq, Bool.eq_iff_iff, beq_iff_eq, decide_eq_true_iff]
  exact ⟨fun h => ByteArray.ext (Array.toList_inj.1 h), fun h => by rw [h]⟩
theorem filter_step (M : List PairS) (P : PairS → Bool) (i : Nat) (h : i < M.length) : (M.take (i + 1)).filter P = (M.take i).filter P ++ (if P M[i] then [M[i]] else []) := by
  rw [List.take_succ_eq_append_getElem h, List.filter_append]
  congr 1
  by_cases hp : P M[i] = true
  · simp [hp]
  · simp [hp]
end Go.Proofs.YtioahjdojgcfdaaDoor

namespace Go.Proofs.YtioahjdojgcfdaaDoor
open Go.RowKit Go.Maps
attribute [local irreducible] shaL

theorem own_keep2 {w w' : World} {B n s : Nat} {t : TypeId} {v : Value} {xs : List Value} {row : Option Nat} (h : w.ownsRow B t s v n xs) (k : w.grownBy w' row) (hne : ∀ x, v.ownBlock = some x → row ≠ some x) : w'.ownsRow B t s v n xs := by
  refine ⟨h.1, ?_⟩
  rcases h.2 with h' | ⟨g, cap, cur, rfl, hB, hg, r⟩
  · exact .inl h'
  · exact .inr ⟨g, cap, cur, rfl, hB, (k.block g (Array.getElem?_eq_some_iff.1 hg).1 (fun e => hne g rfl e.symm)).trans hg, r⟩
theorem side_take (b d : Nat) (M : List PairS) (i : Nat) (h : i < M.length) : side b d (M.take (i + 1)) = side b d (M.take i) ++ (if bitS M[i].1 d == b then [M[i]] else []) := filter_step M (fun x => bitS x.1 d == b) i h
theorem head_of {y : ByteArray} (hn : NodeS y) (hne : y ≠ emptyS) : ∃ h : 0 < y.size, (leafB y = true ∧ y[0] = 1) ∨ (leafB y = false ∧ y[0] = 2) := by
  cases hn with
  | none => exact absurd rfl hne
  | leaf k v => exact ⟨by rw [leafS_size]; decide, .inl ⟨leafS_leaf k v, rfl⟩⟩
  | both a b => exact ⟨by rw [bothS_size]; decide, .inr ⟨bothS_leaf a b, rfl⟩⟩
/-- of some keys the node isn't empty -/
theorem nodeN_some : ∀ (f d : Nat) (l : List PairS), d + f = 128 → Alike d l → l ≠ [] → nodeN f l d ≠ emptyS
  | 0, d, l, hd, hA, hne => by
    have := hA.few (by omega)
    match l, this, hne with
    | [x], _, _ => exact leafS_ne _ _
  | f + 1, d, l, hd, hA, hne => by
    match l, hne, hA with
    | [x], _, _ => exact leafS_ne _ _
    | x :: y :: r, _, hA =>
      rw [nodeN_more f d _ (by simp)]
      have hl := side_len d (x :: y :: r)
      have h0 := nodeN_some f (d + 1) (side 0 d (x :: y :: r)) (by omega) hA.side
      have h1 := nodeN_some f (d + 1) (side 1 d (x :: y :: r)) (by omega) hA.side
      unfold joinN
      split
      · rename_i h
        by_cases he : side 1 d (x :: y :: r) = []
        · by_cases he0 : side 0 d (x :: y :: r) = []
          · rw [he, he0] at hl; simp at hl
          · exact absurd h.1 (h0 he0)
        · exact h1 he
      · split
        · rename_i h
          by_cases he0 : side 0 d (x :: y :: r) = []
          · by_cases he : side 1 d (x :: y :: r) = []
            · rw [he, he0] at hl; simp at hl
            · exact absurd h.1 (h1 he)
          · exact h0 he0
        · exact bothS_ne _ _
end Go.Proofs.YtioahjdojgcfdaaDoor

namespace Go.Proofs.YtioahjdojgcfdaaDoor
open Go.RowKit
attribute [local irreducible] shaL

theorem half_bits {k s : ByteArray} {d b : Nat} (hb : b ≤ 1) (h : ∀ i, bitS s i = if i < d + 1 then (2 * bandN k d + b) / 2 ^ (d + 1 - 1 - i) % 2 else 0) : (∀ i, i < d → bitS s i = bitS k i) ∧ bitS s d = b := by
  constructor
  · intro i hi
    rw [h i, if_pos (by omega), ← bandN_bit k d i hi, show d + 1 - 1 - i = (d - 1 - i) + 1 by omega, Nat.pow_succ, Nat.mul_comm (2 ^ _) 2, ← Nat.div_div_eq_div_mul]
    congr 2
    omega
  · rw [h d, if_pos (by omega), show d + 1 - 1 - d = 0 by omega]
    omega
theorem start_half {M : List PairS} {k s : ByteArray} {d b : Nat} (h1 : ∀ i, i < d → bitS s i = bitS k i) (h2 : bitS s d = b) : startM M s (d + 1) = side b d (startM M k d) := by
  unfold startM side
  rw [List.filter_filter]
  refine List.filter_congr fun x _ => ?_
  have e : belowB x.1 s d = belowB x.1 k d := by
    rw [Bool.eq_iff_iff, belowB_iff, belowB_iff]
    exact ⟨fun h i hi => (h i hi).trans (h1 i hi), fun h i hi => (h i hi).trans (h1 i hi).symm⟩
  rw [belowB_succ, e, h2, Bool.and_comm]
theorem join_half (l : List PairS) (d : Nat) (hd : d ≤ 15) : joinN (nodeN (127 - d) (side 0 d l) (d + 1)) (nodeN (127 - d) (side 1 d l) (d + 1)) = nodeN (128 - d) l d := by
  by_cases h2 : 2 ≤ l.length
  · rw [show 128 - d = (127 - d) + 1 by omega, nodeN_more _ _ _ h2]
  · match l, h2 with
    | [], _ =>
      show joinN (nodeN _ [] _) (nodeN _ [] _) = _
      rw [nodeN_nil, nodeN_nil]
      unfold joinN
      rw [if_pos ⟨rfl, .inl rfl⟩]
    | [x], _ =>
      have hb := bitS_le x.1 d
      rw [nodeN_one]
      by_cases h : bitS x.1 d = 0
      · have e0 : side 0 d [x] = [x] := by unfold side; simp [h]
        have e1 : side 1 d [x] = [] := by unfold side; simp [h]
        rw [e0, e1, nodeN_one, nodeN_nil]
        unfold joinN
        rw [if_neg (fun q => leafS_ne _ _ q.1), if_pos ⟨rfl, leafS_leaf _ _⟩]
      · have h1 : bitS x.1 d = 1 := by omega
        have e0 : side 0 d [x] = [] := by unfold side; simp [h1]
        have e1 : side 1 d [x] = [x] := by unfold side; simp [h1]
        rw [e0, e1, nodeN_one, nodeN_nil]
        unfold joinN
        rw [if_pos ⟨rfl, .inr (leafS_leaf _ _)⟩]
    | x :: y :: r, h2 => simp at h2
theorem nodeAt_half {M : List PairS} {k s : ByteArray} {d b : Nat} (hd : d ≤ 15) (hb : b ≤ 1) (h : ∀ i, bitS s i = if i < d + 1 then (2 * bandN k d + b) / 2 ^ (d + 1 - 1 - i) % 2 else 0) : nodeAt M s (d + 1) = nodeN (127 - d) (side b d (startM M k d)) (d + 1) := by
  obtain ⟨h1, h2⟩ := half_bits hb h
  unfold nodeAt
  rw [start_half h1 h2, show 128 - (d + 1) = 127 - d by omega]
theorem nodeAt_join {M : List PairS} {k s0 s1 : ByteArray} {d : Nat} (hd : d ≤ 15) (h0 : ∀ i, bitS s0 i = if i < d + 1 then (2 * bandN k d + 0) / 2 ^ (d + 1 - 1 - i) % 2 else 0) (h1 : ∀ i, bitS s1 i = if i < d + 1 then (2 * bandN k d + 1) / 2 ^ (d + 1 - 1 - i) % 2 else 0) :
    joinN (nodeAt M s0 (d + 1)) (nodeAt M s1 (d + 1)) = nodeAt M k d := by
  rw [nodeAt_half hd (by omega) h0, nodeAt_half hd (by omega) h1, join_half _ d hd]
  rfl
end Go.Proofs.YtioahjdojgcfdaaDoor

namespace Go.Proofs.YtioahjdojgcfdaaDoor
attribute [local irreducible] shaL

/-- those on the key's own side, and those on the other one -/
def onS (key : ByteArray) (d : Nat) (l : List PairS) : List PairS := side (bitS key d) d l
def offS (key : ByteArray) (d : Nat) (l : List PairS) : List PairS := side (1 - bitS key d) d l
/-- what stands beside the way to a key -/
def wayB (key : ByteArray) : Nat → List PairS → Nat → List ByteArray
  | 0, _, _ => []
  | f + 1, l, d => if l.length < 2 then [] else nodeN f (offS key d l) (d + 1) :: wayB key f (onS key d l) (d + 1)
/-- who is at its end -/
def restB (key : ByteArray) : Nat → List PairS → Nat → List PairS
  | 0, l, _ => l
  | f + 1, l, d => if l.length < 2 then l else restB key f (onS key d l) (d + 1)
def endS : List PairS → ByteArray
  | [] => emptyS
  | x :: _ => leafS x.1 x.2
/-- up from a node, past what stands beside -/
def climbN (key : ByteArray) : Nat → List ByteArray → ByteArray → ByteArray
  | _, [], x => x
  | d, b :: r, x => if bitS key d = 1 then joinN b (climbN key (d + 1) r x) else joinN (climbN key (d + 1) r x) b
theorem endS_few (f : Nat) (l : List PairS) (d : Nat) (h : l.length ≤ 1) : endS l = nodeN f l d := by
  match l, h with
  | [], _ => rw [nodeN_nil]; rfl
  | [x], _ => rw [nodeN_one]; rfl
theorem way_climb (key : ByteArray) : ∀ (f d : Nat) (l : List PairS), d + f = 128 → Alike d l → climbN key d (wayB key f l d) (endS (restB key f l d)) = nodeN f l d := by
  intro f
  induction f with
  | zero =>
    intro d l hd hA
    exact endS_few 0 l d (hA.few (by omega))
  | succ f ih =>
    intro d l hd hA
    unfold wayB restB
    by_cases h : l.length < 2
    · rw [if_pos h, if_pos h]
      exact endS_few (f + 1) l d (by omega)
    · rw [if_neg h, if_neg h, nodeN_more f d l (by omega)]
      unfold climbN
      rw [ih (d + 1) (onS key d l) (by omega) hA.side]
      have hb := bitS_le key d
      unfold onS offS
      by_cases h1 : bitS key d = 1
      · rw [if_pos h1, h1]
      · have h0 : bitS key d = 0 := by omega
        rw [if_neg h1, h0]
theorem rest_few (key : ByteArray) : ∀ (f d : Nat) (l : List PairS), d + f = 128 → Alike d l → (restB key f l d).length ≤ 1 := by
  intro f
  induction f with
  | zero =>
    intro d l hd hA
    exact hA.few (by omega)
  | succ f ih =>
    intro d l hd hA
    unfold restB
    by_cases h : l.length < 2
    · rw [if_pos h]; omega
    · rw [if_neg h]
      exact ih (d + 1) (onS key d l) (by omega) hA.side
theorem way_len (key : ByteArray) : ∀ (f d : Nat) (l : List PairS), (wayB key f l d).length ≤ f := by
  intro f
  induction f with
  | zero => intro d l; exact Nat.le_refl _
  | succ f ih =>
    intro d l
    unfold wayB
    by_cases h : l.length < 2
    · rw [if_pos h]; exact Nat.zero_le _
    · rw [if_neg h, List.length_cons]
      have := ih (d + 1) (onS key d l)
      omega
theorem start_on (M : List PairS) (key : ByteArray) (d : Nat) : onS key d (startM M key d) = startM M key (d + 1) := (start_half (fun _ _ => rfl) rfl).symm
/-- at its end: those that begin as the key does, by as many bits as the way is long -/
theorem rest_start (M : List PairS) (key : ByteArray) : ∀ (f d : Nat), restB key f (startM M key d) d = startM M key (d + (wayB key f (startM M key d) d).length) := by
  intro f
  induction f with
  | zero => intro d; rfl
  | succ f ih =>
    intro d
    unfold restB wayB
    by_cases h : (startM M key d).length < 2
    · rw [if_pos h, if_pos h]; rfl
    · rw [if_neg h, if_neg h, start_on, ih (d + 1), List.length_cons]
      congr 1
      omega
/-- two keys or more: a node that is no leaf's -/
theorem nodeN_both : ∀ (f d : Nat) (l : List PairS), d + f = 128 → Alike d l → 2 ≤ l.length → ∃ a b, nodeN f l d = bothS a b := by
  intro f
  induction f with
  | zero =>
    intro d l hd hA h
    have := hA.few (by omega)
    omega
  | succ f ih =>
    intro d l hd hA h
    rw [nodeN_more f d l h]
    have hl := side_len d l
    have hne : ∀ b, side b d l ≠ [] → nodeN f (side b d l) (d + 1) ≠ emptyS := fun b hq => nodeN_some f (d + 1) _ (by omega) hA.side hq
    unfold joinN
    by_cases h0 : side 0 d l = []
    · have h1 : 2 ≤ (side 1 d l).length := by rw [h0] at hl; simp at hl; omega
      obtain ⟨a, b, e⟩ := ih (d + 1) (side 1 d l) (by omega) hA.side h1
      rw [h0, nodeN_nil, e, if_neg (by rw [bothS_leaf]; exact fun q => by rcases q.2 with q | q; exact bothS_ne _ _ q; cases q), if_neg (fun q => bothS_ne _ _ q.1)]
      exact ⟨_, _, rfl⟩
    · by_cases h1 : side 1 d l = []
      · have h2 : 2 ≤ (side 0 d l).length := by rw [h1] at hl; simp at hl; omega
        obtain ⟨a, b, e⟩ := ih (d + 1) (side 0 d l) (by omega) hA.side h2
        rw [h1, nodeN_nil, e, if_neg (fun q => bothS_ne _ _ q.1), if_neg (by rw [bothS_leaf]; exact fun q => by cases q.2)]
        exact ⟨_, _, rfl⟩
      · rw [if_neg (fun q => hne 0 h0 q.1), if_neg (fun q => hne 1 h1 q.1)]
        exact ⟨_, _, rfl⟩
theorem node_ok {n : ByteArray} (h : NodeS n) : okN n = true := by
  unfold okN beginsB
  cases h
  · simp
  · rename_i k v
    have e : headB (leafS k v) = 1 := head_app 1 _
    rw [leafS_size, e]
    simp
  · rename_i a b
    have e : headB (bothS a b) = 2 := head_app 2 _
    rw [bothS_size, e]
    simp
theorem way_nodes (key : ByteArray) : ∀ (f d : Nat) (l : List PairS), ∀ n ∈ wayB key f l d, NodeS n := by
  intro f
  induction f with
  | zero => intro d l n h; cases h
  | succ f ih =>
    intro d l n h
    unfold wayB at h
    by_cases h2 : l.length < 2
    · rw [if_pos h2] at h; cases h
    · rw [if_neg h2] at h
      rcases List.mem_cons.1 h with rfl | h
      · exact nodeN_node _ _ _
      · exact ih _ _ n h
theorem off_len (key : ByteArray) (d : Nat) (l : List PairS) : (onS key d l).length + (offS key d l).length = l.length := by
  have h := side_len d l
  have hb := bitS_le key d
  unfold onS offS
  by_cases h1 : bitS key d = 1
  · rw [h1, Nat.sub_self]; omega
  · have h0 : bitS key d = 0 := by omega
    rw [h0]; exact h
theorem way_end (key : ByteArray) : ∀ (f d : Nat) (l : List PairS), d + f = 128 → Alike d l → endN (wayB key f l d) (decide ((restB key f l d) ≠ [])) = true := by
  intro f
  induction f with
  | zero => intro d l _ _; rfl
  | succ f ih =>
    intro d l hd hA
    unfold wayB restB
    by_cases h : l.length < 2
    · rw [if_pos h]; rfl
    · rw [if_neg h, if_neg h]
      have h1 := ih (d + 1) (onS key d l) (by omega) hA.side
      rcases hw : wayB key f (onS key d l) (d + 1) with _ | ⟨b, r⟩
      · have hfew : (onS key d l).length ≤ 1 := by
          match f, hw with
          | 0, _ => exact (Alike.side (b := bitS key d) hA).few (by omega)
          | f + 1, hw =>
            unfold wayB at hw
            by_cases q : (onS key d l).length < 2
            · omega
            · rw [if_neg q] at hw; cases hw
        have hrest : restB key f (onS key d l) (d + 1) = onS key d l := by
          match f with
          | 0 => rfl
          | f + 1 => unfold restB; rw [if_pos (by omega)]
        have hol := off_len key d l
        rw [hrest]
        unfold endN
        show (beginsB _ 2 || (_ && !decide (_ = emptyS))) = true
        by_cases h2 : 2 ≤ (offS key d l).length
        · obtain ⟨a, b, e⟩ := nodeN_both f (d + 1) (offS key d l) (by omega) hA.side h2
          have eh : headB (bothS a b) = 2 := head_app 2 _
          rw [e]
          show ((decide ((bothS a b).size = 17) && (headB (bothS a b) == 2)) || (_ && !decide (bothS a b = emptyS))) = true
          rw [bothS_size, eh]
          simp
        · have hon : onS key d l ≠ [] := fun q => by rw [q] at hol; simp at hol; omega
          have hoff : offS key d l ≠ [] := fun q => by rw [q] at hol; simp at hol; omega
          have hne := nodeN_some f (d + 1) (offS key d l) (by omega) hA.side hoff
          simp [hon, hne]
      · rw [hw] at h1
        unfold endN at h1 ⊢
        rw [List.getLast?_cons_cons]
        exact h1
/-- what stands beside a way may be -/
theorem way_may (key : ByteArray) (f d : Nat) (l : List PairS) (hd : d + f = 128) (hA : Alike d l) : besideB (wayB key f l d) (decide ((restB key f l d) ≠ [])) = true := by
  unfold besideB
  rw [way_end key f d l hd hA, Bool.and_true, List.all_eq_true]
  exact fun n hn => node_ok (way_nodes key f d l n hn)
/-- a way from further down: the same, without what stands beside above -/
theorem way_drop (M : List PairS) (key : ByteArray) : ∀ (k f a : Nat), k ≤ (wayB key f (startM M key a) a).length → wayB key (f - k) (startM M key (a + k)) (a + k) = (wayB key f (startM M key a) a).drop k := by
  intro k
  induction k with
  | zero => intro f a _; rfl
  | succ k ih =>
    intro f a h
    match f with
    | 0 => exact absurd h (Nat.not_succ_le_zero k)
    | f + 1 =>
      unfold wayB at h
      by_cases h2 : (startM M key a).length < 2
      · rw [if_pos h2] at h; exact absurd h (Nat.not_succ_le_zero k)
      · rw [if_neg h2, List.length_cons, start_on] at h
        have e := ih f (a + 1) (by omega)
        have e2 : wayB key (f + 1) (startM M key a) a = nodeN f (offS key a (startM M key a)) (a + 1) :: wayB key f (startM M key (a + 1)) (a + 1) := by
          rw [← start_on]
          show (if (startM M key a).length < 2 then [] else _) = _
          rw [if_neg h2]
        rw [e2, List.drop_succ_cons, ← e, show f + 1 - (k + 1) = f - k by omega, show a + (k + 1) = a + 1 + k by omega]
def keyOf : List PairS → ByteArray
  | [] => ⟨#[]⟩
  | x :: _ => x.1
def valOf : List PairS → ByteArray
  | [] => ⟨#[]⟩
  | x :: _ => x.2
/-- a tree's own proof is good -/
theorem way_good (M : List PairS) (key : ByteArray) (d : Nat) (hd : d ≤ 128) (hone : M.Pairwise (fun p q => p.1 ≠ q.1)) (h16 : ∀ x ∈ M, x.1.size = 16) :
    goodB (wayB key (128 - d) (startM M key d) d) (decide ((restB key (128 - d) (startM M key d) d) ≠ [])) (keyOf (restB key (128 - d) (startM M key d) d)) (valOf (restB key (128 - d) (startM M key d) d)) key d = true := by
  have hA := start_alike hone h16 key d
  have h1 := way_may key (128 - d) d (startM M key d) (by omega) hA
  have h2 := rest_start M key (128 - d) d
  unfold goodB
  rw [h1, Bool.true_and]
  generalize wayB key (128 - d) (startM M key d) d = L at h2
  rw [h2]
  rcases hr : startM M key (d + L.length) with _ | ⟨x, r⟩
  · rfl
  · have hx : x ∈ startM M key (d + L.length) := by rw [hr]; exact List.mem_cons_self
    have hx2 := List.mem_filter.1 hx
    have e1 : belowB x.1 key (d + L.length) = true := hx2.2
    have e2 := h16 x hx2.1
    rw [show decide (x :: r ≠ []) = true from rfl, if_pos rfl]
    show (decide (x.1.size = 16) && belowB x.1 key (d + L.length)) = true
    rw [e1, e2]
    rfl
end Go.Proofs.YtioahjdojgcfdaaDoor

namespace Go.Proofs.YtioahjdojgcfdaaDoor
attribute [local irreducible] shaL

theorem likeL_like (key : ByteArray) (d : Nat) (L : List ByteArray) : likeL key (d + 1) (likeL key d L) = likeL key (d + 1) L := by
  unfold likeL
  rw [List.filter_filter]
  refine List.filter_congr fun x _ => ?_
  rw [Bool.eq_iff_iff, Bool.and_eq_true]
  refine ⟨fun h => h.1, fun h => ⟨h, ?_⟩⟩
  exact (belowB_iff x key d).2 (fun i hi => (belowB_iff x key (d + 1)).1 h i (by omega))
theorem keysM_perm (M : List PairS) : (keysM M).Perm (M.map Prod.fst) := by
  have h1 : (keysM M).Perm (((M.filter fun _ => true).map fun x => x.1.data.toList).map str) := (List.mergeSort_perm _ _).map str
  rw [List.map_map] at h1
  have e : (M.filter fun _ => true) = M := List.filter_eq_self.2 (fun _ _ => rfl)
  rw [e] at h1
  exact h1
theorem like_perm (M : List PairS) (key : ByteArray) (d : Nat) : (likeL key d (keysM M)).Perm ((startM M key d).map Prod.fst) := by
  have h := (keysM_perm M).filter (fun x => belowB x key d)
  rw [List.filter_map] at h
  exact h
theorem like_len (M : List PairS) (key : ByteArray) (d : Nat) : (likeL key d (keysM M)).length = (startM M key d).length := by
  have := (like_perm M key d).length_eq
  rwa [List.length_map] at this
theorem like_one (M : List PairS) (key : ByteArray) (d : Nat) (h : (startM M key d).length = 1) : likeL key d (keysM M) = [keyOf (startM M key d)] := by
  have hp := like_perm M key d
  match hs : startM M key d, h with
  | [x], _ =>
    rw [hs] at hp
    exact List.perm_singleton.1 hp
theorem like_mem {M : List PairS} {key : ByteArray} {d : Nat} {s : ByteArray} (h16 : ∀ x ∈ M, x.1.size = 16) (h : s ∈ likeL key d (keysM M)) : s.size = 16 := by
  obtain ⟨x, hx, rfl⟩ := List.mem_map.1 ((keysM_perm M).mem_iff.1 (List.mem_filter.1 h).1)
  exact h16 x hx
theorem keys16 {M : List PairS} {s : ByteArray} (h16 : ∀ x ∈ M, x.1.size = 16) (h : s ∈ keysM M) : s.size = 16 := by
  obtain ⟨x, hx, rfl⟩ := List.mem_map.1 ((keysM_perm M).mem_iff.1 h)
  exact h16 x hx
theorem keys_len (M : List PairS) : (keysM M).length = M.length := by rw [(keysM_perm M).length_eq, List.length_map]
theorem val_one {M : List PairS} (hone : M.Pairwise (fun p q => p.1 ≠ q.1)) (key : ByteArray) (d : Nat) (h : (startM M key d).length = 1) : valM M (keyOf (startM M key d)) = valOf (startM M key d) := by
  match hs : startM M key d, h with
  | [x], _ =>
    have hx : x ∈ startM M key d := by rw [hs]; exact List.mem_cons_self
    exact valM_mem hone x (List.mem_filter.1 hx).1
/-- what stands beside the way to a key in a tree, from a depth on; who is at its end -/
def wayT (M : List PairS) (key : ByteArray) (d : Nat) : List ByteArray := wayB key (128 - d) (startM M key d) d
def restT (M : List PairS) (key : ByteArray) (d : Nat) : List PairS := restB key (128 - d) (startM M key d) d
theorem wayT_more {M : List PairS} {key : ByteArray} {d : Nat} (hd : d < 128) (h : 2 ≤ (startM M key d).length) : wayT M key d = nodeN (128 - (d + 1)) (offS key d (startM M key d)) (d + 1) :: wayT M key (d + 1) ∧ restT M key d = restT M key (d + 1) := by
  unfold wayT restT
  have e1 : ∀ (f : Nat) (l : List PairS) (d : Nat), wayB key (f + 1) l d = if l.length < 2 then [] else nodeN f (offS key d l) (d + 1) :: wayB key f (onS key d l) (d + 1) := fun _ _ _ => rfl
  have e2 : ∀ (f : Nat) (l : List PairS) (d : Nat), restB key (f + 1) l d = if l.length < 2 then l else restB key f (onS key d l) (d + 1) := fun _ _ _ => rfl
  rw [show 128 - d = (128 - (d + 1)) + 1 by omega, e1, e2, if_neg (by omega), if_neg (by omega), start_on]
  exact ⟨rfl, rfl⟩
theorem wayT_end {M : List PairS} {key : ByteArray} {d : Nat} (h : (startM M key d).length < 2) : wayT M key d = [] ∧ restT M key d = startM M key d := by
  unfold wayT restT
  match 128 - d with
  | 0 => exact ⟨rfl, rfl⟩
  | f + 1 =>
    unfold wayB restB
    rw [if_pos h, if_pos h]
    exact ⟨rfl, rfl⟩
theorem beside_node {M : List PairS} {key s : ByteArray} {d : Nat} (hd : d < 128) (hs : ∀ i, i < 128 → bitS s i = if i = d then 1 - bitS key i else bitS key i) : nodeAt M s (d + 1) = nodeN (128 - (d + 1)) (offS key d (startM M key d)) (d + 1) := by
  unfold nodeAt offS
  rw [start_half (k := key) (b := 1 - bitS key d) (fun i hi => by rw [hs i (by omega), if_neg (by omega)]) (by rw [hs d hd, if_pos rfl])]
theorem start_two {M : List PairS} (hone : M.Pairwise (fun p q => p.1 ≠ q.1)) (h16 : ∀ x ∈ M, x.1.size = 16) {key : ByteArray} {d : Nat} (hd : d ≤ 128) (h : 2 ≤ (startM M key d).length) : d < 128 := by
  rcases Nat.lt_or_ge d 128 with q | q
  · exact q
  · have := (start_alike hone h16 key d).few q
    omega
theorem capD_at (d : Nat) (h : d ≤ 128) : capD (d : Int) = d := by unfold capD; omega
end Go.Proofs.YtioahjdojgcfdaaDoor

namespace Go.Proofs.YtioahjdojgcfdaaDoor
open Go.RowKit Go.Maps
attribute [local irreducible] shaL

theorem one_textP (r : ByteArray) : ∀ u ∈ [Value.string r], u.oneCell' = true := by
  intro u hu
  simp at hu
  subst hu
  rfl
theorem size_allocP {w w' : World} {row : Option Nat} (h : w.grownBy w' row) (o : Obj) : w.heap.size ≤ (w'.alloc o).heap.size := by
  have := h.size
  simp
  omega
def emptyP : Array Value := #[.slice none 0 0, .bool false, .string ⟨#[]⟩, .string ⟨#[]⟩]
theorem heap4 {w : World} {n : Nat} {a0 a1 a2 a3 : Value} {t : TypeId} (h : w.heap[n]? = some (.cells #[a0, a1, a2, a3] t (0, 0))) (v0 v1 v2 v3 : Value) :
    ((((w.setCell ⟨n, 0, none⟩ v0).setCell ⟨n, 1, none⟩ v1).setCell ⟨n, 2, none⟩ v2).setCell ⟨n, 3, none⟩ v3).heap[n]? = some (.cells #[v0, v1, v2, v3] t (0, 0)) := by
  have h1 := heap_setCell (heap_setCell (heap_setCell (heap_setCell h 0 v0) 1 v1) 2 v2) 3 v3
  rw [h1]
  rfl
theorem grown4 (w : World) (n : Nat) (v0 v1 v2 v3 : Value) : w.grownBy ((((w.setCell ⟨n, 0, none⟩ v0).setCell ⟨n, 1, none⟩ v1).setCell ⟨n, 2, none⟩ v2).setCell ⟨n, 3, none⟩ v3) (some n) :=
  grownBy_setCell (grownBy_setCell (grownBy_setCell (grownBy_setCell (World.grownBy.refl w _) 0 _) 1 _) 2 _) 3 _
end Go.Proofs.YtioahjdojgcfdaaDoor

namespace Go.Proofs.YtioahjdojgcfdaaDoor
open Go.RowKit Go.Maps
attribute [local irreducible] shaL

theorem strs_grown {w w' : World} {v : Value} {L : List ByteArray} (hv : StrsAt w v L) (q : w.grownBy w' none) : StrsAt w' v L := by
  obtain ⟨a, cap, e, hc⟩ := hv
  refine ⟨a, cap, e, fun i hi => ?_⟩
  obtain ⟨g, o, e2, h1⟩ := hc i hi
  exact ⟨g, o, e2, q.cell h1 (by simp)⟩
end Go.Proofs.YtioahjdojgcfdaaDoor

namespace Go.Proofs.YtioahjdojgcfdaaDoor
open Go.RowKit Go.Shelf
attribute [local irreducible] shaL
attribute [local go_sem] Oper.semAt_some

/-- the places of a list, the last one first, as far as the k-th -/
def downsP (m : Nat) (k : Nat) : List Nat := (List.range k).map fun j => m - 1 - j
theorem downsP_succ (m k : Nat) : downsP m (k + 1) = downsP m k ++ [m - 1 - k] := by simp [downsP, List.range_succ]
theorem downsP_length (m k : Nat) : (downsP m k).length = k := by simp [downsP]
/-- the k-th text (behind the last one: none) -/
def entT (L : List ByteArray) (k : Nat) : ByteArray := L.getD k ⟨#[]⟩
theorem entT_at (L : List ByteArray) (k : Nat) (h : k < L.length) : L[k]? = some (entT L k) := by
  unfold entT
  rw [List.getD_eq_getElem?_getD, List.getElem?_eq_getElem h]
  rfl
/-- all that lay when the loop began lies on, but for one block -/
def butOne (n0 n : Nat) (i : Nat) : Prop := n0 ≤ i ∨ i = n
/-- what a range over slices.Backward(s) hands on -/
def encT (es : List ByteArray) (x : Nat) : Array Value := #[.int .i64 (min x es.length : Nat), .string (entT es x)]
end Go.Proofs.YtioahjdojgcfdaaDoor

namespace Go.Proofs.YtioahjdojgcfdaaDoor
open Go.RowKit Go.Shelf
attribute [local irreducible] shaL
attribute [local go_sem] Oper.semAt_some

theorem joinN_few (a b : ByteArray) (ha : a.size ≤ 1000) (hb : b.size ≤ 1000) : (joinN a b).size ≤ 1000 := by
  unfold joinN
  split
  · exact hb
  · split
    · exact ha
    · rw [bothS_size]; omega
theorem climb_few (key : ByteArray) : ∀ (L : List ByteArray) (d : Nat) (x : ByteArray), (∀ s ∈ L, s.size ≤ 1000) → x.size ≤ 1000 → (climbN key d L x).size ≤ 1000
  | [], _, _, _, hx => hx
  | b :: r, d, x, hL, hx => by
    have h1 := climb_few key r (d + 1) x (fun s hs => hL s (List.mem_cons_of_mem _ hs)) hx
    have h2 := hL b List.mem_cons_self
    unfold climbN
    split
    · exact joinN_few _ _ h2 h1
    · exact joinN_few _ _ h1 h2
/-- the node behind some rounds -/
def climbed (key : ByteArray) (d : Nat) (L : List ByteArray) (x : ByteArray) (k : Nat) : ByteArray := climbN key (d + (L.length - k)) (L.drop (L.length - k)) x
theorem climbed_zero (key : ByteArray) (d : Nat) (L : List ByteArray) (x : ByteArray) : climbed key d L x 0 = x := by
  unfold climbed
  rw [Nat.sub_zero, List.drop_length]
  rfl
theorem climbed_all (key : ByteArray) (d : Nat) (L : List ByteArray) (x : ByteArray) : climbed key d L x L.length = climbN key d L x := by
  unfold climbed
  rw [Nat.sub_self]
  rfl
theorem climbed_succ (key : ByteArray) (d : Nat) (L : List ByteArray) (x : ByteArray) (k : Nat) (hk : k < L.length) :
    climbed key d L x (k + 1) = if bitS key (d + (L.length - 1 - k)) = 1 then joinN (entT L (L.length - 1 - k)) (climbed key d L x k) else joinN (climbed key d L x k) (entT L (L.length - 1 - k)) := by
  have e1 : L.length - (k + 1) = L.length - 1 - k := by omega
  have e2 : L.length - k = (L.length - 1 - k) + 1 := by omega
  have hi : L.length - 1 - k < L.length := by omega
  have e3 : L.drop (L.length - 1 - k) = entT L (L.length - 1 - k) :: L.drop (L.length - 1 - k + 1) := by
    have h := entT_at L _ hi
    rw [List.getElem?_eq_getElem hi] at h
    rw [List.drop_eq_getElem_cons hi, Option.some.inj h]
  unfold climbed
  rw [e1, e3, e2]
  rfl
theorem climbed_few (key : ByteArray) (d : Nat) (L : List ByteArray) (x : ByteArray) (k : Nat) (hL : ∀ s ∈ L, s.size ≤ 1000) (hx : x.size ≤ 1000) : (climbed key d L x k).size ≤ 1000 :=
  climb_few _ _ _ _ (fun s hs => hL s (List.mem_of_mem_drop hs)) hx
theorem entT_few (L : List ByteArray) (k : Nat) (hL : ∀ s ∈ L, s.size ≤ 1000) : (entT L k).size ≤ 1000 := by
  by_cases h : k < L.length
  · exact hL _ (List.mem_of_getElem? (entT_at L k h))
  · unfold entT
    rw [List.getD_eq_getElem?_getD, List.getElem?_eq_none (by omega)]
    exact Nat.zero_le _
theorem read_putP {w W : World} {n D : Nat} {o : Obj} (h : Below n w W) (hd : n ≤ D) : Below n w (W.putObj D o) :=
  h.trans ⟨rfl, rfl, rfl, by simp, fun k hk => World.putObj_heap_other (by omega)⟩
/-- a round: past what stands beside at a place -/
def stepCP (key : ByteArray) (d : Nat) (L : List ByteArray) (nd : ByteArray) (i : Nat) : ByteArray := if bitS key (d + min i L.length) = 1 then joinN (entT L i) nd else joinN nd (entT L i)
theorem fold_climbed (key : ByteArray) (d : Nat) (L : List ByteArray) (x : ByteArray) : ∀ k, k ≤ L.length → (downsP L.length k).foldl (stepCP key d L) x = climbed key d L x k := by
  intro k
  induction k with
  | zero => intro _; rw [climbed_zero]; rfl
  | succ k ih =>
    intro hk
    rw [downsP_succ, List.foldl_append, ih (by omega), climbed_succ key d L x k (by omega)]
    show stepCP key d L _ _ = _
    unfold stepCP
    rw [Nat.min_eq_left (by omega)]
theorem fold_few (key : ByteArray) (d : Nat) (L : List ByteArray) (hL : ∀ s ∈ L, s.size ≤ 1000) : ∀ (pre : List Nat) (x : ByteArray), x.size ≤ 1000 → (pre.foldl (stepCP key d L) x).size ≤ 1000
  | [], _, hx => hx
  | i :: r, x, hx => fold_few key d L hL r _ (by
    unfold stepCP
    split
    · exact joinN_few _ _ (entT_few L i hL) hx
    · exact joinN_few _ _ hx (entT_few L i hL))
end Go.Proofs.YtioahjdojgcfdaaDoor

namespace Go.Proofs.YtioahjdojgcfdaaDoor
open Go.RowKit Go.Maps
attribute [local irreducible] shaL

theorem str_same (a b : ByteArray) : (a.toList == b.toList) = decide (a = b) := by
  rw [ByteArray.toList_eq, ByteArray.toList_eq, Bool.eq_iff_iff, beq_iff_eq, decide_eq_true_iff]
  exact ⟨fun h => ByteArray.ext (Array.toList_inj.1 h), fun h => by rw [h]⟩
def tellsB (L : List ByteArray) (t : Bool) (pk pv node key : ByteArray) (d : Nat) : Bool := goodB L t pk pv key d && decide (climbN key d L (if t then leafS pk pv else emptyS) = node)
end Go.Proofs.YtioahjdojgcfdaaDoor

namespace Go.Proofs.YtioahjdojgcfdaaDoor
open Go.RowKit Go.Maps
attribute [local irreducible] shaL

theorem rest_eq (M : List PairS) (key : ByteArray) (d : Nat) (hd : d ≤ 128) : restT M key d = startM M key (d + (wayT M key d).length) := rest_start M key (128 - d) d
theorem restT_few {M : List PairS} (hone : M.Pairwise (fun p q => p.1 ≠ q.1)) (h16 : ∀ x ∈ M, x.1.size = 16) (key : ByteArray) (d : Nat) (hd : d ≤ 128) : (restT M key d).length ≤ 1 := rest_few key (128 - d) d _ (by omega) (start_alike hone h16 key d)
theorem wayT_len (M : List PairS) (key : ByteArray) (d : Nat) (hd : d ≤ 128) : d + (wayT M key d).length ≤ 128 := by
  have := way_len key (128 - d) d (startM M key d)
  show d + (wayB key (128 - d) (startM M key d) d).length ≤ 128
  omega
theorem belowB_self (k : ByteArray) (d : Nat) : belowB k k d = true := (belowB_iff k k d).2 fun _ _ => rfl
/-- who is at the way's end: the key's own leaf, or another one's, or none -/
theorem rest_has {M : List PairS} (hone : M.Pairwise (fun p q => p.1 ≠ q.1)) (h16 : ∀ x ∈ M, x.1.size = 16) (key : ByteArray) (d : Nat) (hd : d ≤ 128) :
    (decide (restT M key d ≠ []) && decide (keyOf (restT M key d) = key)) = hasM M key ∧ (hasM M key = true → valOf (restT M key d) = valM M key) := by
  have hf := restT_few hone h16 key d hd
  have he := rest_eq M key d hd
  match hr : restT M key d, hf with
  | [], _ =>
    have hno : hasM M key = false := by
      rw [Bool.eq_false_iff]
      intro h
      obtain ⟨x, hx, hk⟩ := List.any_eq_true.1 h
      have hk' : x.1 = key := by simpa using hk
      have : x ∈ startM M key (d + (wayT M key d).length) := List.mem_filter.2 ⟨hx, by rw [hk']; exact belowB_self _ _⟩
      rw [← he, hr] at this
      cases this
    rw [hno]
    exact ⟨rfl, fun h => by cases h⟩
  | [x], _ =>
    have hx : x ∈ startM M key (d + (wayT M key d).length) := by rw [← he, hr]; exact List.mem_cons_self
    have hxM := (List.mem_filter.1 hx).1
    refine ⟨?_, fun h => ?_⟩
    · show decide (x.1 = key) = hasM M key
      rw [Bool.eq_iff_iff, decide_eq_true_iff]
      refine ⟨fun e => List.any_eq_true.2 ⟨x, hxM, by simpa using e⟩, fun h => ?_⟩
      obtain ⟨y, hy, hk⟩ := List.any_eq_true.1 h
      have hk' : y.1 = key := by simpa using hk
      have : y ∈ startM M key (d + (wayT M key d).length) := List.mem_filter.2 ⟨hy, by rw [hk']; exact belowB_self _ _⟩
      rw [← he, hr, List.mem_singleton] at this
      rw [← this]; exact hk'
    · obtain ⟨y, hy, hk⟩ := List.any_eq_true.1 h
      have hk' : y.1 = key := by simpa using hk
      have : y ∈ startM M key (d + (wayT M key d).length) := List.mem_filter.2 ⟨hy, by rw [hk']; exact belowB_self _ _⟩
      rw [← he, hr, List.mem_singleton] at this
      show x.2 = _
      rw [← this, ← hk', valM_mem hone y hy]
theorem goodT {M : List PairS} (hone : M.Pairwise (fun p q => p.1 ≠ q.1)) (h16 : ∀ x ∈ M, x.1.size = 16) (key : ByteArray) (d : Nat) (hd : d ≤ 128) : goodB (wayT M key d) (decide (restT M key d ≠ [])) (keyOf (restT M key d)) (valOf (restT M key d)) key d = true := way_good M key d hd hone h16
theorem end_leaf (l : List PairS) (h : l.length ≤ 1) : (if decide (l ≠ []) then leafS (keyOf l) (valOf l) else emptyS) = endS l := by
  match l, h with
  | [], _ => rfl
  | [x], _ => rfl
theorem climbT {M : List PairS} (hone : M.Pairwise (fun p q => p.1 ≠ q.1)) (h16 : ∀ x ∈ M, x.1.size = 16) (key : ByteArray) (d : Nat) (hd : d ≤ 128) : climbN key d (wayT M key d) (if decide (restT M key d ≠ []) then leafS (keyOf (restT M key d)) (valOf (restT M key d)) else emptyS) = nodeAt M key d := by
  rw [end_leaf _ (restT_few hone h16 key d hd)]
  exact way_climb key (128 - d) d _ (by omega) (start_alike hone h16 key d)
theorem tellsT {M : List PairS} (hone : M.Pairwise (fun p q => p.1 ≠ q.1)) (h16 : ∀ x ∈ M, x.1.size = 16) (key : ByteArray) (d : Nat) (hd : d ≤ 128) : tellsB (wayT M key d) (decide (restT M key d ≠ [])) (keyOf (restT M key d)) (valOf (restT M key d)) (nodeAt M key d) key d = true := by
  unfold tellsB
  rw [goodT hone h16 key d hd, climbT hone h16 key d hd]
  simp
theorem way_small (M : List PairS) (key : ByteArray) (d : Nat) : ∀ s ∈ wayT M key d, s.size ≤ 17 := by
  intro s hs
  have := way_nodes key (128 - d) d (startM M key d) s hs
  cases this
  · decide
  · rw [leafS_size]; omega
  · rw [bothS_size]; omega
theorem rest_size {M : List PairS} (hP : Plain M) (key : ByteArray) (d : Nat) (hd : d ≤ 128) (hv : ∀ x ∈ M, x.2.size ≤ 1000) : (keyOf (restT M key d)).size ≤ 1000 ∧ (valOf (restT M key d)).size ≤ 1000 := by
  have he := rest_eq M key d hd
  match hr : restT M key d with
  | [] => exact ⟨Nat.zero_le _, Nat.zero_le _⟩
  | x :: r =>
    have hx : x ∈ startM M key (d + (wayT M key d).length) := by rw [← he, hr]; exact List.mem_cons_self
    have hxM := (List.mem_filter.1 hx).1
    exact ⟨by show x.1.size ≤ 1000; rw [hP.k16 x hxM]; omega, hv x hxM⟩
/-- a tree's own proof for a key, from a depth on, in memory -/
structure OwnP (w : World) (bv : Value) (M : List PairS) (key : ByteArray) (d : Nat) : Prop where
  row : ∃ B, w.ownsRow B 9 1 bv (wayT M key d).length (strsV (wayT M key d))
  ready : ShaReady w
  plain : Plain M
  vals : ∀ x ∈ M, x.2.size ≤ 1000
  one : M.Pairwise (fun p q => p.1 ≠ q.1)
  k16 : key.size = 16
  d128 : d ≤ 128
theorem OwnP.grown {w w' : World} {bv : Value} {M : List PairS} {key : ByteArray} {d : Nat} (h : OwnP w bv M key d) (g : w.grownBy w' none) : OwnP w' bv M key d := by
  obtain ⟨B, hB⟩ := h.row
  exact ⟨⟨B, own_keep hB g (fun _ _ e => by cases e)⟩, h.ready.grown g, h.plain, h.vals, h.one, h.k16, h.d128⟩
theorem OwnP.strs {w : World} {bv : Value} {M : List PairS} {key : ByteArray} {d : Nat} (h : OwnP w bv M key d) : StrsAt w bv (wayT M key d) := by
  obtain ⟨B, hB⟩ := h.row
  obtain ⟨a, c, rfl⟩ := slice_own' hB
  exact strs_own hB
end Go.Proofs.YtioahjdojgcfdaaDoor

namespace Go.Proofs.YtioahjdojgcfdaaDoor
open Go.RowKit Go.Maps
attribute [local irreducible] shaL

abbrev PutS := UInt8 × UInt8 × ByteArray
/-- a list of puts, as it came in -/
def PutsAt (w : World) (v : Value) (L : List PutS) : Prop :=
  ∃ a cap, v = .slice a L.length cap ∧ ∀ i (h : i < L.length), ∃ g o, a = some ⟨g, o, none⟩ ∧ w.cell? ⟨g, o + i * 3, none⟩ = some (.int .u8 (UInt8.toNat L[i].1)) ∧ w.cell? ⟨g, o + i * 3 + 1, none⟩ = some (.int .u8 (UInt8.toNat L[i].2.1)) ∧ w.cell? ⟨g, o + i * 3 + 2, none⟩ = some (.string L[i].2.2)
def cut20 (s : ByteArray) : ByteArray := s.extract 0 (min s.size 20)
theorem cut20_size (s : ByteArray) : (cut20 s).size ≤ 20 := by
  unfold cut20
  rw [ByteArray.size_extract]
  omega
theorem cut20_eq (s : ByteArray) : s.extract 0 (min (s.size : Int) 20).toNat = cut20 s := by
  unfold cut20
  congr 1
  omega
/-- the pairs that they make -/
def bothM (L : List PutS) : List PairS := L.foldl (fun M p => setM M (keyS14 p.1 p.2.1, cut20 p.2.2)) []
theorem bothM_snoc (L : List PutS) (p : PutS) : bothM (L ++ [p]) = setM (bothM L) (keyS14 p.1 p.2.1, cut20 p.2.2) := by
  unfold bothM
  rw [List.foldl_append]
  rfl
theorem setM_len (M : List PairS) (x : PairS) : (setM M x).length ≤ M.length + 1 := by
  unfold setM
  rw [List.length_append, List.length_singleton]
  have := List.length_filter_le (fun p : PairS => !decide (p.1 = x.1)) M
  omega
theorem setM_all {M : List PairS} {x : PairS} {P : PairS → Prop} (h : ∀ y ∈ M, P y) (hx : P x) : ∀ y ∈ setM M x, P y := by
  intro y hy
  rcases List.mem_append.1 hy with hy | hy
  · exact h y (List.mem_filter.1 hy).1
  · rw [List.mem_singleton.1 hy]; exact hx
theorem bothM_all : ∀ (L : List PutS) (M : List PairS), (∀ x ∈ M, x.1.size = 16 ∧ x.2.size ≤ 20) → (∀ x ∈ L.foldl (fun M p => setM M (keyS14 p.1 p.2.1, cut20 p.2.2)) M, x.1.size = 16 ∧ x.2.size ≤ 20) ∧ (L.foldl (fun M p => setM M (keyS14 p.1 p.2.1, cut20 p.2.2)) M).length ≤ M.length + L.length
  | [], M, h => ⟨h, by simp⟩
  | p :: r, M, h => by
    have h1 := bothM_all r (setM M (keyS14 p.1 p.2.1, cut20 p.2.2)) (setM_all h ⟨keyS14_size _ _, cut20_size _⟩)
    refine ⟨h1.1, Nat.le_trans h1.2 ?_⟩
    have := setM_len M (keyS14 p.1 p.2.1, cut20 p.2.2)
    simp only [List.length_cons]
    omega
theorem bothM_ok (L : List PutS) (hL : L.length ≤ 12) : (∀ x ∈ bothM L, x.1.size = 16 ∧ x.2.size ≤ 20) ∧ (bothM L).length ≤ 12 := by
  have h := bothM_all L [] (fun x hx => by cases hx)
  refine ⟨h.1, ?_⟩
  have := h.2
  simp only [List.length_nil] at this
  unfold bothM
  omega
theorem plain_of {M : List PairS} (h : ∀ x ∈ M, x.1.size = 16 ∧ x.2.size ≤ 20) (hl : M.length ≤ 12) : Plain M := ⟨fun x hx => (h x hx).1, fun x hx => by have := (h x hx).2; omega, by omega⟩
def ownL (v : Value) : List Nat := v.ownBlock.toList
theorem ownL_mem {v : Value} {x : Nat} : x ∈ ownL v ↔ v.ownBlock = some x := by unfold ownL; simp
theorem puts_ck {w w' : World} {g : Nat} {i j : Nat} {x y : Value} (k : w.grownBy w' none) (h : w.cell? ⟨g, i, none⟩ = some x ∧ w.cell? ⟨g, j, none⟩ = some y) : w'.cell? ⟨g, i, none⟩ = some x ∧ w'.cell? ⟨g, j, none⟩ = some y := ⟨k.cell h.1 (by simp), k.cell h.2 (by simp)⟩
theorem own_keep2' {w w' : World} {B n s : Nat} {t : TypeId} {v : Value} {xs : List Value} (h : w.ownsRow B t s v n xs) (k : w.grownBy w' none) : w'.ownsRow B t s v n xs := by
  refine ⟨h.1, ?_⟩
  rcases h.2 with h' | ⟨g, cap, cur, rfl, hB, hg, r⟩
  · exact .inl h'
  · exact .inr ⟨g, cap, cur, rfl, hB, (k.block g (Array.getElem?_eq_some_iff.1 hg).1 (by simp)).trans hg, r⟩
end Go.Proofs.YtioahjdojgcfdaaDoor

namespace Go.Proofs.YtioahjdojgcfdaaDoor
open Go.RowKit Go.Maps
attribute [local irreducible] shaL

theorem startM_zero (M : List PairS) (s : ByteArray) : startM M s 0 = M := List.filter_eq_self.2 (fun _ _ => rfl)
theorem rest_single (x : PairS) (key : ByteArray) : restT [x] key 0 = [x] ∧ wayT [x] key 0 = [] := by
  have h := wayT_end (M := [x]) (key := key) (d := 0) (by rw [startM_zero]; exact Nat.lt_succ_self 1)
  rw [startM_zero] at h
  exact ⟨h.2, h.1⟩
theorem node_single (x : PairS) (key : ByteArray) : nodeAt [x] key 0 = nodeN 128 [x] 0 := by
  unfold nodeAt
  rw [startM_zero]
theorem OwnP.form {w : World} {bv : Value} {M : List PairS} {key : ByteArray} {d : Nat} (h : OwnP w bv M key d) : ∃ a c, bv = .slice a (wayT M key d).length c := by
  obtain ⟨B, hB⟩ := h.row
  exact slice_own' hB
end Go.Proofs.YtioahjdojgcfdaaDoor

namespace Go.Proofs.YtioahjdojgcfdaaDoor
open Go.RowKit Go.Maps
attribute [local irreducible] shaL

theorem rd_num1 {w : World} {b : Nat} {s : RSt} (h : RdAt w b s.rest s.err) (hm : s.rest.size ≤ maxLen) :
    Calls Tryd.prog 64 #[.pointer (some ⟨b, 0, none⟩), .int .i64 1] w fun e w' => e = .returned (.int .u64 (s.num 1).1) ∧ RdAt w' b (s.num 1).2.rest (s.num 1).2.err ∧ w.grownBy w' (some b) := by
  refine (rnum_any 1 w (some ⟨b, 0, none⟩) (some s) ⟨b, rfl, h⟩ (by rintro x ⟨⟩; exact hm)).mono ?_
  rintro e w' ⟨rfl, hw, g⟩
  obtain ⟨b', e', hw⟩ := hw
  cases e'
  exact ⟨rfl, hw, g⟩
theorem rd_text1 {w : World} {b : Nat} {s : RSt} (h : RdAt w b s.rest s.err) (hm : s.rest.size ≤ maxLen) :
    Calls Tryd.prog 66 #[.pointer (some ⟨b, 0, none⟩)] w fun e w' => e = .returned (.string s.text.1) ∧ RdAt w' b s.text.2.rest s.text.2.err ∧ w.grownBy w' (some b) := by
  refine (rtext_any w (some ⟨b, 0, none⟩) (some s) ⟨b, rfl, h⟩ (by rintro x ⟨⟩; exact hm)).mono ?_
  rintro e w' ⟨rfl, hw, g⟩
  obtain ⟨b', e', hw⟩ := hw
  cases e'
  exact ⟨rfl, hw, g⟩
theorem text_rest_le (s : RSt) : s.text.2.rest.size ≤ s.rest.size := by
  have h1 := (rest_le s 2).1
  have hf : ∀ (s : RSt) e, (s.fail e).rest.size = s.rest.size := by intro s e; unfold RSt.fail; split <;> rfl
  unfold RSt.text
  split
  · show ((s.num 2).2.fail 4).rest.size ≤ _
    rw [hf]; exact h1
  · exact Nat.le_trans (rest_le _ _).2 h1
theorem readK_rest_le (s : RSt) : ∀ i, (readK s i).2.rest.size ≤ s.rest.size
  | 0 => Nat.le_refl _
  | i + 1 => Nat.le_trans (text_rest_le _) (readK_rest_le s i)
/-- what Decode tells -/
def DecPost (j : ByteArray) (w : World) (e : Ending) (w' : World) : Prop :=
  ((decS j).s.done ≠ 0 ∧ e = .returned (.tuple #[.agg emptyP, .int .i64 (decS j).s.done])) ∨
  ((decS j).s.done = 0 ∧ ((decS j).L.length > 128 ∨ (decS j).t > 1) ∧ e = .returned (.tuple #[.agg emptyP, .int .i64 4])) ∨
  ((decS j).s.done = 0 ∧ (decS j).L.length ≤ 128 ∧ (decS j).t ≤ 1 ∧ ∃ bv, e = .returned (.tuple #[.agg #[bv, .bool (decide ((decS j).t = 1)), .string (decS j).k, .string (decS j).y], .int .i64 0]) ∧ w'.ownsRow w.heap.size 9 1 bv (decS j).L.length (strsV (decS j).L))
end Go.Proofs.YtioahjdojgcfdaaDoor

namespace Go.Proofs.YtioahjdojgcfdaaDoor
open Go.RowKit
attribute [local irreducible] shaL

theorem text_small (s : RSt) : s.text.1.size ≤ 4096 := by
  unfold RSt.text
  split
  · exact Nat.zero_le _
  · rename_i h
    have h3 := fixed_size (s.num 2).2 (s.num 2).1
    have h4 : ((s.num 2).2.fixed (s.num 2).1).1.size ≤ (s.num 2).1 := h3
    omega
theorem readK_small (s : RSt) : ∀ i, ∀ x ∈ (readK s i).1, x.size ≤ 4096
  | 0, x, hx => by cases hx
  | i + 1, x, hx => by
    rcases List.mem_append.1 hx with q | q
    · exact readK_small s i x q
    · rw [List.mem_singleton.1 q]; exact text_small _
/-- where Decode is: the reader, the header being made, the result's cells -/
structure HDecAt (n hb : Nat) (w wr : World) (e : Nat) (p : ByteArray) (d au : Int) (bv : Value) (Bk : List ByteArray) (s : RSt) : Prop where
  way : wr.ownsRow (hb + 1) 9 1 bv Bk.length (strsV Bk)
  res : wr.heap[n]? = some (.cells #[.int .u64 0, .string ⟨#[]⟩, .int .i64 0, .int .i64 0, .slice none 0 0] 63 (0, 0))
  rd : RdAt wr (n + 1) s.rest s.err
  hdr : wr.heap[hb]? = some (.cells #[.int .u64 e, .string p, .int .i64 d, .int .i64 au, bv] 63 (0, 0))
  grown : w.grownBy wr none
  lt : n + 1 < hb
section
variable {n hb : Nat} {w wr : World} {e : Nat} {p : ByteArray} {d au : Int} {bv : Value} {Bk : List ByteArray} {s : RSt}
theorem HDecAt.drew (h : HDecAt n hb w wr e p d au bv Bk s) : HDecAt n hb w wr.drew e p d au bv Bk s := ⟨h.way, h.res, h.rd, h.hdr, grownBy_drew h.grown, h.lt⟩
theorem HDecAt.size (h : HDecAt n hb w wr e p d au bv Bk s) : hb + 1 ≤ wr.heap.size := (Array.getElem?_eq_some_iff.1 h.hdr).1
theorem HDecAt.cell (h : HDecAt n hb w wr e p d au bv Bk s) : wr.cell? ⟨hb, 4, none⟩ = some bv := by rw [cell_of h.hdr]; rfl
theorem HDecAt.read {w' : World} {s' : RSt} (h : HDecAt n hb w wr e p d au bv Bk s) (hn : w.heap.size = n) (g : wr.grownBy w' (some (n + 1))) (hr : RdAt w' (n + 1) s'.rest s'.err) : HDecAt n hb w w' e p d au bv Bk s' :=
  have hlt := h.lt
  ⟨own_keep h.way g (fun x hx e => by have e2 : n + 1 = x := Option.some.inj e; have := (h.way.lt x hx).1; omega), g.heap h.res (fun e => by have := Option.some.inj e; omega), hr, g.heap h.hdr (fun e => by have := Option.some.inj e; omega), grown_row h.grown g (fun x e => by have e2 : n + 1 = x := Option.some.inj e; omega), h.lt⟩
theorem HDecAt.aud (h : HDecAt n hb w wr e p d au bv Bk s) (hn : w.heap.size = n) (z : Int) : HDecAt n hb w (wr.setCell ⟨hb, 3, none⟩ (.int .i64 z)) e p d z bv Bk s := by
  have hlt := h.lt
  refine ⟨own_keep h.way (grownBy_setCell (World.grownBy.refl wr _) 3 _) (fun y hy q => by have e2 : hb = y := Option.some.inj q; have := (h.way.lt y hy).1; omega), ?_, ?_, (heap_setCell h.hdr 3 _).trans rfl, grownBy_setNew h.grown (by omega) _ _, hlt⟩
  · rw [heap_setCell_ne _ _ _ _ (by omega)]; exact h.res
  · show (wr.setCell _ _).heap[n + 1]? = _
    rw [heap_setCell_ne _ _ _ _ (by omega)]; exact h.rd
theorem HDecAt.prf8 {w8 : World} {o : Obj} (h : HDecAt n hb w wr e p d au bv Bk s) (k8 : (wr.alloc o).grownBy w8 bv.ownBlock) : w8.cell? ⟨hb, 4, none⟩ = some bv ∧ w8.frozen? ⟨hb, 4, none⟩ = false := by
  have hb' := h.way.lt
  have hp8 := k8.heap ((World.grownBy_alloc wr o none).heap h.hdr (by simp)) (fun e => by have := (hb' _ e).1; omega)
  exact ⟨by rw [cell_of hp8]; rfl, frozen_of_row _ _ _ _ _ hp8⟩
theorem HDecAt.push {w8 : World} {o : Obj} {x : ByteArray} {g8 c8 : Nat} (h : HDecAt n hb w wr e p d au bv Bk s) (hn : w.heap.size = n) (k8 : (wr.alloc o).grownBy w8 bv.ownBlock)
    (ho : w8.ownsRow (hb + 1) 9 1 (.slice (some ⟨g8, 0, none⟩) (Bk.length + 1) c8) (Bk.length + 1) (strsV (Bk ++ [x]))) (hg : bv.ownBlock = some g8 ∨ g8 = (wr.alloc o).heap.size) :
    HDecAt n hb w (w8.setCell ⟨hb, 4, none⟩ (.slice (some ⟨g8, 0, none⟩) (Bk.length + 1) c8)) e p d au (.slice (some ⟨g8, 0, none⟩) (Bk.length + 1) c8) (Bk ++ [x]) s := by
  have hb' := h.way.lt
  have hlt := h.lt
  have ka := World.grownBy_alloc wr o none
  have hg8 : hb + 1 ≤ g8 := by
    rcases hg with e | e
    · exact (hb' g8 e).1
    · have := h.size
      have := World.size_alloc wr o
      omega
  have hp8 := k8.heap (ka.heap h.hdr (by simp)) (fun e => by have := (hb' _ e).1; omega)
  have hr8 := k8.heap (ka.heap h.res (by simp)) (fun e => by have := (hb' _ e).1; omega)
  have hd8 : RdAt w8 (n + 1) s.rest s.err := k8.heap (ka.heap h.rd (by simp)) (fun e => by have := (hb' _ e).1; omega)
  refine ⟨?_, ?_, ?_, ?_, ?_, hlt⟩
  · have e8 : (Bk ++ [x]).length = Bk.length + 1 := by simp
    rw [e8]
    exact own_keep ho (grownBy_setCell (World.grownBy.refl w8 _) 4 _) (fun y hy e => by have e2 : hb = y := Option.some.inj e; have e3 : g8 = y := Option.some.inj hy; omega)
  · rw [heap_setCell_ne _ _ _ _ (by omega)]
    exact hr8
  · show (w8.setCell _ _).heap[n + 1]? = _
    rw [heap_setCell_ne _ _ _ _ (by omega)]
    exact hd8
  · exact (heap_setCell hp8 4 (.slice (some ⟨g8, 0, none⟩) (Bk.length + 1) c8)).trans rfl
  · have k9 := grown_row (grownBy_trans h.grown ka) k8 (fun y e => by have := (hb' y e).1; omega)
    exact grownBy_setNew k9 (by omega) _ _
end
/-- what Decode answers -/
def HDecAns (j : ByteArray) (w : World) (e : Ending) (w' : World) : Prop :=
  ∃ v, e = .returned (.tuple #[(decH j).ans.val v, .int .i64 (decH j).err]) ∧ w'.ownsRow w.heap.size 9 1 v (decH j).ans.L.length (strsV (decH j).ans.L) ∧ w.grownBy w' none
theorem hdecAns_bad {j : ByteArray} {w w' : World} {z : Int} (h : (decH j).err = z) (hz : z ≠ 0) (g : w.grownBy w' none) : HDecAns j w (.returned (.tuple #[.agg #[.int .u64 0, .string ⟨#[]⟩, .int .i64 0, .int .i64 0, .slice none 0 0], .int .i64 z])) w' := by
  refine ⟨.slice none 0 0, ?_, ?_, g⟩
  · unfold DecH.ans
    rw [if_neg (by rw [h]; exact hz), h]
    rfl
  · unfold DecH.ans
    rw [if_neg (by rw [h]; exact hz)]
    exact World.ownsRow_nil _ _ _ _
end Go.Proofs.YtioahjdojgcfdaaDoor

namespace Go.Proofs.YtioahjdojgcfdaaDoor
open Go.RowKit Go.Maps
attribute [local irreducible] shaL

theorem wr_num {w : World} {b : Nat} {ts : List ByteArray} (n : Nat) (hn : n < 256) (h : WrAt w b ⟨ts, 0⟩) (hr : total ts ≤ 1000000000) :
    Calls Tryd.prog 83 #[.pointer (some ⟨b, 0, none⟩), .int .u64 n, .int .i64 1] w fun e w' => e = .returned (.pointer (some ⟨b, 0, none⟩)) ∧ WrAt w' b ⟨str (be n 1) :: ts, 0⟩ ∧ w.grownBy w' (some b) := by
  refine (wnum_any n (by omega) 1 w (some ⟨b, 0, none⟩) (some ⟨ts, 0⟩) ⟨b, rfl, h⟩ (fun x e => by cases e; show 8 + total ts ≤ _; omega)).mono ?_
  rintro e w' ⟨rfl, hw, g⟩
  obtain ⟨b', e', hw⟩ := hw
  cases e'
  have e2 : (⟨ts, 0⟩ : WSt).num n 1 = ⟨str (be n 1) :: ts, 0⟩ := by
    unfold WSt.num
    rw [if_pos ⟨by omega, by omega, by show n < 256; exact hn⟩]
    rfl
  have hw : WrAt w' b ((⟨ts, 0⟩ : WSt).num n 1) := hw
  rw [e2] at hw
  exact ⟨rfl, hw, g⟩
theorem wr_text {w : World} {b : Nat} {ts : List ByteArray} (t : ByteArray) (ht : t.size ≤ 4096) (h : WrAt w b ⟨ts, 0⟩) (hr : total ts ≤ 1000000000) :
    Calls Tryd.prog 61 #[.pointer (some ⟨b, 0, none⟩), .string t] w fun e w' => e = .returned (.pointer (some ⟨b, 0, none⟩)) ∧ WrAt w' b ⟨t :: str (be t.size 2) :: ts, 0⟩ ∧ w.grownBy w' (some b) := by
  refine (wtext_any t (by unfold maxLen; omega) w (some ⟨b, 0, none⟩) (some ⟨ts, 0⟩) ⟨b, rfl, h⟩ (fun x e => by cases e; show 2 + t.size + total ts ≤ _; omega)).mono ?_
  rintro e w' ⟨rfl, hw, g⟩
  obtain ⟨b', e', hw⟩ := hw
  cases e'
  have e2 : (⟨ts, 0⟩ : WSt).text t = ⟨t :: str (be t.size 2) :: ts, 0⟩ := by
    unfold WSt.text
    rw [if_pos ht]
    rfl
  have hw : WrAt w' b ((⟨ts, 0⟩ : WSt).text t) := hw
  rw [e2] at hw
  exact ⟨rfl, hw, g⟩
theorem textsB_len : ∀ (M : List ByteArray), (∀ x ∈ M, x.size ≤ 4096) → (textsB M).length ≤ M.length * 4098
  | [], _ => Nat.zero_le _
  | x :: r, h => by
    have h1 := textsB_len r (fun y hy => h y (List.mem_cons_of_mem _ hy))
    have h2 := h x List.mem_cons_self
    show (textB x ++ textsB r).length ≤ _
    have h3 : (textB x).length = 2 + x.size := by unfold textB; rw [List.length_append, be_length]; rfl
    rw [List.length_append, h3, List.length_cons, Nat.succ_mul]
    omega
theorem flat_text (ts : List ByteArray) (t : ByteArray) : flat (t :: str (be t.size 2) :: ts) = flat ts ++ textB t := by
  show (flat ts ++ (str (be t.size 2)).data.toList) ++ t.data.toList = _
  rw [str_data, List.append_assoc]
  rfl
theorem flat_num (ts : List ByteArray) (n : Nat) : flat (str (be n 1) :: ts) = flat ts ++ be n 1 := by
  show flat ts ++ (str (be n 1)).data.toList = _
  rw [str_data]
end Go.Proofs.YtioahjdojgcfdaaDoor

namespace Go.Proofs.YtioahjdojgcfdaaDoor
open Go.RowKit Go.Maps
attribute [local irreducible] shaL

/-- the pairs of a band -/
def bandS (M : List PairS) (d b : Nat) : List PairS := M.filter fun x => bandN x.1 d == b
def nodesB (M : List PairS) (d : Nat) : List ByteArray := (List.range (2 ^ d)).map fun b => nodeN (128 - d) (bandS M d b) d
theorem nodesB_len (M : List PairS) (d : Nat) : (nodesB M d).length = 2 ^ d := by simp [nodesB]
theorem band_first {s : ByteArray} {b d : Nat} (hb : b < 2 ^ d) (hs : ∀ i, bitS s i = if i < d then b / 2 ^ (d - 1 - i) % 2 else 0) (k : ByteArray) : belowB k s d = (bandN k d == b) := by
  have hN : bandN s d = b := by
    have h := band_of_bits s b d (fun i hi => by rw [hs i, if_pos hi]) d (Nat.le_refl _)
    rw [h, Nat.sub_self, Nat.pow_zero, Nat.div_one, Nat.mod_eq_of_lt hb]
  rw [Bool.eq_iff_iff, belowB_iff, beq_iff_eq]
  constructor
  · intro h
    rw [bandN_same k s d h, hN]
  · intro h i hi
    rw [← bandN_bit k d i hi, ← bandN_bit s d i hi, h, hN]
theorem start_band {s : ByteArray} {b d : Nat} (hb : b < 2 ^ d) (hs : ∀ i, bitS s i = if i < d then b / 2 ^ (d - 1 - i) % 2 else 0) (M : List PairS) : startM M s d = bandS M d b := by
  unfold startM bandS
  exact List.filter_congr fun x _ => band_first hb hs x.1
end Go.Proofs.YtioahjdojgcfdaaDoor

namespace Go.Proofs.YtioahjdojgcfdaaDoor
attribute [local irreducible] shaL

/-- the nodes above each two -/
def joinedL (L : List ByteArray) : List ByteArray := (List.range (L.length / 2)).map fun k => joinN (entT L (2 * k)) (entT L (2 * k + 1))
theorem joinedL_len (L : List ByteArray) : (joinedL L).length = L.length / 2 := by simp [joinedL]
theorem band_side (M : List PairS) (d b c : Nat) (hc : c ≤ 1) : side c d (bandS M d b) = bandS M (d + 1) (2 * b + c) := by
  unfold side bandS
  rw [List.filter_filter]
  refine List.filter_congr fun x _ => ?_
  have hb := bitS_le x.1 d
  rw [Bool.eq_iff_iff, Bool.and_eq_true, beq_iff_eq, beq_iff_eq, beq_iff_eq]
  show _ ↔ 2 * bandN x.1 d + bitS x.1 d = 2 * b + c
  omega
theorem entT_nodes (M : List PairS) (d k : Nat) (hk : k < 2 ^ d) : entT (nodesB M d) k = nodeN (128 - d) (bandS M d k) d := by
  unfold entT nodesB
  rw [List.getD_eq_getElem?_getD, List.getElem?_map, List.getElem?_range hk]
  rfl
theorem nodes_join (M : List PairS) (d : Nat) (hd : d ≤ 15) : joinedL (nodesB M (d + 1)) = nodesB M d := by
  have h2 : 2 ^ (d + 1) / 2 = 2 ^ d := by rw [Nat.pow_succ, Nat.mul_div_cancel _ (by decide)]
  unfold joinedL
  rw [nodesB_len, h2]
  show _ = (List.range (2 ^ d)).map fun b => nodeN (128 - d) (bandS M d b) d
  refine List.map_congr_left fun k hk => ?_
  have hk2 : k < 2 ^ d := List.mem_range.1 hk
  have hp : 2 ^ (d + 1) = 2 * 2 ^ d := by rw [Nat.pow_succ, Nat.mul_comm]
  rw [entT_nodes M (d + 1) (2 * k) (by omega), entT_nodes M (d + 1) (2 * k + 1) (by omega)]
  have e0 : side 0 d (bandS M d k) = bandS M (d + 1) (2 * k) := band_side M d k 0 (by omega)
  have e1 := band_side M d k 1 (by omega)
  rw [← e0, ← e1, show 128 - (d + 1) = 127 - d by omega]
  exact join_half (bandS M d k) d hd
/-- the one that is left -/
theorem nodes_root (M : List PairS) : nodesB M 0 = [nodeN 128 M 0] := by
  unfold nodesB
  have e : bandS M 0 0 = M := List.filter_eq_self.2 (fun _ _ => rfl)
  show [nodeN 128 (bandS M 0 0) 0] = _
  rw [e]
end Go.Proofs.YtioahjdojgcfdaaDoor

namespace Go.Proofs.YtioahjdojgcfdaaDoor
open Go.RowKit Go.Shelf

theorem ownsRow_far {W : World} {base : Nat} {e : TypeId} {size k : Nat} {v : Value} {xs : List Value} (h : W.ownsRow base e size v k xs) {j : Nat} (hj : v.ownBlock = some j) : base ≤ j ∧ ∃ o : Obj, W.heap[j]? = some o ∧ o.isCells = true := by
  rcases h.2 with ⟨rfl, _⟩ | ⟨g, cap, cur, rfl, hb, hgb, _⟩
  · simp [Value.ownBlock] at hj
  · obtain rfl : g = j := by simpa [Value.ownBlock] using hj
    exact ⟨hb, _, hgb, rfl⟩
theorem ownsRow_stays {W W' : World} {base : Nat} {e : TypeId} {size k : Nat} {v : Value} {xs : List Value} (h : W.ownsRow base e size v k xs) (hg : W.grownBy W' none) : W'.ownsRow base e size v k xs := by
  refine h.kept hg ?_
  cases hv : v.ownBlock with
  | none => exact .inl rfl
  | some g => exact .inr (by simp)
theorem append_round {W4 W w2 w8 : World} {n n₀ B : Nat} {t e : TypeId} {size k m : Nat} {v v' : Value} {xs ys : List Value} {tmp : Obj} (hte : t ≠ e) (hn : n < n₀) (hn₀ : n₀ ≤ W.heap.size) (hB : Below n W4 W) (b1 : Boxed W n t v) (hO : W.ownsRow n₀ e size v k xs) (g2 : W.grownBy w2 none)
    (ho8 : w8.ownsRow n₀ e size v' m ys) (hg8 : (w2.alloc tmp).grownBy w8 v.ownBlock) :
    (w8.cell? ⟨n, 0, none⟩ = some v ∧ w8.frozen? ⟨n, 0, none⟩ = false) ∧
    (KeepsFrom B W (w8.setCell ⟨n, 0, none⟩ v') ∧ Turn (butOne n₀ n) W (w8.setCell ⟨n, 0, none⟩ v') ∧ (∃ v, Boxed (w8.setCell ⟨n, 0, none⟩ v') n t v ∧ (w8.setCell ⟨n, 0, none⟩ v').ownsRow n₀ e size v m ys ∧ True) ∧ Below n W4 (w8.setCell ⟨n, 0, none⟩ v')) := by
  have b2 := b1.kept g2 (by simp)
  have hO2 := ownsRow_stays hO g2
  have hO3 := ownsRow_stays hO2 (World.grownBy_alloc w2 tmp none)
  have g3 : W.grownBy (w2.alloc tmp) none := grownBy_trans g2 (World.grownBy_alloc w2 tmp none)
  have b3 := b2.alloc tmp
  have b8 : Boxed w8 n t v := b3.kept hg8 (b3.not_row hte hO3)
  refine ⟨⟨b8.cell, b8.frozen⟩, ?_, ?_, ⟨v', b8.set v', ho8.kept (grownBy_setCell' w8 n v') (.inr (b8.not_row hte ho8).symm), trivial⟩, ?_⟩
  · refine (((KeepsOthers.of_grownBy g3 (fun j o ej _ => by cases ej)).trans (KeepsOthers.of_grownBy hg8 fun j o ej hj => ?_)).trans (KeepsOthers.setCell _ _ _)).from _
    obtain ⟨_, o', h1, h2⟩ := ownsRow_far hO3 ej
    rw [h1] at hj
    cases hj
    exact h2
  · have h0 : Turn (butOne n₀ n) W (w2.alloc tmp) := Turn.of_grown g3
    have h1 : Turn (butOne n₀ n) W w8 := h0.row hg8 (fun i _ ei => Or.inl (ownsRow_far hO3 ei).1)
    exact h1.setCell (k := n) (fun _ => Or.inr rfl) 0 v'
  · have hs := hB.size
    have h1 : Below n W4 (w2.alloc tmp) := hB.grown g3 (by omega) (fun k e => by cases e)
    have h2 : Below n W4 w8 := h1.grown hg8 (by have := g3.size; omega) (fun j ej => by have := (ownsRow_far hO3 ej).1; omega)
    exact h2.setCell (p := ⟨n, 0, none⟩) (Nat.le_refl _) v'
end Go.Proofs.YtioahjdojgcfdaaDoor

namespace Go.Proofs.YtioahjdojgcfdaaDoor
open Go.RowKit
attribute [local irreducible] shaL

theorem conv1 (w : World) (c : Nat) (hc : c < 256) (b : Nat) (h : w.heap[b]? = some (.cells #[.int .u8 (c : Int)] 5 (0, 0))) :
    (convert 57 9 (.slice (some ⟨b, 0, none⟩) 1 1)).run Tryd.prog w = .ok (.string (str (be c 1))) w := by
  have e : (#[.int .u8 (c : Int)] : Array Value) = (u8s (be c 1)).toArray := by
    have h1 : be c 1 = [UInt8.ofNat (c % 256)] := by simp [be]
    have h2 : (UInt8.ofNat (c % 256)).toNat = c := by simp; omega
    rw [h1]
    show _ = (List.map (fun c : UInt8 => Value.int .u8 c.toNat) _).toArray
    simp only [List.map_cons, List.map_nil, h2]
  rw [e] at h
  have hl : (be c 1).length = 1 := be_length c 1
  have := row_string h 1
  rwa [hl] at this
theorem refNum4 (v : Nat) (hv : v ≤ 4294967295) (w : World) :
    Calls Tryd.prog 73 #[.int .u64 v, .int .i64 4] w fun e w' => e = .returned (.string (str (be v 4))) ∧ w.grownBy w' none := by
  have h := refNum_any v (by omega) 4 (by omega) w
  unfold refNum at h
  rwa [if_pos ⟨by omega, by omega, by show v < 4294967296; omega⟩] at h
end Go.Proofs.YtioahjdojgcfdaaDoor

namespace Go.Proofs.YtioahjdojgcfdaaDoor
open Go.RowKit Go.ChangeShapes Go.WideShapes

theorem cell_plain' {w : World} {a : Addr} {n : Nat} {v : Value} (h : w.cell? (a.add n) = some v) : w.cell? ⟨a.block, a.off + n, none⟩ = some v := by
  have hs := World.cell?_spot h
  obtain ⟨b, o, sp⟩ := a
  by_cases hn : n = 0
  · subst hn
    have : sp = none := by simpa [Addr.add] using hs
    subst this
    simpa [Addr.add] using h
  · simpa [Addr.add, hn] using h

section
variable {H : Type} {enc : TypeId × Value → H} {P : Program} {w : World} {base : Nat} {spare : Nat → Bool} {held : Bool}
def byteOf : Value → UInt8 | .int _ n => UInt8.ofNat n.toNat | _ => 0
/-- an array of bytes -/
theorem open_byte_array {r : Reach} {b0 : Nat} {t e : TypeId} {n : Nat} {v : Value} {d : DataW H} {p : List MemPlace} (hu : P.underlying t = some (.array n e)) (he : P.underlying e = some (.int .u8)) (hce : P.cellsOf e = 1) (hct : P.cellsOf t = n)
    (hval : Value.okWide P w r b0 t v) (h : DataW.Trod enc P w base spare held t v d p) : ∃ l : List UInt8, l.length = n ∧ v = .agg (bytesV l).toArray := by
  simp only [Value.okWide, hu] at hval
  obtain ⟨cs, rfl, hsz, -⟩ := hval
  obtain ⟨fuel, hf⟩ := h
  obtain ⟨xs, m, rfl, hx, hcl, hxl, hat⟩ := DataW.trod_array hu hf
  have hcs : cs.toList.length = n := by rw [← hct]; simpa using hsz
  refine ⟨cs.toList.map byteOf, by simpa using hcs, ?_⟩
  congr 1
  apply Array.toList_inj.1
  apply List.ext_getElem (by simp [bytesV])
  intro i h1 h2
  have hi : i < n := by omega
  have h3 := hat i hi
  have hxi : xs[i]? = some (xs[i]'(by omega)) := List.getElem?_eq_getElem (by omega)
  have h4 : ((Value.agg cs).cells.toList.drop (i * P.cellsOf e)).take (P.cellsOf e) = [cs.toList[i]] := by
    rw [hce, Nat.mul_one]
    show (cs.toList.drop i).take 1 = _
    rw [List.drop_eq_getElem_cons (by omega)]
    rfl
  rw [h4, hxi] at h3
  obtain ⟨a, ea, -, wa⟩ := DataW.trod_int he h3
  simp only [List.cons.injEq, and_true] at ea
  have hb : 0 ≤ a ∧ a ≤ 255 := by simpa [Lit.wf, IntKind.min, IntKind.max, IntKind.signed, IntKind.bits] using wa
  simp only [bytesV, List.getElem_map, List.getElem_toArray, ea, byteOf]
  congr 1
  simp
  omega
/-- a slice of integers: nil, or cells -/
theorem open_int_slice {t e : TypeId} {a0 : Option Addr} {len cap : Nat} {d : DataW H} {p : List MemPlace} (ht : P.underlying t = some (.slice e)) (he : P.underlying e = some (.int .i64)) (hc : P.cellsOf e = 1)
    (h : DataW.Trod enc P w base spare held t (.slice a0 len cap) d p) : ∃ L : List Int, L.length = len ∧ IntsAt w (.slice a0 len cap) L ∧ len ≤ cap ∧ cap ≤ maxLen ∧ ∀ x ∈ L, -9223372036854775808 ≤ x ∧ x ≤ 9223372036854775807 := by
  obtain ⟨fuel, hf⟩ := h
  rcases open_ints ht he hc hf with ⟨hcs, hx⟩ | ⟨a, len', cap', zs, hcs, _, hl, hm, hz, hx, hcell, hws⟩
  · have hv : Value.slice a0 len cap = .slice none 0 0 := by simpa [Value.cells] using hcs
    cases hv
    exact ⟨[], rfl, IntsAt.nil _ _ _, Nat.le_refl _, by unfold maxLen; omega, by simp⟩
  · have hv : Value.slice a0 len cap = .slice (some a) len' cap' := by simpa [Value.cells] using hcs
    cases hv
    have hls : len ≤ zs.length := by rw [hz]; split <;> omega
    have hlen : (zs.take len).length = len := by simp; omega
    refine ⟨zs.take len, hlen, ⟨some a, cap, by rw [hlen], fun i hi => ?_⟩, hl, hm, fun x hx => ?_⟩
    · have hc' := hcell i (by omega)
      have h00 := World.cell?_spot (hcell 0 (by omega))
      obtain ⟨g, o, sp⟩ := a
      obtain rfl : sp = none := by simpa [Addr.add] using h00
      refine ⟨g, o, rfl, ?_⟩
      rw [cell_plain' hc', List.getElem_take, List.getD_eq_getElem?_getD, List.getElem?_eq_getElem (by omega)]
      rfl
    · have := hws x (List.mem_of_mem_take hx)
      simpa [Lit.wf, IntKind.min, IntKind.max, IntKind.signed, IntKind.bits] using this
/-- an array of integers -/
theorem open_int_array {r : Reach} {b0 : Nat} {t e : TypeId} {n : Nat} {k : IntKind} {v : Value} {d : DataW H} {p : List MemPlace} (hu : P.underlying t = some (.array n e)) (he : P.underlying e = some (.int k)) (hce : P.cellsOf e = 1) (hct : P.cellsOf t = n)
    (hval : Value.okWide P w r b0 t v) (h : DataW.Trod enc P w base spare held t v d p) : ∃ l : List Int, l.length = n ∧ (∀ x ∈ l, (Lit.int k x).wf = true) ∧ v = .agg (l.map (Value.int k)).toArray := by
  simp only [Value.okWide, hu] at hval
  obtain ⟨cs, rfl, hsz, -⟩ := hval
  obtain ⟨fuel, hf⟩ := h
  obtain ⟨xs, m, rfl, hx, hcl, hxl, hat⟩ := DataW.trod_array hu hf
  have hcs : cs.toList.length = n := by rw [← hct]; simpa using hsz
  have each : ∀ i (hi : i < n), ∃ a, cs.toList[i]'(by omega) = .int k a ∧ (Lit.int k a).wf = true := by
    intro i hi
    have h3 := hat i hi
    have hxi : xs[i]? = some (xs[i]'(by omega)) := List.getElem?_eq_getElem (by omega)
    have h4 : ((Value.agg cs).cells.toList.drop (i * P.cellsOf e)).take (P.cellsOf e) = [cs.toList[i]'(by omega)] := by
      rw [hce, Nat.mul_one]
      show (cs.toList.drop i).take 1 = _
      rw [List.drop_eq_getElem_cons (by omega)]
      rfl
    rw [h4, hxi] at h3
    obtain ⟨a, ea, -, wa⟩ := DataW.trod_int he h3
    simp only [List.cons.injEq, and_true] at ea
    exact ⟨a, ea, wa⟩
  refine ⟨cs.toList.map intOf, by simpa using hcs, ?_, ?_⟩
  · intro x hx
    obtain ⟨v, hv, rfl⟩ := List.mem_map.1 hx
    obtain ⟨i, hi, rfl⟩ := List.getElem_of_mem hv
    obtain ⟨a, ea, wa⟩ := each i (by omega)
    rw [ea]
    exact wa
  · congr 1
    apply Array.toList_inj.1
    apply List.ext_getElem (by simp)
    intro i h1 h2
    obtain ⟨a, ea, wa⟩ := each i (by omega)
    simp only [List.getElem_map, ea, intOf]
end
end Go.Proofs.YtioahjdojgcfdaaDoor
