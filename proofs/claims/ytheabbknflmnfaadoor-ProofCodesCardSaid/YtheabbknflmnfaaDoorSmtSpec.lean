/- Plain words for sparse trees: nodes of pairs. No walk. -/
import Derived.Test.YtheabbknflmnfaaDoorBitsP
import Derived.Test.YtheabbknflmnfaaDoorWotsSpec
namespace Go.Proofs.YtheabbknflmnfaaDoor
attribute [local irreducible] shaL

def emptyS : ByteArray := ⟨#[0]⟩
def leafS (k v : ByteArray) : ByteArray := ⟨#[1]⟩ ++ tagS 9 [k, v]
def bothS (a b : ByteArray) : ByteArray := ⟨#[2]⟩ ++ tagS 10 [a, b]
/-- the first byte of a text, or 0 -/
def headB (s : ByteArray) : UInt8 := (s.data.toList[0]?).getD 0
def leafB (s : ByteArray) : Bool := decide (s.size = 17) && (headB s == 1)
def joinN (a b : ByteArray) : ByteArray := if a = emptyS ∧ (b = emptyS ∨ leafB b = true) then b else if b = emptyS ∧ leafB a = true then a else bothS a b
abbrev PairS := ByteArray × ByteArray
/-- those whose bit there is b -/
def side (b d : Nat) (l : List PairS) : List PairS := l.filter fun x => bitS x.1 d == b
def nodeN : Nat → List PairS → Nat → ByteArray
  | _, [], _ => emptyS
  | _, [x], _ => leafS x.1 x.2
  | 0, _ :: _ :: _, _ => emptyS
  | f + 1, x :: y :: r, d => joinN (nodeN f (side 0 d (x :: y :: r)) (d + 1)) (nodeN f (side 1 d (x :: y :: r)) (d + 1))
theorem nodeN_nil (f d : Nat) : nodeN f [] d = emptyS := by cases f <;> rfl
theorem nodeN_one (f d : Nat) (x : PairS) : nodeN f [x] d = leafS x.1 x.2 := by cases f <;> rfl
theorem nodeN_more (f d : Nat) (l : List PairS) (h : 2 ≤ l.length) : nodeN (f + 1) l d = joinN (nodeN f (side 0 d l) (d + 1)) (nodeN f (side 1 d l) (d + 1)) := by
  match l, h with
  | x :: y :: r, _ => rfl
theorem nodeN_perm : ∀ (f : Nat) (l m : List PairS) (d : Nat), l.Perm m → nodeN f l d = nodeN f m d := by
  intro f
  induction f with
  | zero =>
    intro l m d h
    have hl := h.length_eq
    match l, m, h, hl with
    | [], [], _, _ => rfl
    | [x], [y], h, _ => rw [List.perm_singleton.1 h.symm]
    | x :: y :: r, x' :: y' :: r', _, _ => rfl
  | succ f ih =>
    intro l m d h
    have hl := h.length_eq
    by_cases h2 : 2 ≤ l.length
    · rw [nodeN_more f d l h2, nodeN_more f d m (by omega), ih (side 0 d l) (side 0 d m) _ (h.filter _), ih (side 1 d l) (side 1 d m) _ (h.filter _)]
    · match l, m, h, hl, h2 with
      | [], [], _, _, _ => rfl
      | [x], [y], h, _, _ => rw [List.perm_singleton.1 h.symm]
      | x :: y :: r, _, _, _, h2 => simp at h2
theorem tag16 (t : UInt8) (L : List ByteArray) : (tagS t L).size = 16 := tagS_size _ _
theorem leafS_size (k v : ByteArray) : (leafS k v).size = 17 := by unfold leafS; rw [ByteArray.size_append, tag16]; rfl
theorem bothS_size (a b : ByteArray) : (bothS a b).size = 17 := by unfold bothS; rw [ByteArray.size_append, tag16]; rfl
theorem head_app (c : UInt8) (t : ByteArray) : headB (⟨#[c]⟩ ++ t) = c := by
  unfold headB
  rw [ByteArray.data_append, Array.toList_append]
  rfl
theorem leafS_leaf (k v : ByteArray) : leafB (leafS k v) = true := by
  unfold leafB
  rw [leafS_size, leafS, head_app]
  decide
theorem bothS_leaf (a b : ByteArray) : leafB (bothS a b) = false := by
  unfold leafB
  rw [bothS_size, bothS, head_app]
  decide
theorem emptyS_leaf : leafB emptyS = false := by decide
theorem size_ne {a b : ByteArray} (h : a.size ≠ b.size) : a ≠ b := fun e => h (by rw [e])
theorem leafS_ne (k v : ByteArray) : leafS k v ≠ emptyS := size_ne (by rw [leafS_size]; decide)
theorem bothS_ne (a b : ByteArray) : bothS a b ≠ emptyS := size_ne (by rw [bothS_size]; decide)
/-- a node: empty, a leaf's, or another one -/
inductive NodeS : ByteArray → Prop
  | none : NodeS emptyS
  | leaf (k v : ByteArray) : NodeS (leafS k v)
  | both (a b : ByteArray) : NodeS (bothS a b)
theorem joinN_node {a b : ByteArray} (ha : NodeS a) (hb : NodeS b) : NodeS (joinN a b) := by
  unfold joinN
  split
  · exact hb
  · split
    · exact ha
    · exact .both a b
theorem nodeN_node : ∀ (f : Nat) (l : List PairS) (d : Nat), NodeS (nodeN f l d)
  | 0, [], _ => .none
  | 0, [x], _ => .leaf _ _
  | 0, _ :: _ :: _, _ => .none
  | f + 1, [], _ => .none
  | f + 1, [x], _ => .leaf _ _
  | f + 1, x :: y :: r, d => joinN_node (nodeN_node f _ _) (nodeN_node f _ _)
theorem NodeS.size {a : ByteArray} (h : NodeS a) : a.size ≤ 17 := by
  cases h
  · decide
  · rw [leafS_size]; exact Nat.le_refl _
  · rw [bothS_size]; exact Nat.le_refl _

/-- keys of 16 bytes, no two the same, that begin alike by d bits -/
structure Alike (d : Nat) (l : List PairS) : Prop where
  len : ∀ x ∈ l, x.1.size = 16
  one : l.Pairwise (fun x y => x.1 ≠ y.1)
  bits : ∀ x ∈ l, ∀ y ∈ l, ∀ i, i < d → bitS x.1 i = bitS y.1 i
theorem bits_key {a b : ByteArray} (ha : a.size = 16) (hb : b.size = 16) (h : ∀ i, i < 128 → bitS a i = bitS b i) : a = b := by
  have := bits_all a.data.toList b.data.toList 16 (by rw [Array.length_toList]; exact ha) (by rw [Array.length_toList]; exact hb) (fun i hi => h i (by omega))
  exact ByteArray.ext (Array.toList_inj.1 this)
theorem Alike.few {d : Nat} {l : List PairS} (h : Alike d l) (hd : 128 ≤ d) : l.length ≤ 1 := by
  match l, h with
  | [], _ => simp
  | [x], _ => simp
  | x :: y :: r, h =>
    exfalso
    have h1 := (List.pairwise_cons.1 h.one).1 y (by simp)
    exact h1 (bits_key (h.len x (by simp)) (h.len y (by simp)) (fun i hi => h.bits x (by simp) y (by simp) i (by omega)))
theorem Alike.sub {d : Nat} {l m : List PairS} (h : Alike d l) (hs : m.Sublist l) : Alike d m :=
  ⟨fun x hx => h.len x (hs.subset hx), h.one.sublist hs, fun x hx y hy => h.bits x (hs.subset hx) y (hs.subset hy)⟩
theorem Alike.side {d b : Nat} {l : List PairS} (h : Alike d l) : Alike (d + 1) (side b d l) := by
  have h1 := h.sub (List.filter_sublist (p := fun x => bitS x.1 d == b))
  refine ⟨h1.len, h1.one, fun x hx y hy i hi => ?_⟩
  by_cases hid : i < d
  · exact h1.bits x hx y hy i hid
  · obtain rfl : i = d := by omega
    have e1 := (List.mem_filter.1 hx).2
    have e2 := (List.mem_filter.1 hy).2
    simp at e1 e2
    rw [e1, e2]
theorem Alike.perm {d : Nat} {l m : List PairS} (h : Alike d l) (hp : l.Perm m) : Alike d m :=
  ⟨fun x hx => h.len x (hp.mem_iff.2 hx), (hp.pairwise_iff (fun {_ _} q => Ne.symm q)).1 h.one, fun x hx y hy => h.bits x (hp.mem_iff.2 hx) y (hp.mem_iff.2 hy)⟩
/-- the document's joining, by how many keys are on each side -/
theorem side_all (b d : Nat) (l : List PairS) : side b d (side b d l) = side b d l := by unfold side; rw [List.filter_filter]; congr 1; funext x; simp
theorem side_len (d : Nat) (l : List PairS) : (side 0 d l).length + (side 1 d l).length = l.length := by
  induction l with
  | nil => rfl
  | cons x r ih =>
    have hb := bitS_le x.1 d
    unfold side at ih ⊢
    by_cases h : bitS x.1 d = 0
    · simp [List.filter_cons, h]; omega
    · have h1 : bitS x.1 d = 1 := by omega
      simp [List.filter_cons, h1]; omega
end Go.Proofs.YtheabbknflmnfaaDoor
