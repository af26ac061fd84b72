/- Worlds that turn but in some blocks; the blocks from a number on that are not the caller's own. No walk; no type of the program. -/
import Derived.Test.YtemgeelgkokpcaaDoorMem
import Derived.Deep.MidRow
namespace Go.Proofs.YtemgeelgkokpcaaDoor
open Go.RowKit

/-- w' is as w was, but for the blocks of S, and new ones -/
structure Turn (S : Nat → Prop) (w w' : World) : Prop where
  os : w'.os = w.os
  tape : w'.tape = w.tape
  output : w'.output = w.output
  size : w.heap.size ≤ w'.heap.size
  block : ∀ i, i < w.heap.size → ¬ S i → w'.heap[i]? = w.heap[i]?
/-- the blocks that were made between two worlds -/
def madeIn (w w' : World) (i : Nat) : Prop := w.heap.size ≤ i ∧ i < w'.heap.size
theorem Turn.refl (S : Nat → Prop) (w : World) : Turn S w w := ⟨rfl, rfl, rfl, Nat.le_refl _, fun _ _ _ => rfl⟩
theorem Turn.mono {S T : Nat → Prop} {w w' : World} (h : Turn S w w') (hs : ∀ i, i < w.heap.size → S i → T i) : Turn T w w' := ⟨h.os, h.tape, h.output, h.size, fun i hi hn => h.block i hi (fun q => hn (hs i hi q))⟩
theorem Turn.trans {S T : Nat → Prop} {a b c : World} (h : Turn S a b) (k : Turn T b c) (hs : ∀ i, i < a.heap.size → T i → S i) : Turn S a c :=
  ⟨k.os.trans h.os, k.tape.trans h.tape, k.output.trans h.output, Nat.le_trans h.size k.size, fun i hi hn => (k.block i (Nat.lt_of_lt_of_le hi h.size) (fun q => hn (hs i hi q))).trans (h.block i hi hn)⟩
theorem Turn.then {S : Nat → Prop} {a b c : World} (h : Turn S a b) (k : Turn S b c) : Turn S a c := h.trans k (fun _ _ q => q)
theorem Turn.grown {S : Nat → Prop} {a b c : World} (h : Turn S a b) (k : b.grownBy c none) : Turn S a c := h.then ⟨k.os, k.tape, k.output, k.size, fun i hi _ => k.block i hi (by simp)⟩
theorem Turn.of_grown {S : Nat → Prop} {a b : World} (k : a.grownBy b none) : Turn S a b := (Turn.refl S a).grown k
theorem Turn.row {S : Nat → Prop} {a b c : World} (h : Turn S a b) {row : Option Nat} (k : b.grownBy c row) (hs : ∀ i, i < a.heap.size → row = some i → S i) : Turn S a c :=
  h.trans (T := fun i => row = some i) ⟨k.os, k.tape, k.output, k.size, fun i hi hn => k.block i hi (fun e => hn e.symm)⟩ hs
theorem Turn.drew {S : Nat → Prop} {a b : World} (h : Turn S a b) : Turn S a b.drew := ⟨h.os, h.tape, h.output, h.size, h.block⟩
theorem Turn.alloc {S : Nat → Prop} {a b : World} (h : Turn S a b) (o : Obj) : Turn S a (b.alloc o) := h.grown (World.grownBy_alloc b o none)
theorem Turn.setCell {S : Nat → Prop} {a b : World} (h : Turn S a b) {k : Nat} (hk : k < a.heap.size → S k) (o : Nat) (u : Value) : Turn S a (b.setCell ⟨k, o, none⟩ u) :=
  ⟨h.os, h.tape, h.output, by rw [size_setCell]; exact h.size, fun i hi hn => by rw [heap_setCell_ne _ _ _ _ (fun e => hn (by rw [← e]; exact hk (by omega)))]; exact h.block i hi hn⟩
theorem Turn.setCells {S : Nat → Prop} {a b : World} (h : Turn S a b) {k : Nat} (hk : k < a.heap.size → S k) (o : Nat) (vs : List Value) : Turn S a (b.setCells k o vs) :=
  ⟨by rw [← h.os]; induction vs generalizing o b with | nil => rfl | cons v r ih => exact ih (b := b.setCell _ v) (h.setCell hk o v) _,
   by rw [← h.tape]; induction vs generalizing o b with | nil => rfl | cons v r ih => exact ih (b := b.setCell _ v) (h.setCell hk o v) _,
   by rw [← h.output]; induction vs generalizing o b with | nil => rfl | cons v r ih => exact ih (b := b.setCell _ v) (h.setCell hk o v) _,
   by rw [size_setCells]; exact h.size, fun i hi hn => by rw [heap_setCells_ne (fun e => hn (by rw [← e]; exact hk (by omega)))]; exact h.block i hi hn⟩
theorem Turn.below {S : Nat → Prop} {B : Nat} {w0 w w' : World} (h : Below B w0 w) (k : Turn S w w') (hB : B ≤ w.heap.size) (hs : ∀ i, i < B → ¬ S i) : Below B w0 w' :=
  ⟨k.os.trans h.os, k.tape.trans h.tape, k.output.trans h.output, Nat.le_trans h.size k.size, fun i hi => (k.block i (Nat.lt_of_lt_of_le hi hB) (hs i hi)).trans (h.block i hi)⟩
theorem Turn.cell {S : Nat → Prop} {w w' : World} (h : Turn S w w') {b : Nat} (hb : b < w.heap.size) (hn : ¬ S b) (o : Nat) : w'.cell? ⟨b, o, none⟩ = w.cell? ⟨b, o, none⟩ := World.cell?_of_block (h.block b hb hn)
theorem Turn.heap {S : Nat → Prop} {w w' : World} (h : Turn S w w') {b : Nat} {o : Obj} (hb : w.heap[b]? = some o) (hn : ¬ S b) : w'.heap[b]? = some o := by
  rw [h.block b (Array.getElem?_eq_some_iff.1 hb).1 hn]; exact hb

/-- an own row lies on, where its block does not turn -/
theorem own_turn {S : Nat → Prop} {w w' : World} {B : Nat} {e : TypeId} {size n : Nat} {v : Value} {xs : List Value} (h : w.ownsRow B e size v n xs) (k : Turn S w w') (hs : ∀ g, v.ownBlock = some g → ¬ S g) : w'.ownsRow B e size v n xs := by
  refine ⟨h.1, ?_⟩
  rcases h.2 with h' | ⟨g, cap, cur, rfl, b, hg, r⟩
  · exact .inl h'
  · exact .inr ⟨g, cap, cur, rfl, b, k.heap hg (hs g rfl), r⟩

/-- the blocks from n0 on that are none of X -/
def rest (n0 : Nat) (X : List Nat) (i : Nat) : Prop := n0 ≤ i ∧ i ∉ X
theorem Turn.inX {n0 : Nat} {X : List Nat} {w w' : World} {x : Nat} {o : Obj} (k : Turn (rest n0 X) w w') (hx : x ∈ X) (h : w.heap[x]? = some o) : w'.heap[x]? = some o := k.heap h (fun q => q.2 hx)
theorem Turn.bel {n0 : Nat} {X : List Nat} {w0 w w' : World} (k : Turn (rest n0 X) w w') (h : Below n0 w0 w) (hn : n0 ≤ w.heap.size) : Below n0 w0 w' := k.below h hn (fun i hi q => by have := q.1; omega)
theorem rest_mono {n0 : Nat} {X Y : List Nat} (h : ∀ x ∈ X, x ∈ Y) {w w' : World} (k : Turn (rest n0 Y) w w') : Turn (rest n0 X) w w' := k.mono (fun _ _ q => ⟨q.1, fun hx => q.2 (h _ hx)⟩)

end Go.Proofs.YtemgeelgkokpcaaDoor
