/- Items in memory. No walk. -/
import Derived.Test.YtemgeelgkokpcaaDoorItmP
import Derived.Laws.OwnMore
namespace Go.Proofs.YtemgeelgkokpcaaDoor
open Go.RowKit

def vNum (n : Int) : Value := .iface 83 (.int .i64 n)
def vText (s : ByteArray) : Value := .iface 86 (.string s)
def vList (b : Nat) : Value := .iface 95 (.pointer (some ⟨b, 0, none⟩))
/- a value is an item, all of whose blocks are in P; cells from one on are items -/
mutual
def ItemAt (w : World) (P : Nat → Prop) : Value → Tr → Prop
  | v, .num n => v = vNum n
  | v, .text s => v = vText s
  | v, .list l => ∃ b a c, v = vList b ∧ P b ∧ w.heap[b]? = some (.cells #[.slice a l.length c, .int .i64 (depTs l + 1 : Nat)] 97 (0, 0)) ∧ (0 < l.length → ∃ g, a = some ⟨g, 0, none⟩ ∧ P g ∧ ItemsAt w P g 0 l)
def ItemsAt (w : World) (P : Nat → Prop) : Nat → Nat → List Tr → Prop
  | _, _, [] => True
  | g, i, t :: r => (∃ v, w.cell? ⟨g, i, none⟩ = some v ∧ ItemAt w P v t) ∧ ItemsAt w P g (i + 1) r
end
theorem cell_heap {w : World} {b o : Nat} {v : Value} (h : w.cell? ⟨b, o, none⟩ = some v) : ∃ x, w.heap[b]? = some x := by
  rcases hb : w.heap[b]? with _ | x
  · simp [World.cell?, hb] at h
  · exact ⟨x, rfl⟩
mutual
theorem ItemAt.keep {w w' : World} {P Q : Nat → Prop} (hk : ∀ i o, P i → w.heap[i]? = some o → w'.heap[i]? = some o) (hQ : ∀ i, P i → i < w.heap.size → Q i) : ∀ (v : Value) (t : Tr), ItemAt w P v t → ItemAt w' Q v t
  | v, .num n, h => by rw [ItemAt] at *; exact h
  | v, .text s, h => by rw [ItemAt] at *; exact h
  | v, .list l, h => by
    rw [ItemAt] at *
    obtain ⟨b, a, c, h1, h2, h3, h4⟩ := h
    refine ⟨b, a, c, h1, hQ b h2 (Array.getElem?_eq_some_iff.1 h3).1, hk b _ h2 h3, fun h0 => ?_⟩
    obtain ⟨g, k1, k2, k3⟩ := h4 h0
    cases l with
    | nil => simp at h0
    | cons t r =>
      have k3' := k3
      rw [ItemsAt] at k3'
      obtain ⟨⟨v1, hv1, _⟩, _⟩ := k3'
      exact ⟨g, k1, hQ g k2 (cell_lt hv1), ItemsAt.keep hk hQ g 0 (t :: r) k2 k3⟩
theorem ItemsAt.keep {w w' : World} {P Q : Nat → Prop} (hk : ∀ i o, P i → w.heap[i]? = some o → w'.heap[i]? = some o) (hQ : ∀ i, P i → i < w.heap.size → Q i) : ∀ (g i : Nat) (l : List Tr), P g → ItemsAt w P g i l → ItemsAt w' Q g i l
  | _, _, [], _, _ => by rw [ItemsAt]; trivial
  | g, i, t :: r, hg, h => by
    rw [ItemsAt] at *
    obtain ⟨⟨v, hv, ht⟩, hr⟩ := h
    refine ⟨⟨v, ?_, ItemAt.keep hk hQ v t ht⟩, ItemsAt.keep hk hQ g (i + 1) r hg hr⟩
    obtain ⟨x, hx⟩ := cell_heap hv
    exact (World.cell?_of_block (a := ⟨g, i, none⟩) ((hk g x hg hx).trans hx.symm)).trans hv
end
theorem ItemAt.grown {w w' : World} {P : Nat → Prop} {v : Value} {t : Tr} (h : ItemAt w P v t) (g : w.grownBy w' none) : ItemAt w' P v t :=
  ItemAt.keep (fun _ _ _ e => g.heap e (by simp)) (fun _ p _ => p) v t h
theorem ItemAt.row {w w' : World} {P : Nat → Prop} {v : Value} {t : Tr} {b : Nat} (h : ItemAt w P v t) (g : w.grownBy w' (some b)) (hb : ¬ P b) : ItemAt w' P v t :=
  ItemAt.keep (fun i _ p e => g.heap e (fun q => hb (by rw [Option.some.inj q]; exact p))) (fun _ p _ => p) v t h
theorem ItemAt.mono {w : World} {P Q : Nat → Prop} {v : Value} {t : Tr} (h : ItemAt w P v t) (hq : ∀ i, P i → i < w.heap.size → Q i) : ItemAt w Q v t :=
  ItemAt.keep (fun _ _ _ e => e) hq v t h
theorem ItemsAt.at_ {w : World} {P : Nat → Prop} {g : Nat} : ∀ {i : Nat} {l : List Tr} {k : Nat} {t : Tr}, ItemsAt w P g i l → l[k]? = some t → ∃ v, w.cell? ⟨g, i + k, none⟩ = some v ∧ ItemAt w P v t
  | i, t :: r, 0, x, h, hx => by
    rw [ItemsAt] at h
    simp at hx
    subst hx
    exact h.1
  | i, t :: r, k + 1, x, h, hx => by
    rw [ItemsAt] at h
    have := ItemsAt.at_ (k := k) h.2 (by simpa using hx)
    rwa [Nat.add_assoc, Nat.add_comm 1 k] at this
/-- values that are items, one by one -/
def AllAt (w : World) (P : Nat → Prop) (vs : List Value) (l : List Tr) : Prop := vs.length = l.length ∧ ∀ (k : Nat) (v : Value) (t : Tr), vs[k]? = some v → l[k]? = some t → ItemAt w P v t
theorem AllAt.nil (w : World) (P : Nat → Prop) : AllAt w P [] [] := ⟨rfl, fun k v t h => by simp at h⟩
theorem AllAt.keep {w w' : World} {P Q : Nat → Prop} {vs : List Value} {l : List Tr} (h : AllAt w P vs l) (hk : ∀ i o, P i → w.heap[i]? = some o → w'.heap[i]? = some o) (hQ : ∀ i, P i → i < w.heap.size → Q i) : AllAt w' Q vs l :=
  ⟨h.1, fun k v t hv ht => ItemAt.keep hk hQ v t (h.2 k v t hv ht)⟩
theorem AllAt.push {w : World} {P : Nat → Prop} {vs : List Value} {l : List Tr} (h : AllAt w P vs l) {v : Value} {t : Tr} (hv : ItemAt w P v t) : AllAt w P (vs ++ [v]) (l ++ [t]) := by
  refine ⟨by rw [List.length_append, List.length_append, h.1]; rfl, fun k u x hu hx => ?_⟩
  rcases Nat.lt_or_ge k vs.length with hlt | hge
  · rw [List.getElem?_append_left hlt] at hu
    rw [List.getElem?_append_left (by rw [← h.1]; exact hlt)] at hx
    exact h.2 k u x hu hx
  · rw [List.getElem?_append_right hge] at hu
    rw [List.getElem?_append_right (by rw [← h.1]; exact hge)] at hx
    have hk : k - vs.length = 0 := by
      have := (List.getElem?_eq_some_iff.1 hu).1
      simp at this
      omega
    rw [hk] at hu
    rw [← h.1, hk] at hx
    simp at hu hx
    rw [← hu, ← hx]
    exact hv
theorem items_of : ∀ {w : World} {P : Nat → Prop} {g : Nat} (l : List Tr) (i : Nat), (∀ k t, l[k]? = some t → ∃ v, w.cell? ⟨g, i + k, none⟩ = some v ∧ ItemAt w P v t) → ItemsAt w P g i l
  | w, P, g, [], i, _ => by rw [ItemsAt]; trivial
  | w, P, g, t :: r, i, h => by
    rw [ItemsAt]
    refine ⟨by simpa using h 0 t rfl, items_of r (i + 1) fun k x hx => ?_⟩
    have := h (k + 1) x (by simpa using hx)
    rwa [show i + (k + 1) = i + 1 + k by omega] at this
theorem items_all {w : World} {P : Nat → Prop} {B g n c : Nat} {vs : List Value} {l : List Tr} (ho : w.ownsRow B 24 1 (.slice (some ⟨g, 0, none⟩) n c) n vs) (h : AllAt w P vs l) : ItemsAt w P g 0 l := by
  refine items_of l 0 fun k t ht => ?_
  have hk := (List.getElem?_eq_some_iff.1 ht).1
  have hvk : k < vs.length := by rw [h.1]; exact hk
  have hn := ho.1
  refine ⟨vs[k], ?_, h.2 k _ t (List.getElem?_eq_getElem hvk) ht⟩
  rw [Nat.zero_add, ho.cellAt k (by omega), List.getElem?_eq_getElem hvk]
theorem item_one {w : World} {P : Nat → Prop} : ∀ {v : Value} {t : Tr}, ItemAt w P v t → v.oneCell' = true
  | v, .num n, h => by rw [ItemAt] at h; subst h; rfl
  | v, .text s, h => by rw [ItemAt] at h; subst h; rfl
  | v, .list l, h => by
    rw [ItemAt] at h
    obtain ⟨b, a, c, h1, _⟩ := h
    subst h1
    rfl
@[go_sem] theorem asI1 (v : Value) (w : World) : (Instr.typeAssert (.iface 83 v) 24 83 true).run Tryd.prog w = .ok (.tuple #[v, .bool true]) w := by kernel_rfl
@[go_sem] theorem asI2 (v : Value) (w : World) : (Instr.typeAssert (.iface 83 v) 24 86 true).run Tryd.prog w = .ok (.tuple #[.string ByteArray.empty, .bool false]) w := by kernel_rfl
@[go_sem] theorem asI3 (v : Value) (w : World) : (Instr.typeAssert (.iface 83 v) 24 95 true).run Tryd.prog w = .ok (.tuple #[.pointer none, .bool false]) w := by kernel_rfl
@[go_sem] theorem asI4 (v : Value) (w : World) : (Instr.typeAssert (.iface 86 v) 24 83 true).run Tryd.prog w = .ok (.tuple #[.int .i64 0, .bool false]) w := by kernel_rfl
@[go_sem] theorem asI5 (v : Value) (w : World) : (Instr.typeAssert (.iface 86 v) 24 86 true).run Tryd.prog w = .ok (.tuple #[v, .bool true]) w := by kernel_rfl
@[go_sem] theorem asI6 (v : Value) (w : World) : (Instr.typeAssert (.iface 86 v) 24 95 true).run Tryd.prog w = .ok (.tuple #[.pointer none, .bool false]) w := by kernel_rfl
@[go_sem] theorem asI7 (v : Value) (w : World) : (Instr.typeAssert (.iface 95 v) 24 83 true).run Tryd.prog w = .ok (.tuple #[.int .i64 0, .bool false]) w := by kernel_rfl
@[go_sem] theorem asI8 (v : Value) (w : World) : (Instr.typeAssert (.iface 95 v) 24 86 true).run Tryd.prog w = .ok (.tuple #[.string ByteArray.empty, .bool false]) w := by kernel_rfl
@[go_sem] theorem asI9 (v : Value) (w : World) : (Instr.typeAssert (.iface 95 v) 24 95 true).run Tryd.prog w = .ok (.tuple #[v, .bool true]) w := by kernel_rfl
@[go_sem] theorem asI10 (w : World) : (Instr.typeAssert .nilIface 24 83 true).run Tryd.prog w = .ok (.tuple #[.int .i64 0, .bool false]) w := by kernel_rfl
@[go_sem] theorem asI11 (w : World) : (Instr.typeAssert .nilIface 24 86 true).run Tryd.prog w = .ok (.tuple #[.string ByteArray.empty, .bool false]) w := by kernel_rfl
@[go_sem] theorem asI12 (w : World) : (Instr.typeAssert .nilIface 24 95 true).run Tryd.prog w = .ok (.tuple #[.pointer none, .bool false]) w := by kernel_rfl
end Go.Proofs.YtemgeelgkokpcaaDoor
