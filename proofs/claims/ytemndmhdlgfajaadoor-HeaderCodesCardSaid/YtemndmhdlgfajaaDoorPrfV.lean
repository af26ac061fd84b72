/- The walk of Prove. -/
import Derived.Test.YtemndmhdlgfajaaDoorHeaderCodesB5
import Derived.Deep.AppendLies
import Derived.Deep.RegionHeld3
namespace Go.Proofs.YtemndmhdlgfajaaDoor
open Go.RowKit Go.Maps
attribute [local irreducible] shaL

theorem one_textP (r : ByteArray) : ∀ u ∈ [Value.string r], u.oneCell' = true := by
  intro u hu
  simp at hu
  subst hu
  rfl
theorem size_allocP {w w' : World} {row : Option Nat} (h : w.grownBy w' row) (o : Obj) : w.heap.size ≤ (w'.alloc o).heap.size := by
  have := h.size
  simp
  omega
def emptyP : Array Value := #[.slice none 0 0, .bool false, .string ⟨#[]⟩, .string ⟨#[]⟩]
theorem heap4 {w : World} {n : Nat} {a0 a1 a2 a3 : Value} {t : TypeId} (h : w.heap[n]? = some (.cells #[a0, a1, a2, a3] t (0, 0))) (v0 v1 v2 v3 : Value) :
    ((((w.setCell ⟨n, 0, none⟩ v0).setCell ⟨n, 1, none⟩ v1).setCell ⟨n, 2, none⟩ v2).setCell ⟨n, 3, none⟩ v3).heap[n]? = some (.cells #[v0, v1, v2, v3] t (0, 0)) := by
  have h1 := heap_setCell (heap_setCell (heap_setCell (heap_setCell h 0 v0) 1 v1) 2 v2) 3 v3
  rw [h1]
  rfl
theorem grown4 (w : World) (n : Nat) (v0 v1 v2 v3 : Value) : w.grownBy ((((w.setCell ⟨n, 0, none⟩ v0).setCell ⟨n, 1, none⟩ v1).setCell ⟨n, 2, none⟩ v2).setCell ⟨n, 3, none⟩ v3) (some n) :=
  grownBy_setCell (grownBy_setCell (grownBy_setCell (grownBy_setCell (World.grownBy.refl w _) 0 _) 1 _) 2 _) 3 _
end Go.Proofs.YtemndmhdlgfajaaDoor
