/- The walk of entry's Decode. -/
import Derived.Test.YtemndmhdlgfajaaDoorEntA
namespace Go.Proofs.YtemndmhdlgfajaaDoor
open Go.RowKit
attribute [local irreducible] shaL

theorem heap5 {w : World} {n : Nat} {a0 a1 a2 a3 a4 : Value} {t : TypeId} (h : w.heap[n]? = some (.cells #[a0, a1, a2, a3, a4] t (0, 0))) (v0 v1 v2 v3 v4 : Value) :
    (((((w.setCell ⟨n, 0, none⟩ v0).setCell ⟨n, 1, none⟩ v1).setCell ⟨n, 2, none⟩ v2).setCell ⟨n, 3, none⟩ v3).setCell ⟨n, 4, none⟩ v4).heap[n]? = some (.cells #[v0, v1, v2, v3, v4] t (0, 0)) :=
  (heap_setCell (heap_setCell (heap_setCell (heap_setCell (heap_setCell h 0 v0) 1 v1) 2 v2) 3 v3) 4 v4).trans rfl
theorem grown5 (w : World) (n : Nat) (v0 v1 v2 v3 v4 : Value) : w.grownBy (((((w.setCell ⟨n, 0, none⟩ v0).setCell ⟨n, 1, none⟩ v1).setCell ⟨n, 2, none⟩ v2).setCell ⟨n, 3, none⟩ v3).setCell ⟨n, 4, none⟩ v4) (some n) :=
  grownBy_setCell (grownBy_setCell (grownBy_setCell (grownBy_setCell (grownBy_setCell (World.grownBy.refl w _) 0 _) 1 _) 2 _) 3 _) 4 _
end Go.Proofs.YtemndmhdlgfajaaDoor
