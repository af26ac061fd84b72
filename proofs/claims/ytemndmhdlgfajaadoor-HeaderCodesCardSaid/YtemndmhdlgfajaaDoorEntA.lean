/- The walks of an entry's Encode, Value, Name, Next. -/
import Derived.Test.YtemndmhdlgfajaaDoorHeaderCodesB3
namespace Go.Proofs.YtemndmhdlgfajaaDoor
open Go.RowKit
attribute [local irreducible] shaL

structure EntS.small (x : EntS) : Prop where
  v : x.v ≤ 18446744073709551615
  o : x.o.size ≤ 100000
  r : x.r.size ≤ 100000
  p : x.p.size ≤ 100000
def EntS.val (x : EntS) : Value := .agg #[.int .u64 x.v, .string x.o, .string x.r, .int .i64 x.h, .string x.p]
def EntS.cells (x : EntS) : List Value := [.int .u64 x.v, .string x.o, .string x.r, .int .i64 x.h, .string x.p]
theorem cells5 {w : World} {b : Nat} {t : TypeId} {a0 a1 a2 a3 a4 : Value} (h : w.heap[b]? = some (.cells #[a0, a1, a2, a3, a4] t (0, 0))) :
    w.cell? ⟨b, 0, none⟩ = some a0 ∧ w.cell? ⟨b, 1, none⟩ = some a1 ∧ w.cell? ⟨b, 2, none⟩ = some a2 ∧ w.cell? ⟨b, 3, none⟩ = some a3 ∧ w.cell? ⟨b, 4, none⟩ = some a4 := by
  refine ⟨?_, ?_, ?_, ?_, ?_⟩ <;> rw [cell_of h] <;> rfl
end Go.Proofs.YtemndmhdlgfajaaDoor
