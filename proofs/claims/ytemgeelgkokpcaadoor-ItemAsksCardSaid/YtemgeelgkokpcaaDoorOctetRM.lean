/- What a Reader holds in memory. No walk. -/
import Derived.Test.YtemgeelgkokpcaaDoorOctetP
namespace Go.Proofs.YtemgeelgkokpcaaDoor
open Go.RowKit

/-- block b is a Reader with this rest and this error -/
def RdAt (w : World) (b : Nat) (rest : ByteArray) (err : Int) : Prop := w.heap[b]? = some (.cells #[.string rest, .int .i64 err] 108 (0, 0))
theorem RdAt.lt {w : World} {b : Nat} {s : ByteArray} {e : Int} (h : RdAt w b s e) : b < w.heap.size := (Array.getElem?_eq_some_iff.1 h).1
theorem RdAt.kept {w w' : World} {row : Option Nat} {b : Nat} {s : ByteArray} {e : Int} (h : RdAt w b s e) (hg : w.grownBy w' row) (hb : row ≠ some b) : RdAt w' b s e := by
  unfold RdAt
  rw [hg.block b h.lt (fun e => hb e.symm)]
  exact h




end Go.Proofs.YtemgeelgkokpcaaDoor
