/- Texts out of rows of bytes. No walk. -/
import Derived.Test.YtemgeelgkokpcaaDoorMem
import Derived.Test.YtemgeelgkokpcaaDoorOctetSpec
import Derived.Laws.IdiomStrings
namespace Go.Proofs.YtemgeelgkokpcaaDoor
open Go.RowKit

def bytesV (l : List UInt8) : List Value := l.map fun c => .int .u8 c.toNat
theorem infoB : (Tryd.prog.info? 5).map (fun i => (i.zero, i.size, i.bytes)) = some (some (.int .u8 0), 1, 1) := by kernel_rfl
theorem made_bytes (n : Nat) : (madeCells #[Value.int .u8 0] n).toList = bytesV (List.replicate n 0) := by
  apply List.ext_getElem?
  intro i
  simp [madeCells, bytesV, List.getElem?_replicate]
  by_cases h : i < n <;> simp [h, Nat.mod_one]
/-- 'string(b)', b a row of the call's own that holds bytes -/
theorem own_str {wr : World} {B g k cap : Nat} {l : List UInt8} (h : wr.ownsRow B 5 1 (.slice (some ⟨g, 0, none⟩) k cap) k (bytesV l)) :
    (convert 50 9 (.slice (some ⟨g, 0, none⟩) k cap)).run Tryd.prog wr = .ok (.string (str l)) wr := by
  have hl : l.length = k := by simpa [bytesV] using h.1
  subst hl
  refine run_convert_bytes_back wr 50 9 5 _ cap l Tryd.underlying50 Tryd.underlying5 Tryd.underlying9 fun j hj => ?_
  rw [show Addr.add ⟨g, 0, none⟩ j = (⟨g, j, none⟩ : Addr) from by simp [Addr.add]; omega, h.cellAt j (by simpa using hj)]
  simp [bytesV, List.getElem?_eq_getElem hj]
/-- 'string(b[:])', b a block of bytes -/
theorem blk_str {w : World} {g : Nat} {l : List UInt8} {t : TypeId} (h : w.heap[g]? = some (.cells (bytesV l).toArray t (0, 0))) (cap : Nat) :
    (convert 50 9 (.slice (some ⟨g, 0, none⟩) l.length cap)).run Tryd.prog w = .ok (.string (str l)) w := by
  refine run_convert_bytes_back w 50 9 5 _ cap l Tryd.underlying50 Tryd.underlying5 Tryd.underlying9 fun j hj => ?_
  rw [show Addr.add ⟨g, 0, none⟩ j = (⟨g, j, none⟩ : Addr) from by simp [Addr.add]; omega, cell_of h, List.getElem?_toArray]
  simp [bytesV, List.getElem?_eq_getElem hj]
end Go.Proofs.YtemgeelgkokpcaaDoor
