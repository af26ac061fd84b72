/- The four bytes of a number. No walk. -/
import Derived.Test.YtbakhdbnfmoceaaDoorShaCalls
namespace Go.Proofs.YtbakhdbnfmoceaaDoor
open Go.RowKit

theorem row_string_w (w : World) (vs : List Value) (l : List UInt8) (hl : vs = u8s l) :
    (convert 78 9 (.slice (some ⟨w.heap.size, 0, none⟩) l.length l.length)).run Tryd.prog (w.alloc (.cells vs.toArray 5)) = .ok (.string (str l)) (w.alloc (.cells vs.toArray 5)) := by
  subst hl
  exact row_string (w := w.alloc (.cells (u8s l).toArray 5)) (g := w.heap.size) (t := 5) (heap_alloc_at _ _ _ rfl) _
theorem be4 (n : Nat) : be n 4 = [UInt8.ofNat (n / 256 ^ 3 % 256), UInt8.ofNat (n / 256 ^ 2 % 256), UInt8.ofNat (n / 256 ^ 1 % 256), UInt8.ofNat (n / 256 ^ 0 % 256)] := by
  simp [be, Nat.div_div_eq_div_mul]
theorem four_bytes (n : Nat) : [Value.int .u8 ((n : Int) / 16777216 % 256), .int .u8 ((n : Int) / 65536 % 256), .int .u8 ((n : Int) / 256 % 256), .int .u8 ((n : Int) % 256)] = u8s (be n 4) := by
  rw [be4]
  simp [u8s]
end Go.Proofs.YtbakhdbnfmoceaaDoor
