/- The four bytes of a number. No walk. · The walk of the document's Four, and small things that the sha laws share. -/
import Derived.Test.YtheabbknflmnfaaDoorShaCalls
import Derived.Test.YtheabbknflmnfaaDoorShaRefF
namespace Go.Proofs.YtheabbknflmnfaaDoor
open Go.RowKit

theorem row_string_w (w : World) (vs : List Value) (l : List UInt8) (hl : vs = u8s l) :
    (convert 74 9 (.slice (some ⟨w.heap.size, 0, none⟩) l.length l.length)).run Tryd.prog (w.alloc (.cells vs.toArray 5)) = .ok (.string (str l)) (w.alloc (.cells vs.toArray 5)) := by
  subst hl
  exact row_string (w := w.alloc (.cells (u8s l).toArray 5)) (g := w.heap.size) (t := 5) (heap_alloc_at _ _ _ rfl) _
theorem be4 (n : Nat) : be n 4 = [UInt8.ofNat (n / 256 ^ 3 % 256), UInt8.ofNat (n / 256 ^ 2 % 256), UInt8.ofNat (n / 256 ^ 1 % 256), UInt8.ofNat (n / 256 ^ 0 % 256)] := by
  simp [be, Nat.div_div_eq_div_mul]
theorem four_bytes (n : Nat) : [Value.int .u8 ((n : Int) / 16777216 % 256), .int .u8 ((n : Int) / 65536 % 256), .int .u8 ((n : Int) / 256 % 256), .int .u8 ((n : Int) % 256)] = u8s (be n 4) := by
  rw [be4]
  simp [u8s]
end Go.Proofs.YtheabbknflmnfaaDoor

namespace Go.Proofs.YtheabbknflmnfaaDoor
open Go.RowKit

theorem shift_at (n k : Nat) (c m : Int) (hc : (k : Int) = c) (hn : n ≤ 4294967295) (hk : k ≤ 64) (hm : ((2 ^ k : Nat) : Int) = m) (w : World) :
    Calls Tryd.prog 88 #[.int .u64 n, .int .i64 c] w fun e w' => e = .returned (.int .u64 ((n : Int) / m)) ∧ w = w' := by
  subst hc
  exact (shift_any n k (by omega) (by omega) w).mono fun _ _ h => ⟨by rw [h.1, ← hm]; simp, h.2⟩

set_option maxHeartbeats 400000 in
set_option maxRecDepth 100000 in
theorem four_any (n : Nat) (hn : n ≤ 4294967295) (w : World) :
    Calls Tryd.prog 70 #[.int .i64 n] w fun e w' => e = .returned (.string (str (be n 4))) ∧ w.grownBy w' none := by
  have hcv : (convert 74 9 (.slice (some ⟨w.heap.size, 0, none⟩) 4 4)).run Tryd.prog (w.alloc (.cells #[Value.int .u8 ((n : Int) / 16777216), .int .u8 ((n : Int) / 65536 % 256), .int .u8 ((n : Int) / 256 % 256), .int .u8 ((n : Int) % 256)] 5)) = .ok (.string (str (be n 4))) (w.alloc (.cells #[Value.int .u8 ((n : Int) / 16777216), .int .u8 ((n : Int) / 65536 % 256), .int .u8 ((n : Int) / 256 % 256), .int .u8 ((n : Int) % 256)] 5)) := by
    have := row_string_w w _ (be n 4) (four_bytes n)
    rw [be_length, show (n : Int) / 16777216 % 256 = (n : Int) / 16777216 from by omega] at this
    exact this
  have c1 := shift_at n 24 24 16777216 rfl hn (by omega) (by decide) w
  have c2 := shift_at n 16 16 65536 rfl hn (by omega) (by decide) w
  have c3 := shift_at n 8 8 256 rfl hn (by omega) (by decide) w
  have H1 := Lib.hid c1
  have H2 := Lib.hid c2
  have H3 := Lib.hid c3
  clear c1 c2 c3
  go_enter Tryd.func70, Tryd.ntmps70
  go_wp2_with fail
  refine H1.out.mono ?_
  rintro e w' ⟨rfl, rfl⟩
  go_wp2_with fail
  refine H2.out.mono ?_
  rintro e w' ⟨rfl, rfl⟩
  go_wp2_with fail
  refine H3.out.mono ?_
  rintro e w' ⟨rfl, rfl⟩
  go_wp2_with fail
  go_ret
  exact ⟨rfl, World.grownBy_alloc _ _ _⟩
end Go.Proofs.YtheabbknflmnfaaDoor
