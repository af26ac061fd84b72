/- The walk of the document's own Num (plumbobref02). -/
import Derived.Test.YtemgeelgkokpcaaDoorOctetRE
import Derived.Test.YtemgeelgkokpcaaDoorOctetRT
namespace Go.Proofs.YtemgeelgkokpcaaDoor
open Go.RowKit

/-- the document's bytes of a number, or none -/
def refNum (n : Nat) (k : Int) : List UInt8 := if 1 ≤ k ∧ k ≤ 8 ∧ n < 256 ^ k.toNat then be n k.toNat else []

theorem str_append (a b : List UInt8) : str a ++ str b = str (a ++ b) := by
  apply ByteArray.ext
  simp [str]

theorem one_stringO (w : World) (q : Nat) : (convert 50 9 (.slice (some ⟨w.heap.size, 0, none⟩) 1 1)).run Tryd.prog (w.alloc (.cells #[.int .u8 ((q : Int) % 256)] 5)) =
    .ok (.string (str [UInt8.ofNat (q % 256)])) (w.alloc (.cells #[.int .u8 ((q : Int) % 256)] 5)) := by
  refine run_convert_bytes_back _ 50 9 5 _ 1 [UInt8.ofNat (q % 256)] Tryd.underlying50 Tryd.underlying5 Tryd.underlying9 fun j hj => ?_
  obtain rfl : j = 0 := by simp at hj; omega
  rw [show Addr.add ⟨w.heap.size, 0, none⟩ 0 = (⟨w.heap.size, 0, none⟩ : Addr) from rfl, cell_of (heap_alloc_at w _ _ rfl)]
  simp

set_option maxHeartbeats 400000 in
theorem refNum_any (n : Nat) (hn : n ≤ 18446744073709551615) (k : Int) (hk0 : -9223372036854775808 ≤ k ∧ k ≤ 9223372036854775807) (w : World) :
    Calls Tryd.prog 23 #[.int .u64 n, .int .i64 k] w fun e w' => e = .returned (.string (str (refNum n k))) ∧ w.grownBy w' none := by
  by_cases hk : 1 ≤ k ∧ k ≤ 8
  · obtain ⟨k, rfl⟩ := Int.eq_ofNat_of_zero_le (show 0 ≤ k by omega)
    go_enter Tryd.func23, Tryd.ntmps23
    go_wp2_with fail
    go_loopw [0, 5, 6] (fun m s i wr => ∃ j : Nat, ∃ q : Nat, j ≤ k ∧ i = .int .i64 j ∧ m = .int .u64 q ∧ Hid (q = n / 256 ^ j) ∧ s = .string (str (be n j)) ∧ Hid (w.grownBy wr none))
      (fun _ _ i _ => k - (intOf i).toNat)
    case atStart => exact ⟨0, n, Nat.zero_le _, rfl, rfl, by simp [Hid], rfl, World.grownBy.refl _ _⟩
    case round =>
      obtain ⟨j, q, hj, rfl, rfl, HQ, rfl, HG⟩ := hrel
      by_cases hlt : j < k
      · have hc := one_stringO wr q
        have hs : (str [UInt8.ofNat (q % 256)]).size + (str (be n j)).size ≤ 9223372036854775807 := by
          rw [str_size, str_size, be_length]
          simp
          omega
        have hq : q ≤ 18446744073709551615 := by
          have := HQ.out
          have h2 := Nat.div_le_self n (256 ^ j)
          omega
        go_wp2
        go_roundw
        case rel =>
          refine ⟨j + 1, q / 256, by omega, by go_num, by simp, ?_, ?_, ?_⟩
          · show _ = _
            rw [HQ.out, Nat.div_div_eq_div_mul, Nat.pow_succ]
          · rw [str_append, be_cons, ← HQ.out]
            rfl
          · exact grownBy_alloc' HG.out _
        case measure => simp [intOf]; omega
      · have hjk : j = k := by omega
        by_cases hf : n < 256 ^ k
        · have hq0 : q = 0 := by
            rw [HQ.out, hjk]
            exact Nat.div_eq_of_lt hf
          subst hq0
          go_wp2
          go_ret
          refine ⟨?_, HG.out⟩
          have e : refNum n k = be n k := by simp [refNum, hf]; omega
          rw [e, ← hjk]
          rfl
        · have hq0 : 0 < q := by
            rw [HQ.out, hjk]
            exact Nat.div_pos (by omega) (Nat.pos_of_ne_zero (by simp))
          go_wp2
          go_ret
          refine ⟨?_, HG.out⟩
          have e : refNum n k = [] := by simp [refNum, hf]
          rw [e]
          rfl
  · have e : refNum n k = [] := by
      unfold refNum
      rw [if_neg (by intro h; exact hk ⟨h.1, h.2.1⟩)]
    rw [e]
    by_cases h0 : 0 < k
    · have h8 : 8 < k := by omega
      by_cases hn0 : 0 < n
      · go_enter Tryd.func23, Tryd.ntmps23
        go_wp2_with fail
        refine wp_loop_rounds 1 ?_
        rw [rounds_succ]
        go_wp2
        go_ret
        exact ⟨rfl, World.grownBy.refl _ _⟩
      · obtain rfl : n = 0 := by omega
        go_enter Tryd.func23, Tryd.ntmps23
        go_wp2_with fail
        refine wp_loop_rounds 1 ?_
        rw [rounds_succ]
        go_wp2
        go_ret
        exact ⟨rfl, World.grownBy.refl _ _⟩
    · by_cases hn0 : 0 < n
      · go_enter Tryd.func23, Tryd.ntmps23
        go_wp2_with fail
        refine wp_loop_rounds 1 ?_
        rw [rounds_succ]
        go_wp2
        go_ret
        exact ⟨rfl, World.grownBy.refl _ _⟩
      · obtain rfl : n = 0 := by omega
        go_enter Tryd.func23, Tryd.ntmps23
        go_wp2_with fail
        refine wp_loop_rounds 1 ?_
        rw [rounds_succ]
        go_wp2
        go_ret
        exact ⟨rfl, World.grownBy.refl _ _⟩
end Go.Proofs.YtemgeelgkokpcaaDoor
