/- What speaks says of a disk. -/
import Derived.Test.YtfomchkmedoenaaSecRd
import Derived.Test.YtfomchkmedoenaaSecOn
import Derived.Test.YtfomchkmedoenaaSecStart
import Derived.Test.YtfomchkmedoenaaSecFull
namespace Go.Proofs.Ytfomchkmedoenaa
open Go.RowKit

theorem new_no (n : Int) (h : n < 4 ∨ 1024 < n) (w : World) :
    Calls Try.prog 5 #[.int .i64 n] w fun e w' => e = .returned (.tuple #[.pointer none, .int .i64 1]) ∧ w = w' := by
  by_cases h4 : n < 4
  · clear h
    go_enter Try.func5, Try.ntmps5
    go_wp2_with fail
    go_ret2
    exact ⟨rfl, rfl⟩
  · have h5 : 1024 < n := by omega
    clear h
    go_enter Try.func5, Try.ntmps5
    go_wp2_with fail
    go_ret2
    exact ⟨rfl, rfl⟩
theorem sync_nil (w : World) : Calls Try.prog 10 #[.pointer none] w fun e w' => e = .returned (.int .i64 1) ∧ w = w' := by
  go_enter Try.func10, Try.ntmps10
  go_wp2_with fail
  refine (works_nil w).mono ?_
  rintro e w1 ⟨rfl, rfl⟩
  go_wp2_with fail
  go_ret
  exact ⟨rfl, rfl⟩
theorem fuse_nil (n : Int) (v : Value) (w : World) : Calls Try.prog 11 #[.pointer none, .int .i64 n, v] w fun e w' => e = .returned (.tuple #[]) ∧ w = w' := by
  go_enter Try.func11, Try.ntmps11
  go_wp2_with fail
  exact bodyPost_ret (results_none rfl _ _ _) rfl ⟨rfl, rfl⟩

theorem grow_made {w w1 w2 : World} (h : w.heap.size ≤ w1.heap.size) (h2 : w1.heap.size ≤ w2.heap.size) (i : Nat) : grow (madeIn w w1) w1 w2 i → madeIn w w2 i := by
  rintro (⟨a, b⟩ | ⟨a, b⟩)
  · exact ⟨a, by omega⟩
  · exact ⟨by omega, b⟩
theorem bytes_new (w : World) (l : List UInt8) (n : Nat) (h : n = l.length) : BytesAt (w.alloc (.cells (bytesV l).toArray 5)) (.slice (some ⟨w.heap.size, 0, none⟩) n n) l := by
  subst h
  refine ⟨_, _, rfl, fun i hi => ⟨w.heap.size, 0, rfl, ?_⟩⟩
  rw [cell_of (heap_alloc_at w _ _ rfl), Nat.zero_add]
  simp [bytesV, List.getElem?_eq_getElem hi]
theorem spk_text : str (readL (cutD (wroteD (newD 4) 0 ⟨#[97, 98, 99]⟩) [2]).last [] 0) = fullT ⟨#[97, 98]⟩ := by kernel_rfl

set_option maxHeartbeats 1000000 in
theorem sec_speaks (w : World) : Calls Try.prog 4 #[] w fun e w' => e = .returned (.bool true) ∧ w.grownBy w' none := by
  go_enter Try.func4, Try.ntmps4
  go_wp2_with fail
  refine (new_ok 4 (by decide) (by decide) w).mono ?_
  rintro e w1 ⟨b, rfl, hd1, g1⟩
  have D1 := Lib.hid hd1
  have G1 := Lib.hid g1
  clear hd1 g1
  go_wp2_with fail
  refine (write_ok _ b (newD 4) 0 ⟨#[97, 98, 99]⟩ w1 D1.out rfl (by decide) (by decide) (by decide) (by decide) (by decide)).mono ?_
  rintro e w2 ⟨rfl, hd2, t2⟩
  have D2 := Lib.hid (hd2.mono (fun i _ => grow_made G1.out.size t2.size i))
  have B2 := Lib.hid (t2.below (below_grownBy G1.out) G1.out.size (fun i hi q => by have := q.1; omega))
  clear hd2 t2 D1 G1
  go_wp2_with fail
  have hb2 : w2.grownBy (w2.alloc (.cells #[.int .u8 2] 5)) none := World.grownBy_alloc _ _ _
  have hby : BytesAt (w2.alloc (.cells #[.int .u8 2] 5)) (.slice (some ⟨w2.heap.size, 0, none⟩) 1 1) [2] := bytes_new w2 [2] 1 rfl
  refine (show Calls _ _ _ _ _ from cut_at _ b _ _ 1 [2] _ (D2.out.grown hb2) (by decide) hby (by decide) (by decide) (fun g o e => by cases e; intro q; have := q.2; omega)).mono ?_
  rintro e w3 ⟨rfl, hd3, t3⟩
  have D3 := Lib.hid hd3
  have B3 := Lib.hid (t3.below (B2.out.grown hb2 (by have := B2.out.size; omega) (fun k e => by cases e)) (by have := B2.out.size; simp; omega) (fun i hi q => by have := q.1; omega))
  clear hd3 t3 D2 B2 hby hb2
  go_wp2_with fail
  refine (on_at _ b _ w3 D3.out).mono ?_
  rintro e w4 ⟨rfl, rfl⟩
  have on3 : (cutD (wroteD (newD 4) 0 ⟨#[97, 98, 99]⟩) [2]).on = false := rfl
  rw [on3]
  clear on3
  go_wp2_with fail
  refine (start_at _ b _ w3 D3.out).mono ?_
  rintro e w4 ⟨rfl, hd4, t4⟩
  have D4 := Lib.hid hd4
  have B4 := Lib.hid (t4.below B3.out (by have := B3.out.size; omega) (fun i hi q => by have := D3.out.own.1; omega))
  clear hd4 t4 D3 B3
  go_wp2_with fail
  refine (read_ok _ b 0 _ w4 D4.out rfl (by decide) (by decide)).mono ?_
  rintro e w5 ⟨rfl, g5⟩
  have D5 := Lib.hid (D4.out.grown g5)
  have B5 := Lib.hid (B4.out.grown g5 (by have := B4.out.size; omega) (fun k e => by cases e))
  clear g5 D4 B4
  have e0 : str (readL { cutD (wroteD (newD 4) 0 ⟨#[97, 98, 99]⟩) [2] with on := true }.last { cutD (wroteD (newD 4) 0 ⟨#[97, 98, 99]⟩) [2] with on := true }.wait 0) = fullT ⟨#[97, 98]⟩ := spk_text
  rw [e0]
  clear e0
  have HF := Lib.hid (full_any ⟨#[97, 98]⟩ (by decide) w5)
  have HC := Lib.hid (count_at _ b _ w5 D5.out)
  generalize fullT ⟨#[97, 98]⟩ = T at HF ⊢
  go_wp2_with (first
    | (go_at_call 6; (with_reducible refine HF.out.mono ?_); rintro e w6 ⟨rfl, rfl⟩)
    | (go_at_call 17; (with_reducible refine (HC.out).mono ?_); rintro e w6 ⟨rfl, rfl⟩))
  go_ret
  exact ⟨rfl, grownBy_below B5.out⟩
end Go.Proofs.Ytfomchkmedoenaa
