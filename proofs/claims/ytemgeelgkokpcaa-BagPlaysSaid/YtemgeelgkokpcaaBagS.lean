/- Layer 27 speaks. -/
import Derived.Test.YtemgeelgkokpcaaBagH
namespace Go.Proofs.Ytemgeelgkokpcaa
open Go.RowKit

theorem Turn.grown0 {n0 : Nat} {X : List Nat} {w w' : World} (h : Turn (rest n0 X) w w') (hn : w.heap.size ≤ n0) : w.grownBy w' none :=
  ⟨h.os, h.tape, h.output, h.size, fun i hi _ => h.block i hi (fun q => by have := q.1; omega)⟩
theorem bnew_k (n0 : Nat) (X : List Nat) (w : World) (hX : ∀ y ∈ X, y < w.heap.size) (hn0 : n0 ≤ w.heap.size) :
    Calls Try.prog 5 #[] w fun e w' => ∃ bb, e = .returned (.pointer (some ⟨bb, 0, none⟩)) ∧ KBag n0 X w' bb [] ∧ w.grownBy w' none :=
  (bnew_any w).mono fun e w' ⟨q1, q2, q3⟩ => ⟨w.heap.size, q1, ⟨_, ⟨q2, World.ownsRow_nil _ _ _ _, by simp [Value.ownBlock], hn0⟩, fun q => by have := hX _ q; omega, fun y e => by simp [Value.ownBlock] at e⟩, q3⟩
def bodA : ByteArray := ⟨#[97]⟩
def bodB : ByteArray := ⟨#[98]⟩
set_option maxRecDepth 100000 in
set_option maxHeartbeats 3200000 in
theorem bag_speaks (w : World) :
    Calls Try.prog 4 #[] w fun e w' => e = .returned (.bool true) ∧ w.grownBy w' none := by
  obtain ⟨n0, hn0⟩ : ∃ n0, w.heap.size = n0 := ⟨_, rfl⟩
  have HN := Lib.hid hn0
  clear hn0
  go_enter Try.func4, Try.ntmps4
  go_wp2_with fail
  refine (bnew_k n0 [] w (fun _ h => by cases h) (by rw [HN.out]; exact Nat.le_refl _)).mono ?_
  rintro e w1 ⟨bb, rfl, k1, g1⟩
  have H1 := Lib.hid (And.intro k1 (Turn.of_grown (S := rest n0 []) g1))
  clear k1 g1
  go_wp2_with fail
  refine (bput_k ⟨1, 0, 0, ⟨#[97]⟩⟩ n0 bb [] [] w1 H1.out.1 (by decide) (fun _ h => by cases h) (by rw [← HN.out]; exact H1.out.2.size)).mono ?_
  rintro e w2 ⟨rfl, k2, t2⟩
  have H2 := Lib.hid (And.intro k2 (H1.out.2.then t2))
  clear k2 t2 H1
  go_wp2_with fail
  refine (bput_k ⟨2, 0, 0, ⟨#[98]⟩⟩ n0 bb [] _ w2 H2.out.1 (by decide) (fun _ h => by cases h) (by rw [← HN.out]; exact H2.out.2.size)).mono ?_
  rintro e w3 ⟨rfl, k3, t3⟩
  have H3 := Lib.hid (And.intro k3 (H2.out.2.then t3))
  clear k3 t3 H2
  go_wp2_with fail
  refine (bfor_k 2 n0 bb [] _ w3 H3.out.1 (by decide)).mono ?_
  rintro e w4 ⟨rfl, g4⟩
  have H4 := Lib.hid (And.intro (H3.out.1.go g4) (H3.out.2.grown g4))
  clear g4 H3
  rw [show forL ([] ++ [(⟨1, 0, 0, ⟨#[97]⟩⟩ : LetS)] ++ [⟨2, 0, 0, ⟨#[98]⟩⟩]) 2 = 1 from by decide]
  go_wp2_with fail
  refine (btake_k 1 n0 bb [] _ ⟨2, 0, 0, ⟨#[98]⟩⟩ w4 H4.out.1 (by decide) (by decide) 1 (by decide) rfl (fun _ h => by cases h) (by rw [← HN.out]; exact H4.out.2.size)).mono ?_
  rintro e w5 ⟨rfl, k5, t5⟩
  have H5 := Lib.hid (And.intro k5 (H4.out.2.then t5))
  clear k5 t5 H4
  unfold LetS.val LetS.cells
  have hb6 := heap_alloc_at w5 (.cells #[.int .i64 2, .int .i64 0, .int .i64 0, .string ⟨#[98]⟩] 30) _ rfl
  have hg6 := World.grownBy_alloc w5 (.cells #[.int .i64 2, .int .i64 0, .int .i64 0, .string ⟨#[98]⟩] 30) none
  obtain ⟨W6, hW6⟩ : ∃ W6, w5.alloc (.cells #[.int .i64 2, .int .i64 0, .int .i64 0, .string ⟨#[98]⟩] 30) = W6 := ⟨_, rfl⟩
  rw [hW6] at hb6 hg6
  obtain ⟨y0, y1, y2, y3⟩ := cells4B hb6
  have H6 := Lib.hid (And.intro (H5.out.1.go hg6) (H5.out.2.grown hg6))
  have HW := Lib.hid hW6
  clear hb6 hg6 hW6
  go_wp2_with (rw [HW.out])
  refine (blen_k H6.out.1).mono ?_
  rintro e w7 ⟨rfl, rfl⟩
  go_wp2_with fail
  go_ret
  exact ⟨rfl, H6.out.2.grown0 (by rw [HN.out]; exact Nat.le_refl _)⟩
end Go.Proofs.Ytemgeelgkokpcaa
