/- The walks of a bag's Take, Again, where there are letters. -/
import Derived.Test.YtemgeelgkokpcaaBagD
namespace Go.Proofs.Ytemgeelgkokpcaa
open Go.RowKit

set_option maxRecDepth 100000 in
set_option maxHeartbeats 3200000 in
theorem btake_k (i : Int) (n0 bb : Nat) (X : List Nat) (L : List LetS) (x : LetS) (w : World) (hB : KBag n0 X w bb L) (hl : L.length ≤ 256) (h0 : 0 < L.length) (p : Nat) (hp : p = placeI i L.length) (hx : L[p]? = some x) (hX : ∀ y ∈ X, y < w.heap.size) (hn0 : n0 ≤ w.heap.size) :
    Calls Try.prog 6 #[.pointer (some ⟨bb, 0, none⟩), .int .i64 i] w fun e w' => e = .returned (.tuple #[x.val, .bool true]) ∧ KBag n0 X w' bb (L.eraseIdx p) ∧ Turn (rest n0 X) w w' := by
  obtain ⟨m, hm⟩ : ∃ m, w.heap.size = m := ⟨_, rfl⟩
  have hpl : p < L.length := (List.getElem?_eq_some_iff.1 hx).1
  have hb0 := heap_alloc_at w (.cells #[.int .i64 0, .int .i64 0, .int .i64 0, .string ⟨#[]⟩] 30) m hm
  have hg0 := World.grownBy_alloc w (.cells #[.int .i64 0, .int .i64 0, .int .i64 0, .string ⟨#[]⟩] 30) none
  obtain ⟨W0, hW0⟩ : ∃ W0, w.alloc (.cells #[.int .i64 0, .int .i64 0, .int .i64 0, .string ⟨#[]⟩] 30) = W0 := ⟨_, rfl⟩
  rw [hW0] at hb0 hg0
  have hz0 : W0.heap.size = m + 1 := by rw [← hW0, World.size_alloc, hm]
  obtain ⟨xt, xf, xk, xb⟩ := x
  have hb1 := heap_alloc_at W0 (.cells #[.int .i64 xt, .int .i64 xf, .int .i64 xk, .string xb] 30) (m + 1) hz0
  have hg1 := World.grownBy_alloc W0 (.cells #[.int .i64 xt, .int .i64 xf, .int .i64 xk, .string xb] 30) none
  obtain ⟨W1, hW1⟩ : ∃ W1, W0.alloc (.cells #[.int .i64 xt, .int .i64 xf, .int .i64 xk, .string xb] 30) = W1 := ⟨_, rfl⟩
  rw [hW1] at hb1 hg1
  obtain ⟨m1, hm1⟩ : ∃ m1, m + 1 = m1 := ⟨_, rfl⟩
  rw [hm1] at hb1 hz0
  obtain ⟨v, hA, hbX, hvX⟩ := hB
  obtain ⟨g, c, rfl, hgn, hgl⟩ := hA.o.form h0
  have hA0 := hA.go hg0
  have hA1 := hA0.go hg1
  have hbl := hA.lt
  have hLE := blen_any bb (some ⟨g, 0, none⟩) L.length c W0 hA0.h
  have HLE := Lib.hid hLE
  have HMO := Lib.hid (bmodulo_any i L.length h0 (by omega) W0)
  rw [← hp] at HMO
  have HDE := Lib.hid (delete_let n0 g L.length c L p W1 hA1.o hpl (by omega) (p + 1) rfl)
  obtain ⟨g', hg', c0, c1, c2, c3⟩ := (lets_own hA0.o).at_ p _ hx
  obtain rfl : g = g' := by simpa using hg'
  have r0 : W0.cell? ⟨bb, 0, none⟩ = some (.slice (some ⟨g, 0, none⟩) L.length c) := by rw [cell_of hA0.h]; rfl
  have r1 : W1.cell? ⟨bb, 0, none⟩ = some (.slice (some ⟨g, 0, none⟩) L.length c) := by rw [cell_of hA1.h]; rfl
  have hgb : g ≠ bb := fun e => hA.ne (by rw [e]; rfl)
  have HSV : Hid (∀ (w2 : World), W1.grownBy w2 (some g) → w2.ownsRow n0 30 4 (.slice (some ⟨g, 0, none⟩) (L.length - 1) c) (L.length - 1) (letsV (L.eraseIdx p)) → ∀ w3, w2.setCell ⟨bb, 0, none⟩ (.slice (some ⟨g, 0, none⟩) (L.length - 1) c) = w3 → w3.heap[m1]? = some (.cells #[.int .i64 xt, .int .i64 xf, .int .i64 xk, .string xb] 30 (0, 0)) ∧ w3.heap[m]? = some (.cells #[.int .i64 0, .int .i64 0, .int .i64 0, .string ⟨#[]⟩] 30 (0, 0)) ∧
      ∀ w4, w3.grownBy w4 (some m) → KBag n0 X w4 bb (L.eraseIdx p) ∧ Turn (rest n0 X) w w4) := Lib.hid (fun w2 k2 ho w3 e3 => by
    have hb2 := k2.heap hA1.h (fun e => hgb (Option.some.inj e))
    have hb3 : w3.heap[bb]? = some (.cells #[.slice (some ⟨g, 0, none⟩) (L.length - 1) c] 42 (0, 0)) := by rw [← e3]; exact (heap_setCell hb2 0 _).trans rfl
    have k3 : w2.grownBy w3 (some bb) := by rw [← e3]; exact grownBy_setCell (World.grownBy.refl _ _) 0 _
    refine ⟨k3.heap (k2.heap hb1 (fun e => by have := Option.some.inj e; omega)) (fun e => by have := Option.some.inj e; omega), k3.heap (k2.heap (hg1.heap hb0 (by simp)) (fun e => by have := Option.some.inj e; omega)) (fun e => by have := Option.some.inj e; omega), fun w4 k4 => ⟨⟨_, ⟨k4.heap hb3 (fun e => by have := Option.some.inj e; omega), ?_, fun q => hgb (by simpa [Value.ownBlock] using q), hA.l⟩, hbX, hvX⟩, ?_⟩⟩
    · rw [List.length_eraseIdx_of_lt hpl]
      exact own_keepB (own_keepB ho k3 (fun y q e => by
        have h1 : g = y := by simpa [Value.ownBlock] using q
        exact hgb (h1.trans (Option.some.inj e).symm))) k4 (fun y q e => by
        have h1 : g = y := by simpa [Value.ownBlock] using q
        have h2 := Option.some.inj e
        omega)
    · refine (((Turn.of_grown (grownBy_trans hg0 hg1)).row k2 (fun i hi e => ?_)).row k3 (fun i hi e => ?_)).row k4 (fun i hi e => ?_)
      · cases e; exact ⟨hgn, hvX _ rfl⟩
      · cases e; exact ⟨hA.l, hbX⟩
      · cases e; omega)
  have HW := Lib.hid (And.intro hW0 (And.intro hm (And.intro hW1 hz0)))
  have HMM := Lib.hid hm1
  have q0 : ((L.length : Int) == 0) = false := beq_eq_false_iff_ne.2 (by omega)
  have q1 : (0 : Int) ≤ (p : Int) := by omega
  have q2 : (p : Int) < (L.length : Int) := by omega
  have q3 : IntKind.i64.wrap ((p : Int) + 1) = ((p + 1 : Nat) : Int) := by rw [IntWalk.i64_in _ (by omega)]; rfl
  have hfb : ∀ (w2 : World), W1.grownBy w2 (some g) → w2.frozen? ⟨bb, 0, none⟩ = false ∧ (w2.cell? ⟨bb, 0, none⟩).isSome = true := fun w2 k2 => by
    have hb2 := k2.heap hA1.h (fun e => hgb (Option.some.inj e))
    exact ⟨free_of hb2 0, by rw [cell_of hb2]; rfl⟩
  have HFB := Lib.hid hfb
  obtain ⟨p1, hp1⟩ : ∃ p1, p + 1 = p1 := ⟨_, rfl⟩
  rw [hp1] at q3 HDE
  have HP1 := Lib.hid hp1
  obtain ⟨N1, hN1⟩ : ∃ N1, L.length - 1 = N1 := ⟨_, rfl⟩
  rw [hN1] at HDE HSV
  clear hb0 hb1 hg0 hg1 hW0 hW1 hm hm1 hz0 hA hA0 hA1 hbl hLE hgn hgl hgb hbX hvX hX hn0 hp hpl hx hg' hp1 hfb hN1
  unfold LetS.val LetS.cells
  go_enter Try.func6, Try.ntmps6
  go_wp2_with (first | rw [HW.out.1, HW.out.2.1] | rw [HW.out.1] | rw [HW.out.2.2.1, HW.out.2.2.2] | rw [HW.out.2.2.1])
  refine HLE.out.mono ?_
  rintro e w1 ⟨rfl, rfl⟩
  go_wp2_with fail
  refine HLE.out.mono ?_
  rintro e w1 ⟨rfl, rfl⟩
  go_wp2_with fail
  refine HMO.out.mono ?_
  rintro e w1 ⟨rfl, rfl⟩
  go_wp2_with (first | rw [HW.out.2.2.1, HW.out.2.2.2] | rw [HW.out.2.2.1])
  refine HDE.out.mono ?_
  rintro e w2 ⟨rfl, ho2, k2⟩
  have hc2 := (HFB.out w2 k2).2
  have hf2 := (HFB.out w2 k2).1
  obtain ⟨u2, hu2⟩ := Option.isSome_iff_exists.1 hc2
  obtain ⟨w3, hw3⟩ : ∃ w3, w2.setCell ⟨bb, 0, none⟩ (.slice (some ⟨g, 0, none⟩) N1 c) = w3 := ⟨_, rfl⟩
  obtain ⟨hm1, hm0, hfin⟩ := HSV.out w2 k2 ho2 w3 hw3
  obtain ⟨z0, z1, z2, z3⟩ := cells4B hm1
  obtain ⟨y0, y1, y2, y3⟩ := cells4B hm0
  have yf := fun j => free_of hm0 j
  have H3 := Lib.hid (And.intro hw3 (And.intro hm0 hfin))
  clear hw3 hm0 hm1 hfin hc2 k2 ho2 r0 r1 c0 c1 c2 c3
  go_wp2_with (rw [H3.out.1])
  refine bodyPost_ret (results_btake (n := m) (v0 := .int .i64 xt) (v1 := .int .i64 xf) (v2 := .int .i64 xk) (v3 := .string xb) rfl rfl (heap4B H3.out.2.1 _ _ _ _)) rfl ?_
  have := H3.out.2.2 _ (grown4B w3 m (.int .i64 xt) (.int .i64 xf) (.int .i64 xk) (.string xb))
  exact ⟨rfl, this.1, this.2⟩
end Go.Proofs.Ytemgeelgkokpcaa
