/- The walk of a bag's Again. -/
import Derived.Test.YtemgeelgkokpcaaBagE
import Derived.Deep.RegionHeld3
namespace Go.Proofs.Ytemgeelgkokpcaa
open Go.RowKit

set_option maxRecDepth 100000 in
set_option maxHeartbeats 800000 in
theorem bagain_none (i : Int) (n0 bb : Nat) (X : List Nat) (w : World) (hB : KBag n0 X w bb []) :
    Calls Try.prog 8 #[.pointer (some ⟨bb, 0, none⟩), .int .i64 i] w fun e w' => e = .returned (.bool false) ∧ w = w' := by
  have HLE := Lib.hid (blen_k hB)
  rw [List.length_nil] at HLE
  clear hB
  go_enter Try.func8, Try.ntmps8
  go_wp2_with fail
  refine HLE.out.mono ?_
  rintro e w1 ⟨rfl, rfl⟩
  go_wp2_with fail
  go_ret
  exact ⟨rfl, rfl⟩
set_option maxRecDepth 100000 in
set_option maxHeartbeats 3200000 in
theorem bagain_k (i : Int) (n0 bb : Nat) (X : List Nat) (L : List LetS) (x : LetS) (w : World) (hB : KBag n0 X w bb L) (hl : L.length < 256) (h0 : 0 < L.length) (hx : L[placeI i L.length]? = some x) (hX : ∀ y ∈ X, y < w.heap.size) (hn0 : n0 ≤ w.heap.size) :
    Calls Try.prog 8 #[.pointer (some ⟨bb, 0, none⟩), .int .i64 i] w fun e w' => e = .returned (.bool true) ∧ KBag n0 X w' bb (L ++ [x]) ∧ Turn (rest n0 X) w w' := by
  obtain ⟨p, hp⟩ : ∃ p, placeI i L.length = p := ⟨_, rfl⟩
  rw [hp] at hx
  have hpl : p < L.length := (List.getElem?_eq_some_iff.1 hx).1
  have hBK := hB
  obtain ⟨v, hA, hbX, hvX⟩ := hB
  obtain ⟨g, c, rfl, hgn, hgl⟩ := hA.o.form h0
  have HLE := Lib.hid (fun w' (k : w.grownBy w' none) => blen_any bb (some ⟨g, 0, none⟩) L.length c w' (hA.go k).h)
  have HMO := Lib.hid (fun w' => bmodulo_any i L.length h0 (by omega) w')
  rw [hp] at HMO
  obtain ⟨g', hg', c0, c1, c2, c3⟩ := (lets_own hA.o).at_ p _ hx
  obtain rfl : g = g' := by simpa using hg'
  have r0 : w.cell? ⟨bb, 0, none⟩ = some (.slice (some ⟨g, 0, none⟩) L.length c) := by rw [cell_of hA.h]; rfl
  have HPU := Lib.hid (fun w' (k : w.grownBy w' none) => bput_k x n0 bb X L w' (hBK.go k) hl (fun y hy => Nat.lt_of_lt_of_le (hX y hy) k.size) (Nat.le_trans hn0 k.size))
  have HCK : Hid (∀ w', w.grownBy w' none → w'.cell? ⟨bb, 0, none⟩ = some (.slice (some ⟨g, 0, none⟩) L.length c) ∧ w'.cell? ⟨g, p * 4, none⟩ = some (.int .i64 x.t) ∧ w'.cell? ⟨g, p * 4 + 1, none⟩ = some (.int .i64 x.f) ∧ w'.cell? ⟨g, p * 4 + 2, none⟩ = some (.int .i64 x.k) ∧ w'.cell? ⟨g, p * 4 + 3, none⟩ = some (.string x.b)) := Lib.hid (fun w' k => ⟨k.cell r0 (by simp), k.cell c0 (by simp), k.cell c1 (by simp), k.cell c2 (by simp), k.cell c3 (by simp)⟩)
  obtain ⟨xt, xf, xk, xb⟩ := x
  unfold LetS.val LetS.cells at HPU
  have HFI : Hid (∀ w1 w2, w.grownBy w1 none → Turn (rest n0 X) w1 w2 → Turn (rest n0 X) w w2) := Lib.hid (fun w1 w2 k t => (Turn.of_grown k).then (t.mono (fun _ _ q => q)))
  have q0 : ((L.length : Int) == 0) = false := beq_eq_false_iff_ne.2 (by omega)
  have q1 : (0 : Int) ≤ (p : Int) := by omega
  have q2 : (p : Int) < (L.length : Int) := by omega
  have ck := HCK.out w.drew (grownBy_drew (World.grownBy.refl w none))
  have gd : w.grownBy w.drew none := grownBy_drew (World.grownBy.refl w none)
  clear hA hBK hgn hgl hbX hvX hX hn0 hp hpl hx hg' r0 c0 c1 c2 c3
  go_enter Try.func8, Try.ntmps8
  go_wp2_with fail
  refine (HLE.out _ (World.grownBy.refl w none)).mono ?_
  rintro e w1 ⟨rfl, rfl⟩
  go_upto_region 3 with fail
  obtain ⟨r0, c0, c1, c2, c3⟩ := ck
  obtain ⟨r0', c0', c1', c2', c3'⟩ := HCK.out w (World.grownBy.refl w none)
  have HLD := Lib.hid (HLE.out _ gd)
  have HPD := Lib.hid (HPU.out _ gd)
  have HFD := Lib.hid (fun w2 => HFI.out _ w2 gd)
  clear HPU HFI HCK HLE
  go_region_with (first
    | (go_at_call 12; (with_reducible refine HLD.out.mono ?_); rintro e w3 ⟨rfl, rfl⟩)
    | (go_at_call 13; (with_reducible refine (HMO.out _).mono ?_); rintro e w4 ⟨rfl, rfl⟩)
    | (go_at_call 11; (with_reducible refine HPD.out.mono ?_); rintro e w5 ⟨rfl, k5, t5⟩; have HK5 := Lib.hid (And.intro k5 (HFD.out _ t5))))
  all_goals
    go_wp2_with fail
    go_ret
    exact ⟨rfl, HK5.out⟩
end Go.Proofs.Ytemgeelgkokpcaa
