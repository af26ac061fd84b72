/- The walk of a bag's Turn. -/
import Derived.Test.YtemgeelgkokpcaaBagG
namespace Go.Proofs.Ytemgeelgkokpcaa
open Go.RowKit

set_option maxRecDepth 100000 in
set_option maxHeartbeats 800000 in
theorem bturn_none (i at_ d : Int) (n0 bb : Nat) (X : List Nat) (w : World) (hB : KBag n0 X w bb []) :
    Calls Try.prog 9 #[.pointer (some ⟨bb, 0, none⟩), .int .i64 i, .int .i64 at_, .int .u8 d] w fun e w' => e = .returned (.bool false) ∧ w.grownBy w' none := by
  have HLE := Lib.hid (blen_k hB)
  rw [List.length_nil] at HLE
  clear hB
  go_enter Try.func9, Try.ntmps9
  go_wp2_with fail
  refine HLE.out.mono ?_
  rintro e w1 ⟨rfl, rfl⟩
  go_wp2_with fail
  go_ret
  exact ⟨rfl, World.grownBy.refl _ _⟩
set_option maxRecDepth 100000 in
set_option maxHeartbeats 3200000 in
theorem bturn_k (i at_ : Int) (d : Nat) (hd : d < 256) (n0 bb : Nat) (X : List Nat) (L : List LetS) (x : LetS) (w : World) (hB : KBag n0 X w bb L) (hl : L.length ≤ 256) (h0 : 0 < L.length) (p : Nat) (hp : placeI i L.length = p) (hx : L[p]? = some x) (hb0 : 0 < x.b.size) (hb1 : x.b.size ≤ 1000) (hn0 : n0 ≤ w.heap.size) :
    Calls Try.prog 9 #[.pointer (some ⟨bb, 0, none⟩), .int .i64 i, .int .i64 at_, .int .u8 d] w fun e w' => e = .returned (.bool true) ∧ KBag n0 X w' bb (L.set p (x.body (turnB x.b at_ d))) ∧ Turn (rest n0 X) w w' := by
  have hpl : p < L.length := (List.getElem?_eq_some_iff.1 hx).1
  have hxe : L[p] = x := (List.getElem?_eq_some_iff.1 hx).2
  obtain ⟨v, hA, hbX, hvX⟩ := hB
  obtain ⟨g, c, rfl, hgn, hgl⟩ := hA.o.form h0
  have HLE := Lib.hid (fun w' (k : w.grownBy w' none) => blen_any bb (some ⟨g, 0, none⟩) L.length c w' (hA.go k).h)
  have HMO := Lib.hid (fun w' => bmodulo_any i L.length h0 (by omega) w')
  rw [hp] at HMO
  have HM2 := Lib.hid (fun w' => bmodulo_any at_ x.b.size hb0 (by omega) w')
  obtain ⟨g', hg', c0, c1, c2, c3⟩ := (lets_own hA.o).at_ p _ hx
  obtain rfl : g = g' := by simpa using hg'
  obtain ⟨q, hq⟩ : ∃ q, placeI at_ x.b.size = q := ⟨_, rfl⟩
  have hqn := placeI_lt at_ x.b.size hb0
  rw [hq] at HM2 hqn
  have r0 : w.cell? ⟨bb, 0, none⟩ = some (.slice (some ⟨g, 0, none⟩) L.length c) := by rw [cell_of hA.h]; rfl
  have r0' : w.drew.cell? ⟨bb, 0, none⟩ = some (.slice (some ⟨g, 0, none⟩) L.length c) := r0
  have gd : w.grownBy w.drew none := grownBy_drew (World.grownBy.refl w none)
  have HLD := Lib.hid (HLE.out _ gd)
  have hgb : g ≠ bb := fun e => hA.ne (by rw [e]; rfl)
  have HFIN : Hid (∀ w1 w2, w.grownBy w1 none → w1.setCell ⟨g, p * 4 + 3, none⟩ (.string (turnB x.b at_ d)) = w2 → KBag n0 X w2 bb (L.set p (x.body (turnB x.b at_ d))) ∧ Turn (rest n0 X) w w2) := Lib.hid (fun w1 w2 k1 e2 => by
    have hA1 := hA.go k1
    have hst := hA1.o.stored (p * 4 + 3) (.string (turnB x.b at_ d))
    rw [letsV_body L p hpl, hxe, e2] at hst
    refine ⟨⟨_, ⟨hst.2.heap hA1.h (fun e => hgb (Option.some.inj e)), by rw [List.length_set]; exact hst.1, hA.ne, hA.l⟩, hbX, hvX⟩, (Turn.of_grown k1).row hst.2 (fun i hi e => by cases e; exact ⟨hgn, hvX _ rfl⟩)⟩)
  have HCK : Hid (∀ w', w.grownBy w' none → w'.cell? ⟨g, p * 4 + 3, none⟩ = some (.string x.b) ∧ w'.frozen? ⟨g, p * 4 + 3, none⟩ = false) := Lib.hid (fun w' k => ⟨k.cell c3 (by simp), (hA.go k).o.frozenAt _⟩)
  have HFL := Lib.hid (fun W => flip_at x.b at_ d hd hb0 W q hq.symm)
  have q0 : ((L.length : Int) == 0) = false := beq_eq_false_iff_ne.2 (by omega)
  have q1 : (0 : Int) ≤ (p : Int) := by omega
  have q2 : (p : Int) < (L.length : Int) := by omega
  have q3 : (0 : Int) ≤ (q : Int) := by omega
  have q4 : (q : Int) < (x.b.size : Int) := by omega
  have q5 : decide (x.b.size = 0) = false := decide_eq_false (by omega)
  have q6 : x.b.toList.isEmpty = false := by rw [emp]; exact q5
  have q7 : ¬ (x.b.size = 0) := by omega
  obtain ⟨xt, xf, xk, xb⟩ := x
  dsimp only at *
  have HQ := Lib.hid (And.intro q5 (And.intro q6 q7))
  clear hA hgn hgl hbX hvX hn0 hp hpl hx hxe hg' c0 c1 c2 c3 hgb hq hqn hb0 hb1 hd hl h0 q5 q6 q7
  go_enter Try.func9, Try.ntmps9
  go_wp2_with fail
  refine (HLE.out _ (World.grownBy.refl w none)).mono ?_
  rintro e w1 ⟨rfl, rfl⟩
  go_upto_region 3 with fail
  go_cut [9] (fun v9 wx => v9 = .pointer (some ⟨g, p * 4, none⟩) ∧ Hid (w.grownBy wx none))
  case first =>
    go_region_with (first
      | (go_at_call 12; (with_reducible refine HLD.out.mono ?_); rintro e w3 ⟨rfl, rfl⟩)
      | (go_at_call 13; (with_reducible refine (HMO.out _).mono ?_); rintro e w4 ⟨rfl, rfl⟩))
    all_goals
      go_wp2_with fail
      go_meet
      case rel => exact ⟨rfl, Lib.hid gd⟩
  case rest =>
    obtain ⟨rfl, HG⟩ := hcut
    rename World => wx
    obtain ⟨z3, zf⟩ := HCK.out wx HG.out
    obtain ⟨YB, C, v, W1, W2, F⟩ := HFL.out wx
    have f1 := F.sz
    have f2 := F.cv
    have f3 := F.c1
    have f4 := F.f1
    have f5 := F.x1
    have f6 := F.w2
    have f7 := F.back W2 (World.grownBy.refl _ _)
    have gW2 := grownBy_trans HG.out F.g2
    obtain ⟨y3, yf⟩ := HCK.out W2 gW2
    have HW := Lib.hid (And.intro f1 f6)
    obtain ⟨W3, hW3⟩ : ∃ W3, W2.setCell ⟨g, p * 4 + 3, none⟩ (.string (turnB xb at_ d)) = W3 := ⟨_, rfl⟩
    have HF := Lib.hid (HFIN.out W2 W3 gW2 hW3)
    have HW3 := Lib.hid hW3
    generalize hTB : turnB xb at_ d = TB at *
    have HTB := Lib.hid hTB
    obtain ⟨q5, q6, q7⟩ := HQ.out
    clear F gW2 f1 f6 hW3 hTB r0 r0' gd HLD HLE HFIN HCK HFL HG
    go_wp2_with fail
    refine (HM2.out _).mono ?_
    rintro e w5 ⟨rfl, rfl⟩
    go_wp2_with (first | rw [HW.out.2] | rw [HW3.out])
    go_ret
    exact ⟨rfl, by rw [HTB.out]; exact HF.out⟩
end Go.Proofs.Ytemgeelgkokpcaa
