/- The walk of a bag's Turn, where the body is empty. -/
import Derived.Test.YtemgeelgkokpcaaBagH
namespace Go.Proofs.Ytemgeelgkokpcaa
open Go.RowKit

set_option maxRecDepth 100000 in
set_option maxHeartbeats 3200000 in
theorem bturn_empty (i at_ : Int) (d : Int) (n0 bb : Nat) (X : List Nat) (L : List LetS) (x : LetS) (w : World) (hB : KBag n0 X w bb L) (hl : L.length ≤ 256) (h0 : 0 < L.length) (p : Nat) (hp : placeI i L.length = p) (hx : L[p]? = some x) (hb0 : x.b.size = 0) :
    Calls Try.prog 9 #[.pointer (some ⟨bb, 0, none⟩), .int .i64 i, .int .i64 at_, .int .u8 d] w fun e w' => e = .returned (.bool false) ∧ w.grownBy w' none := by
  have hpl : p < L.length := (List.getElem?_eq_some_iff.1 hx).1
  obtain ⟨v, hA, hbX, hvX⟩ := hB
  obtain ⟨g, c, rfl, hgn, hgl⟩ := hA.o.form h0
  have HLE := Lib.hid (fun w' (k : w.grownBy w' none) => blen_any bb (some ⟨g, 0, none⟩) L.length c w' (hA.go k).h)
  have HMO := Lib.hid (fun w' => bmodulo_any i L.length h0 (by omega) w')
  rw [hp] at HMO
  obtain ⟨g', hg', c0, c1, c2, c3⟩ := (lets_own hA.o).at_ p _ hx
  obtain rfl : g = g' := by simpa using hg'
  have r0 : w.cell? ⟨bb, 0, none⟩ = some (.slice (some ⟨g, 0, none⟩) L.length c) := by rw [cell_of hA.h]; rfl
  have r0' : w.drew.cell? ⟨bb, 0, none⟩ = some (.slice (some ⟨g, 0, none⟩) L.length c) := r0
  have gd : w.grownBy w.drew none := grownBy_drew (World.grownBy.refl w none)
  have HLD := Lib.hid (HLE.out _ gd)
  have HCK : Hid (∀ w', w.grownBy w' none → w'.cell? ⟨g, p * 4 + 3, none⟩ = some (.string x.b)) := Lib.hid (fun w' k => k.cell c3 (by simp))
  have q0 : ((L.length : Int) == 0) = false := beq_eq_false_iff_ne.2 (by omega)
  have q1 : (0 : Int) ≤ (p : Int) := by omega
  have q2 : (p : Int) < (L.length : Int) := by omega
  have q5 : decide (x.b.size = 0) = true := decide_eq_true hb0
  have q6 : x.b.toList.isEmpty = true := by rw [emp]; exact q5
  obtain ⟨xt, xf, xk, xb⟩ := x
  dsimp only at *
  have HQ := Lib.hid (And.intro q5 (And.intro q6 hb0))
  clear hA hgn hgl hbX hvX hp hpl hx hg' c0 c1 c2 c3 hl h0 q5 q6 hb0
  go_enter Try.func9, Try.ntmps9
  go_wp2_with fail
  refine (HLE.out _ (World.grownBy.refl w none)).mono ?_
  rintro e w1 ⟨rfl, rfl⟩
  go_upto_region 3 with fail
  go_cut [9] (fun v9 wx => v9 = .pointer (some ⟨g, p * 4, none⟩) ∧ Hid (w.grownBy wx none))
  case first =>
    go_region_with (first
      | (go_at_call 12; (with_reducible refine HLD.out.mono ?_); rintro e w3 ⟨rfl, rfl⟩)
      | (go_at_call 13; (with_reducible refine (HMO.out _).mono ?_); rintro e w4 ⟨rfl, rfl⟩))
    all_goals
      go_wp2_with fail
      go_meet
      case rel => exact ⟨rfl, Lib.hid gd⟩
  case rest =>
    obtain ⟨rfl, HG⟩ := hcut
    rename World => wx
    have z3 := HCK.out wx HG.out
    obtain ⟨q5, q6, q7⟩ := HQ.out
    clear r0 r0' gd HLD HLE HCK
    go_wp2_with fail
    go_ret
    exact ⟨rfl, HG.out⟩
end Go.Proofs.Ytemgeelgkokpcaa
