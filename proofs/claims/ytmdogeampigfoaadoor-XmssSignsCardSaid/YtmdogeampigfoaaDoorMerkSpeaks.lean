/- The walk of the merkle laws' speaks. -/
import Derived.Test.YtmdogeampigfoaaDoorMerkP
namespace Go.Proofs.YtmdogeampigfoaaDoor
open Go.RowKit
attribute [local irreducible] shaL

theorem StrsAt.lt {w : World} {g o n c : Nat} {L : List ByteArray} (h : StrsAt w (.slice (some ⟨g, o, none⟩) n c) L) (h0 : 0 < L.length) : g < w.heap.size := by
  obtain ⟨g', o', e, hc⟩ := h.at_ 0 _ (List.getElem?_eq_getElem h0)
  cases e
  exact cell_lt hc

set_option maxRecDepth 100000 in
set_option maxHeartbeats 800000 in
theorem merk_speaks (w : World) (hr : ShaReady w) : Calls Tryd.prog 7 #[] w fun e w' => e = .returned (.bool true) ∧ w.grownBy w' none := by
  have HR := Lib.hid hr
  have hsz : ∀ s ∈ [(⟨#[97]⟩ : ByteArray), ⟨#[98]⟩], s.size ≤ 1000000000000 := by intro s h; simp at h; rcases h with rfl | rfl <;> decide
  have ht := Lib.hid (root_ok (.slice (some ⟨w.heap.size, 0, none⟩) 2 2) [⟨#[97]⟩, ⟨#[98]⟩] 1 (by decide) rfl hsz (w.alloc (.cells #[.string ⟨#[97]⟩, .string ⟨#[98]⟩] 9)) (strs_new w [⟨#[97]⟩, ⟨#[98]⟩] 9 2 rfl) (hr.grown (World.grownBy_alloc _ _ _)))
  have hroot : rootS 1 [(⟨#[97]⟩ : ByteArray), ⟨#[98]⟩] = nodeS ⟨#[97]⟩ ⟨#[98]⟩ := rfl
  have hpath : pathS 1 [(⟨#[97]⟩ : ByteArray), ⟨#[98]⟩] 1 = [⟨#[97]⟩] := rfl
  have hclimb : climbS ⟨#[98]⟩ 1 [(⟨#[97]⟩ : ByteArray)] = nodeS ⟨#[97]⟩ ⟨#[98]⟩ := rfl
  rw [hroot] at ht
  have HN := Lib.hid (fun w0 (h : ShaReady w0) => node_any ⟨#[97]⟩ ⟨#[98]⟩ (by decide) (by decide) w0 h)
  have HPA := Lib.hid hpath
  have HCL := Lib.hid hclimb
  clear hr hroot hpath hclimb
  generalize nodeS ⟨#[97]⟩ ⟨#[98]⟩ = R at ht HN HCL
  go_enter Tryd.func7, Tryd.ntmps7
  go_wp2_with fail
  refine ht.out.mono ?_
  rintro e w1 ⟨rfl, g1⟩
  have G1 := Lib.hid (grownBy_trans (World.grownBy_alloc _ _ _) g1)
  clear g1 ht
  have hs1 := strs_new w1 [⟨#[97]⟩, ⟨#[98]⟩] 9 2 rfl
  have hp := path_ok (.slice (some ⟨w1.heap.size, 0, none⟩) 2 2) [⟨#[97]⟩, ⟨#[98]⟩] 1 1 (by decide) rfl (by decide) hsz (w1.alloc (.cells #[.string ⟨#[97]⟩, .string ⟨#[98]⟩] 9)) hs1 (fun g o n c e => by cases e; exact hs1.lt (by decide)) (HR.out.grown (grownBy_trans G1.out (World.grownBy_alloc _ _ _)))
  rw [HPA.out] at hp
  have HP := Lib.hid hp
  clear hp hs1 hsz
  go_wp2_with fail
  refine HP.out.mono ?_
  rintro e w2 ⟨v2, rfl, ho2, g2⟩
  obtain ⟨a2, c2, rfl⟩ := slice_own' ho2
  have HS2 := Lib.hid (strs_own ho2)
  have G2 := Lib.hid (grownBy_trans G1.out (grownBy_trans (World.grownBy_alloc _ _ _) g2))
  clear HP g2 ho2
  obtain ⟨gp, op, rfl, hc⟩ := HS2.out.at_ 0 _ rfl
  rw [Nat.add_zero] at hc
  go_wp2_with fail
  refine (HN.out w2 (HR.out.grown G2.out)).mono ?_
  rintro e w3 ⟨rfl, g3⟩
  have G3 := Lib.hid (grownBy_trans G2.out g3)
  have HS3 := Lib.hid (HS2.out.grown g3)
  have hc3 := g3.cell hc (by simp)
  have hcb := climb_any ⟨#[98]⟩ 1 _ [⟨#[97]⟩] (by decide) (by decide) (by decide) (by intro s h; simp at h; subst h; decide) w3 HS3.out (HR.out.grown G3.out)
  rw [HCL.out] at hcb
  have HCB := Lib.hid hcb
  clear hcb g3 hc
  go_wp2_with fail
  refine HCB.out.mono ?_
  rintro e w4 ⟨rfl, g4⟩
  have G4 := Lib.hid (grownBy_trans G3.out g4)
  clear g4 HCB
  go_wp2_with fail
  go_ret
  exact ⟨rfl, G4.out⟩
end Go.Proofs.YtmdogeampigfoaaDoor
