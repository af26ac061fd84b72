/- The walk of the sha laws' speaks. -/
import Derived.Test.YtpnjnpfahkjhmaaDoorShaHex
namespace Go.Proofs.YtpnjnpfahkjhmaaDoor
open Go.RowKit

theorem abc_hex : hexL (shaL [97, 98, 99]) = [98, 97, 55, 56, 49, 54, 98, 102, 56, 102, 48, 49, 99, 102, 101, 97, 52, 49, 52, 49, 52, 48, 100, 101, 53, 100, 97, 101, 50, 50, 50, 51, 98, 48, 48, 51, 54, 49, 97, 51, 57, 54, 49, 55, 55, 97, 57, 99, 98, 52, 49, 48, 102, 102, 54, 49, 102, 50, 48, 48, 49, 53, 97, 100] := by
  rw [abc_is]
  decide
theorem abc_str : str (hexL (shaL [97, 98, 99])) = ⟨#[98, 97, 55, 56, 49, 54, 98, 102, 56, 102, 48, 49, 99, 102, 101, 97, 52, 49, 52, 49, 52, 48, 100, 101, 53, 100, 97, 101, 50, 50, 50, 51, 98, 48, 48, 51, 54, 49, 97, 51, 57, 54, 49, 55, 55, 97, 57, 99, 98, 52, 49, 48, 102, 102, 54, 49, 102, 50, 48, 48, 49, 53, 97, 100]⟩ := by
  rw [abc_hex]
  rfl
attribute [local irreducible] shaL

theorem strs_one (w : World) (s : ByteArray) (t : TypeId) : StrsAt (w.alloc (.cells #[.string s] t)) (.slice (some ⟨w.heap.size, 0, none⟩) 1 1) [s] := by
  refine ⟨_, _, rfl, fun i hi => ⟨_, _, rfl, ?_⟩⟩
  have : i = 0 := by simpa using hi
  subst this
  rw [cell_of (heap_alloc_at w _ _ rfl)]
  rfl

set_option maxRecDepth 100000 in
set_option maxHeartbeats 800000 in
theorem sha_speaks (w : World) (hr : ShaReady w) : Calls Tryd.prog 10 #[] w fun e w' => e = .returned (.bool true) ∧ Below w.heap.size w w' := by
  have HR := Lib.hid hr
  clear hr
  go_enter Tryd.func10, Tryd.ntmps10
  go_wp2_with fail
  refine (shaSum_any _ _ [⟨#[97, 98, 99]⟩] (strs_one _ _ _) (HR.out.below ((Below.refl _ _).alloc (Nat.le_refl _) _)) (by decide) (by decide)).mono ?_
  rintro e w1 ⟨rfl, g1⟩
  have B1 : Hid (Below w.heap.size w w1) := ((Below.refl _ _).alloc (Nat.le_refl _) _).trans ((below_grownBy g1).mono (by simp))
  clear g1
  go_wp2_with fail
  refine (hex_any _ _ (by rw [str_size, shaL_length]; decide)).mono ?_
  rintro e w2 ⟨rfl, h2⟩
  rw [show str (hexL (str (shaL (catB [⟨#[97, 98, 99]⟩]))).data.toList) = _ from abc_str]
  have B2 : Hid (Below w.heap.size w w2) := B1.out.trans (h2.mono B1.out.size)
  clear h2
  go_wp2_with fail
  refine (tagged_any _ 1 _ [⟨#[97]⟩] (strs_one _ _ _) (HR.out.below (B2.out.alloc B2.out.size _)) (by decide) (by decide)).mono ?_
  rintro e w3 ⟨rfl, g3⟩
  have B3 : Hid (Below w.heap.size w w3) := (B2.out.alloc B2.out.size _).trans ((below_grownBy g3).mono (by simp; have := B2.out.size; omega))
  clear g3
  have hs : (str (List.take 16 (shaL (tagB 1 [⟨#[97]⟩])))).size = 16 := by rw [str_size, List.length_take, shaL_length]; decide
  generalize str (List.take 16 (shaL (tagB 1 [⟨#[97]⟩]))) = S at hs ⊢
  go_wp2_with fail
  go_ret
  exact ⟨rfl, B3.out⟩
end Go.Proofs.YtpnjnpfahkjhmaaDoor
