/- The walk of the law MerkleCounts. -/
import Derived.Test.YtmdogeampigfoaaDoorMerkSpeaks
namespace Go.Proofs.YtmdogeampigfoaaDoor
open Go.RowKit
attribute [local irreducible] shaL

set_option maxRecDepth 100000 in
set_option maxHeartbeats 800000 in
theorem counts_no (n : Nat) (hn : n ≤ 255) (hT : treeB n = false) (w : World) (hr : ShaReady w) :
    Calls Tryd.prog 4 #[.int .u8 n] w fun e w' => e = .returned (.bool true) ∧ w.grownBy w' none := by
  obtain ⟨i0, hti, hz0, hz1, hz2⟩ := info_parts infoStrW
  have HR := Lib.hid hr
  have HSP := Lib.hid (merk_speaks w hr)
  have ht := hT
  unfold treeB at ht
  simp at ht
  obtain ⟨q1, q2, q3, q4, q5, q6, q7⟩ := ht
  have p1 : ((n : Int) == 1) = false := by simp; omega
  have p2 : ((n : Int) == 2) = false := by simp; omega
  have p3 : ((n : Int) == 4) = false := by simp; omega
  have p4 : ((n : Int) == 8) = false := by simp; omega
  have p5 : ((n : Int) == 16) = false := by simp; omega
  have p6 : ((n : Int) == 32) = false := by simp; omega
  have p7 : ((n : Int) == 64) = false := by simp; omega
  have wn : IntKind.i64.wrap (n : Int) = (n : Int) := IntWalk.i64_in _ (by omega)
  clear q1 q2 q3 q4 q5 q6 q7 hr
  go_enter Tryd.func4, Tryd.ntmps4
  go_wp2_with fail
  refine HSP.out.mono ?_
  rintro e w1 ⟨rfl, g1⟩
  have G1 := Lib.hid g1
  clear g1 HSP
  go_wp2_with (at_make; refine wpList_make_full _ rfl _ _ 22 rfl w.heap.size 9 i0 (.string ⟨#[]⟩) 1 Tryd.underlying22 hti hz0 hz1 _ _ _ _ n rfl rfl rfl rfl ?c1 ?c2 ?c3 ?_)
  case c1 => rw [hz2]; omega
  case c2 => unfold maxLen; omega
  case c3 => exact G1.out.size
  intro w2 hown hg
  rw [made_strs n] at hown
  have hs2 : StrsAt w2 (.slice (some ⟨w1.heap.size, 0, none⟩) n n) (List.replicate n ⟨#[]⟩) := strs_own hown
  have HT : Hid (treeB (List.replicate n (⟨#[]⟩ : ByteArray)).length = false) := by show _ = _; rw [List.length_replicate]; exact hT
  have HS2 := Lib.hid hs2
  have G2 := Lib.hid (grownBy_trans G1.out hg)
  clear hown hg hs2 hT
  go_wp2_with fail
  refine (root_no _ _ HT.out w2 HS2.out).mono ?_
  rintro e w3 ⟨rfl, rfl⟩
  go_wp2_with fail
  refine (path_no _ _ 0 HT.out w2 HS2.out).mono ?_
  rintro e w3 ⟨rfl, rfl⟩
  go_wp2_with fail
  go_ret
  exact ⟨rfl, G2.out⟩

set_option maxRecDepth 100000 in
set_option maxHeartbeats 1600000 in
theorem counts_yes (n h : Nat) (hh : (n = 1 ∧ h = 0) ∨ (n = 2 ∧ h = 1) ∨ (n = 4 ∧ h = 2) ∨ (n = 8 ∧ h = 3) ∨ (n = 16 ∧ h = 4) ∨ (n = 32 ∧ h = 5) ∨ (n = 64 ∧ h = 6)) (w : World) (hr : ShaReady w) :
    Calls Tryd.prog 4 #[.int .u8 n] w fun e w' => e = .returned (.bool true) ∧ w.grownBy w' none := by
  obtain ⟨i0, hti, hz0, hz1, hz2⟩ := info_parts infoStrW
  have HR := Lib.hid hr
  have HSP := Lib.hid (merk_speaks w hr)
  have hn : n = 2 ^ h := by rcases hh with ⟨rfl, rfl⟩ | ⟨rfl, rfl⟩ | ⟨rfl, rfl⟩ | ⟨rfl, rfl⟩ | ⟨rfl, rfl⟩ | ⟨rfl, rfl⟩ | ⟨rfl, rfl⟩ <;> rfl
  have h6 : h ≤ 6 := by omega
  have hn64 : n ≤ 64 := by omega
  have hn0 : 0 < n := by omega
  have wn : IntKind.i64.wrap (n : Int) = (n : Int) := IntWalk.i64_in _ (by omega)
  have HH := Lib.hid hh
  have HSZ : Hid (∀ s ∈ List.replicate n (⟨#[]⟩ : ByteArray), s.size ≤ 1000000000000) := by intro s hs; rw [(List.mem_replicate.1 hs).2]; decide
  have HNE := Lib.hid hn
  clear hr hh hn
  go_enter Tryd.func4, Tryd.ntmps4
  go_wp2_with fail
  refine HSP.out.mono ?_
  rintro e w1 ⟨rfl, g1⟩
  have G1 := Lib.hid g1
  clear g1 HSP
  go_wp2_with (at_make; refine wpList_make_full _ rfl _ _ 22 rfl w.heap.size 9 i0 (.string ⟨#[]⟩) 1 Tryd.underlying22 hti hz0 hz1 _ _ _ _ n rfl rfl rfl rfl ?c1 ?c2 ?c3 ?_)
  case c1 => rw [hz2]; omega
  case c2 => unfold maxLen; omega
  case c3 => exact G1.out.size
  intro w2 hown hg
  rw [made_strs n] at hown
  have hs2 : StrsAt w2 (.slice (some ⟨w1.heap.size, 0, none⟩) n n) (List.replicate n ⟨#[]⟩) := strs_own hown
  have HL : Hid ((List.replicate n (⟨#[]⟩ : ByteArray)).length = n) := List.length_replicate ..
  have HS2 := Lib.hid hs2
  have G2 := Lib.hid (grownBy_trans G1.out hg)
  clear hown hg hs2
  go_wp2_with fail
  refine (root_ok _ _ h h6 (HL.out.trans HNE.out) HSZ.out w2 HS2.out (HR.out.grown G2.out)).mono ?_
  rintro e w3 ⟨rfl, g3⟩
  have G3 := Lib.hid (grownBy_trans G2.out g3)
  have HS3 := Lib.hid (HS2.out.grown g3)
  clear g3
  generalize rootS h (List.replicate n (⟨#[]⟩ : ByteArray)) = R
  go_wp2_with fail
  refine (path_ok _ _ h 0 h6 (HL.out.trans HNE.out) (by have := HNE.out; omega) HSZ.out w3 HS3.out (fun g o n' c e => by cases e; exact HS3.out.lt (by rw [HL.out]; exact hn0)) (HR.out.grown G3.out)).mono ?_
  rintro e w4 ⟨v4, rfl, ho4, g4⟩
  obtain ⟨a4, c4, rfl⟩ := slice_own' ho4
  have G4 := Lib.hid (grownBy_trans G3.out g4)
  clear g4 ho4 HS3 HS2 HL HSZ wn HNE hn64 hn0
  rcases HH.out with ⟨rfl, rfl⟩ | ⟨rfl, rfl⟩ | ⟨rfl, rfl⟩ | ⟨rfl, rfl⟩ | ⟨rfl, rfl⟩ | ⟨rfl, rfl⟩ | ⟨rfl, rfl⟩ <;>
  · go_wp2_with fail
    go_ret
    exact ⟨rfl, G4.out⟩

theorem merkleCounts_walk (n : Nat) (hn : n ≤ 255) (w : World) (hr : ShaReady w) :
    Calls Tryd.prog 4 #[.int .u8 n] w fun e w' => e = .returned (.bool true) ∧ Below w.heap.size w w' := by
  suffices h : Calls Tryd.prog 4 #[.int .u8 n] w fun e w' => e = .returned (.bool true) ∧ w.grownBy w' none from h.mono fun e w' q => ⟨q.1, below_grownBy q.2⟩
  cases hT : treeB n with
  | false => exact counts_no n hn hT w hr
  | true =>
    unfold treeB at hT
    simp at hT
    rcases hT with h | h | h | h | h | h | h
    · exact counts_yes n 0 (by omega) w hr
    · exact counts_yes n 1 (by omega) w hr
    · exact counts_yes n 2 (by omega) w hr
    · exact counts_yes n 3 (by omega) w hr
    · exact counts_yes n 4 (by omega) w hr
    · exact counts_yes n 5 (by omega) w hr
    · exact counts_yes n 6 (by omega) w hr
theorem merkleCounts_int (n : Int) (hn : 0 ≤ n ∧ n ≤ 255) (w : World) (hr : ShaReady w) :
    Calls Tryd.prog 4 #[.int .u8 n] w fun e w' => e = .returned (.bool true) ∧ Below w.heap.size w w' := by
  obtain ⟨m, rfl⟩ := Int.eq_ofNat_of_zero_le hn.1
  exact merkleCounts_walk m (by omega) w hr
end Go.Proofs.YtmdogeampigfoaaDoor
