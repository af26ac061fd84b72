/- The walks of layer 19's laws' plain and speaks. -/
import Derived.Test.YtioahjdojgcfdaaDoorHeaderChainsB8
import Derived.Test.YtioahjdojgcfdaaDoorHeaderChainsB3
import Derived.Test.YtioahjdojgcfdaaDoorHeaderChainsB4
import Derived.Deep.RegionHeld3
namespace Go.Proofs.YtioahjdojgcfdaaDoor
open Go.RowKit
attribute [local irreducible] shaL

theorem results_plain19 {n : Nat} {v0 v1 v2 v3 v4 : Value} {tmps : Array Value} {w : World} (h6 : tmps[2]? = some (.pointer (some ⟨n, 0, none⟩))) (hb : w.heap[n]? = some (.cells #[v0, v1, v2, v3, v4] 66 (0, 0))) :
    (results Tryd.f24 tmps).run Tryd.prog w = .ok (.agg #[v0, v1, v2, v3, v4]) w := by
  obtain ⟨c0, c1, c2, c3, c4⟩ := cells5 hb
  simp [results, Tryd.results24, go_sem, h6, c0, c1, c2, c3, c4]
set_option maxRecDepth 100000 in
set_option maxHeartbeats 800000 in
theorem plain19_any (x : HdrS) (a : Option Addr) (n c : Nat) (w : World) :
    Calls Tryd.prog 24 #[x.val (.slice a n c)] w fun e w' => e = .returned (x.val (.slice a n c)) ∧ w.grownBy w' none := by
  obtain ⟨e, p, d, au, L⟩ := x
  unfold HdrS.val
  simp only
  obtain ⟨m, hm⟩ : ∃ m, w.heap.size = m := ⟨_, rfl⟩
  have hb0 := heap_alloc_at w (.cells #[.int .u64 e, .string p, .int .i64 d, .int .i64 au, .slice a n c] 63) m hm
  have hg0 : w.grownBy (w.alloc (.cells #[.int .u64 e, .string p, .int .i64 d, .int .i64 au, .slice a n c] 63)) none := World.grownBy_alloc _ _ _
  obtain ⟨W0, hW0⟩ : ∃ W0, w.alloc (.cells #[.int .u64 e, .string p, .int .i64 d, .int .i64 au, .slice a n c] 63) = W0 := ⟨_, rfl⟩
  rw [hW0] at hb0 hg0
  have hs0 : W0.heap.size = m + 1 := by rw [← hW0, World.size_alloc, hm]
  have hb1 := heap_alloc_at W0 (.cells #[.int .u64 0, .string ⟨#[]⟩, .int .i64 0, .int .i64 0, .slice none 0 0] 66) _ hs0
  have hg1 : W0.grownBy (W0.alloc (.cells #[.int .u64 0, .string ⟨#[]⟩, .int .i64 0, .int .i64 0, .slice none 0 0] 66)) none := World.grownBy_alloc _ _ _
  obtain ⟨W1, hW1⟩ : ∃ W1, W0.alloc (.cells #[.int .u64 0, .string ⟨#[]⟩, .int .i64 0, .int .i64 0, .slice none 0 0] 66) = W1 := ⟨_, rfl⟩
  rw [hW1] at hb1 hg1
  have S1 := Lib.hid (And.intro (grownBy_trans hg0 hg1) hb1)
  have HW := Lib.hid (And.intro hW0 (And.intro hs0 (And.intro hW1 hm)))
  obtain ⟨x0, x1, x2, x3, x4⟩ := cells5 (hg1.heap hb0 (by simp))
  obtain ⟨u0, u1, u2, u3, u4⟩ := cells5 hb1
  have uf : ∀ j, W1.frozen? ⟨m + 1, j, none⟩ = false := fun j => free_of hb1 j
  clear hb0 hg0 hW0 hb1 hg1 hW1 hm hs0
  go_enter Tryd.func24, Tryd.ntmps24
  go_wp2_with (first | rw [HW.out.1, HW.out.2.1] | rw [HW.out.1, HW.out.2.2.2] | rw [HW.out.2.2.1, HW.out.2.1] | rw [HW.out.2.2.1] | rw [HW.out.1])
  refine bodyPost_ret (results_plain19 (n := m + 1) (v0 := .int .u64 e) (v1 := .string p) (v2 := .int .i64 d) (v3 := .int .i64 au) (v4 := .slice a n c) (by first | rfl | (rw [← HW.out.2.1]; rfl)) (heap5 S1.out.2 _ _ _ _ _)) rfl ?_
  exact ⟨rfl, grown_row S1.out.1 (grown5 W1 (m + 1) _ _ _ _ _) (fun y q => by have e2 : m + 1 = y := Option.some.inj q; have := HW.out.2.2.2; omega)⟩

/-! the two headers of the laws' speaks -/
def vS1 : ByteArray := ⟨#[118]⟩
def hdrG : HdrS := ⟨0, noughtsS, 0, 0, [⟨#[0]⟩]⟩
def hdrH (D l : ByteArray) : HdrS := ⟨1, D, 0, 0, [l]⟩
theorem hdrG_ok : hdrG.err = 0 := by
  refine HdrS.of_fit ?_ rfl (fun s hs => ?_)
  · unfold HdrS.wide
    have h16 : noughtsS.size = 16 := rfl
    show ¬ (4294967295 < 0 ∨ noughtsS.size ≠ 16 ∨ (0 : Int) < 0 ∨ (4 : Int) < 0 ∨ (0 : Int) < 0 ∨ (64 : Int) < 0)
    omega
  · rw [List.mem_singleton.1 hs]
    unfold nodeOk
    rw [decide_eq_true rfl, Bool.true_or]
theorem leaf_node (k v : ByteArray) : nodeOk (leafS k v) = true := by
  have h17 : (leafS k v).size = 17 := leafS_size k v
  have hh : (leafS k v).data.toList.head? = some 1 := by
    unfold leafS
    rw [ByteArray.data_append, Array.toList_append]
    rfl
  unfold nodeOk
  rw [decide_eq_true h17, hh]
  simp
theorem hdrH_ok (D k v : ByteArray) (hD : D.size = 16) : (hdrH D (leafS k v)).err = 0 := by
  refine HdrS.of_fit ?_ rfl (fun s hs => ?_)
  · unfold HdrS.wide
    show ¬ (4294967295 < 1 ∨ D.size ≠ 16 ∨ (0 : Int) < 0 ∨ (4 : Int) < 0 ∨ (0 : Int) < 0 ∨ (64 : Int) < 0)
    omega
  · rw [List.mem_singleton.1 hs]
    exact leaf_node k v
theorem hdrG_gen : hdrG.gen = 0 := by
  unfold HdrS.gen
  rw [if_neg (not_not_intro hdrG_ok), if_neg (show ¬ hdrG.e ≠ 0 from not_not_intro rfl), if_neg (show ¬ hdrG.p ≠ noughtsS from not_not_intro rfl)]
theorem hdrG_next (k v : ByteArray) : hdrG.next (hdrH hdrG.dig (leafS k v)) = 0 := by
  have h1 := hdrH_ok hdrG.dig k v (HdrS.dig_size hdrG_ok)
  unfold HdrS.next
  rw [if_neg (not_not_intro h1), if_neg (show ¬ ((hdrH hdrG.dig (leafS k v)).e = 0 ∨ (hdrH hdrG.dig (leafS k v)).e - 1 ≠ hdrG.e) from (show ¬ ((1 : Nat) = 0 ∨ 1 - 1 ≠ 0) by omega)), if_neg (show ¬ (hdrH hdrG.dig (leafS k v)).p ≠ hdrG.dig from not_not_intro rfl), if_neg (show ¬ ((hdrH hdrG.dig (leafS k v)).d ≠ hdrG.d ∨ (hdrH hdrG.dig (leafS k v)).a < hdrG.a) from (show ¬ ((0 : Int) ≠ 0 ∨ (0 : Int) < 0) by omega))]
theorem hdrG_root : hdrG.root = ⟨#[0]⟩ := by
  unfold HdrS.root
  rw [if_pos (show ((0 : Int) ≤ hdrG.d ∧ hdrG.d ≤ 4) ∧ hdrG.L.length = 2 ^ hdrG.d.toNat from (show (((0 : Int) ≤ 0 ∧ (0 : Int) ≤ 4) ∧ 1 = 2 ^ 0) by decide))]
  rfl
theorem hdrH_root (D l : ByteArray) : (hdrH D l).root = l := by
  unfold HdrS.root
  rw [if_pos (show ((0 : Int) ≤ (hdrH D l).d ∧ (hdrH D l).d ≤ 4) ∧ (hdrH D l).L.length = 2 ^ (hdrH D l).d.toNat from (show (((0 : Int) ≤ 0 ∧ (0 : Int) ≤ 4) ∧ 1 = 2 ^ 0) by decide))]
  rfl
theorem one_str (w : World) (b : Nat) (s : ByteArray) (h : w.heap[b]? = some (.cells #[.string s] 9 (0, 0))) : StrsAt w (.slice (some ⟨b, 0, none⟩) 1 1) [s] := by
  refine ⟨some ⟨b, 0, none⟩, 1, rfl, fun i hi => ⟨b, 0, rfl, ?_⟩⟩
  have hi : i < 1 := hi
  obtain rfl : i = 0 := by omega
  rw [cell_of h]
  rfl
set_option maxRecDepth 100000 in
set_option maxHeartbeats 3200000 in
theorem hdr_speaks (w : World) (hr : ShaReady w) : Calls Tryd.prog 21 #[] w fun e w' => e = .returned (.bool true) ∧ w.grownBy w' none := by
  have HR := Lib.hid hr
  obtain ⟨m, hm⟩ : ∃ m, w.heap.size = m := ⟨_, rfl⟩
  have hb0 := heap_alloc_at w (.cells #[.string ⟨#[0]⟩] 9) m hm
  have hg0 : w.grownBy (w.alloc (.cells #[.string ⟨#[0]⟩] 9)) none := World.grownBy_alloc _ _ _
  obtain ⟨W0, hW0⟩ : ∃ W0, w.alloc (.cells #[.string ⟨#[0]⟩] 9) = W0 := ⟨_, rfl⟩
  rw [hW0] at hb0 hg0
  have hs0 : W0.heap.size = m + 1 := by rw [← hW0, World.size_alloc, hm]
  have hb1 := heap_alloc_at W0 (.cells #[.int .u64 0, .string ⟨#[0, 0, 0, 0, 0, 0, 0, 0, 0, 0, 0, 0, 0, 0, 0, 0]⟩, .int .i64 0, .int .i64 0, .slice (some ⟨m, 0, none⟩) 1 1] 63) _ hs0
  have hg1 : W0.grownBy (W0.alloc (.cells #[.int .u64 0, .string ⟨#[0, 0, 0, 0, 0, 0, 0, 0, 0, 0, 0, 0, 0, 0, 0, 0]⟩, .int .i64 0, .int .i64 0, .slice (some ⟨m, 0, none⟩) 1 1] 63)) none := World.grownBy_alloc _ _ _
  obtain ⟨W1, hW1⟩ : ∃ W1, W0.alloc (.cells #[.int .u64 0, .string ⟨#[0, 0, 0, 0, 0, 0, 0, 0, 0, 0, 0, 0, 0, 0, 0, 0]⟩, .int .i64 0, .int .i64 0, .slice (some ⟨m, 0, none⟩) 1 1] 63) = W1 := ⟨_, rfl⟩
  rw [hW1] at hb1 hg1
  have hs1 : W1.heap.size = m + 2 := by rw [← hW1, World.size_alloc, hs0]
  have S1 := Lib.hid (And.intro (grownBy_trans hg0 hg1) (And.intro (hg1.heap hb0 (by simp)) hb1))
  have HW := Lib.hid (And.intro hW0 (And.intro hs0 (And.intro hW1 (And.intro hs1 hm))))
  obtain ⟨x0, x1, x2, x3, x4⟩ := cells5 hb1
  have hGs : hdrG.small := ⟨by show (0 : Nat) ≤ _; decide, by show noughtsS.size ≤ _; decide, by show (1 : Nat) ≤ _; decide, fun s hs => by rw [List.mem_singleton.1 hs]; decide⟩
  have HDG := Lib.hid (fun w' q r => hdigest_any hdrG hGs (.slice (some ⟨m, 0, none⟩) 1 1) w' q r)
  have HGG := Lib.hid (fun w' q => hgenesis_any hdrG hGs (.slice (some ⟨m, 0, none⟩) 1 1) w' q)
  have HGR := Lib.hid (fun w' r q => hroot_any hdrG (fun s hs => by rw [List.mem_singleton.1 hs]; decide) (some ⟨m, 0, none⟩) 1 1 w' r q rfl (Nat.le_refl _))
  rw [hdrG_gen] at HGG
  rw [hdrG_root] at HGR
  have hD16 := HdrS.dig_size hdrG_ok
  have HLF := Lib.hid (fun w' r => tleaf_any noughtsS vS1 (by decide) (by decide) w' r)
  have hl17 : (leafS noughtsS vS1).size = 17 := leafS_size _ _
  have hHs : (hdrH hdrG.dig (leafS noughtsS vS1)).small := ⟨by show (1 : Nat) ≤ _; decide, by show hdrG.dig.size ≤ _; omega, by show (1 : Nat) ≤ _; decide, fun s hs => by rw [List.mem_singleton.1 hs]; omega⟩
  have HNX := Lib.hid (fun u w' q1 q2 r => hnext_any hdrG (hdrH hdrG.dig (leafS noughtsS vS1)) hGs hHs (.slice (some ⟨m, 0, none⟩) 1 1) u w' q1 q2 r)
  rw [hdrG_next] at HNX
  have HHR := Lib.hid (fun b w' r q => hroot_any (hdrH hdrG.dig (leafS noughtsS vS1)) (fun s hs => by rw [List.mem_singleton.1 hs]; omega) (some ⟨b, 0, none⟩) 1 1 w' r q rfl (Nat.le_refl _))
  rw [hdrH_root] at HHR
  obtain ⟨D, hD⟩ : ∃ D, hdrG.dig = D := ⟨_, rfl⟩
  obtain ⟨l, hl⟩ : ∃ l, leafS noughtsS vS1 = l := ⟨_, rfl⟩
  rw [hD] at HDG hD16 HNX HHR
  rw [hl] at HLF HNX HHR hl17
  have HD16 := Lib.hid hD16
  have DG : Hid (∀ w', W1.grownBy w' none → Calls Tryd.prog 70 #[.agg #[.int .u64 0, .string ⟨#[0, 0, 0, 0, 0, 0, 0, 0, 0, 0, 0, 0, 0, 0, 0, 0]⟩, .int .i64 0, .int .i64 0, .slice (some ⟨m, 0, none⟩) 1 1]] w' fun e w'' => e = .returned (.string D) ∧ w'.grownBy w'' none) := Lib.hid (fun w' q => (HDG.out w' (one_str _ _ _ (q.heap S1.out.2.1 (by simp))) (HR.out.grown (grownBy_trans S1.out.1 q))).mono (by rintro e w'' ⟨rfl, g⟩; exact ⟨rfl, g⟩))
  have GG : Hid (∀ w', W1.grownBy w' none → Calls Tryd.prog 27 #[.agg #[.int .u64 0, .string ⟨#[0, 0, 0, 0, 0, 0, 0, 0, 0, 0, 0, 0, 0, 0, 0, 0]⟩, .int .i64 0, .int .i64 0, .slice (some ⟨m, 0, none⟩) 1 1]] w' fun e w'' => e = .returned (.int .i64 0) ∧ w'.grownBy w'' none) := Lib.hid (fun w' q => (HGG.out w' (one_str _ _ _ (q.heap S1.out.2.1 (by simp)))).mono (by rintro e w'' ⟨rfl, g⟩; exact ⟨rfl, g⟩))
  have GR : Hid (∀ w', W1.grownBy w' none → Calls Tryd.prog 72 #[.agg #[.int .u64 0, .string ⟨#[0, 0, 0, 0, 0, 0, 0, 0, 0, 0, 0, 0, 0, 0, 0, 0]⟩, .int .i64 0, .int .i64 0, .slice (some ⟨m, 0, none⟩) 1 1]] w' fun e w'' => e = .returned (.string ⟨#[0]⟩) ∧ w'.grownBy w'' none) := Lib.hid (fun w' q => (HGR.out w' (HR.out.grown (grownBy_trans S1.out.1 q)) (one_str _ _ _ (q.heap S1.out.2.1 (by simp)))).mono (by rintro e w'' ⟨rfl, g⟩; exact ⟨rfl, g⟩))
  have LF : Hid (∀ w', W1.grownBy w' none → Calls Tryd.prog 71 #[.string ⟨#[0, 0, 0, 0, 0, 0, 0, 0, 0, 0, 0, 0, 0, 0, 0, 0]⟩, .string ⟨#[118]⟩] w' fun e w'' => e = .returned (.string l) ∧ w'.grownBy w'' none) := Lib.hid (fun w' q => (HLF.out w' (HR.out.grown (grownBy_trans S1.out.1 q))).mono (by rintro e w'' ⟨rfl, g⟩; exact ⟨rfl, g⟩))
  have NX : Hid (∀ (b : Nat) (w' : World), W1.grownBy w' none → w'.heap[b]? = some (.cells #[.string l] 9 (0, 0)) → Calls Tryd.prog 26 #[.agg #[.int .u64 0, .string ⟨#[0, 0, 0, 0, 0, 0, 0, 0, 0, 0, 0, 0, 0, 0, 0, 0]⟩, .int .i64 0, .int .i64 0, .slice (some ⟨m, 0, none⟩) 1 1], .agg #[.int .u64 1, .string D, .int .i64 0, .int .i64 0, .slice (some ⟨b, 0, none⟩) 1 1]] w' fun e w'' => e = .returned (.int .i64 0) ∧ w'.grownBy w'' none) := Lib.hid (fun b w' q h => HNX.out _ w' (one_str _ _ _ (q.heap S1.out.2.1 (by simp))) (one_str _ _ _ h) (HR.out.grown (grownBy_trans S1.out.1 q)))
  have HH : Hid (∀ (b : Nat) (w' : World), W1.grownBy w' none → w'.heap[b]? = some (.cells #[.string l] 9 (0, 0)) → Calls Tryd.prog 72 #[.agg #[.int .u64 1, .string D, .int .i64 0, .int .i64 0, .slice (some ⟨b, 0, none⟩) 1 1]] w' fun e w'' => e = .returned (.string l) ∧ w'.grownBy w'' none) := Lib.hid (fun b w' q h => HHR.out b w' (HR.out.grown (grownBy_trans S1.out.1 q)) (one_str _ _ _ h))
  clear hr hb0 hg0 hW0 hb1 hg1 hW1 hs0 hs1 hm hGs hHs HDG HGG HGR HLF HNX HHR hD hl hl17 hD16
  go_enter Tryd.func21, Tryd.ntmps21
  go_wp2_with (first | rw [HW.out.1, HW.out.2.1] | rw [HW.out.1, HW.out.2.2.2.2] | rw [HW.out.2.2.1, HW.out.2.1] | rw [HW.out.2.2.1] | rw [HW.out.1])
  refine (DG.out _ (World.grownBy.refl _ _)).mono ?_
  rintro e w2 ⟨rfl, g2⟩
  have G2 := Lib.hid g2
  clear g2 x0 x1 x2 x3 x4
  go_wp2_with fail
  refine (LF.out _ G2.out).mono ?_
  rintro e w3 ⟨rfl, g3⟩
  have G3 := Lib.hid (grownBy_trans G2.out g3)
  clear g3 G2
  obtain ⟨NB, hNB⟩ : ∃ NB, w3.heap.size = NB := ⟨_, rfl⟩
  have hb4 := heap_alloc_at w3 (.cells #[.string l] 9) NB hNB
  have hg4 : w3.grownBy (w3.alloc (.cells #[.string l] 9)) none := World.grownBy_alloc _ _ _
  obtain ⟨W4, hW4⟩ : ∃ W4, w3.alloc (.cells #[.string l] 9) = W4 := ⟨_, rfl⟩
  rw [hW4] at hb4 hg4
  have hs4 : W4.heap.size = NB + 1 := by rw [← hW4, World.size_alloc, hNB]
  have hb5 := heap_alloc_at W4 (.cells #[.int .u64 1, .string D, .int .i64 0, .int .i64 0, .slice (some ⟨NB, 0, none⟩) 1 1] 63) _ hs4
  have hg5 : W4.grownBy (W4.alloc (.cells #[.int .u64 1, .string D, .int .i64 0, .int .i64 0, .slice (some ⟨NB, 0, none⟩) 1 1] 63)) none := World.grownBy_alloc _ _ _
  obtain ⟨W5, hW5⟩ : ∃ W5, W4.alloc (.cells #[.int .u64 1, .string D, .int .i64 0, .int .i64 0, .slice (some ⟨NB, 0, none⟩) 1 1] 63) = W5 := ⟨_, rfl⟩
  rw [hW5] at hb5 hg5
  have HW5 := Lib.hid (And.intro hW4 (And.intro hs4 (And.intro hW5 hNB)))
  have G5 := Lib.hid (grownBy_trans G3.out (grownBy_trans hg4 hg5))
  have B5 := Lib.hid (And.intro (hg5.heap hb4 (by simp)) hb5)
  have B1 := Lib.hid (G5.out.heap S1.out.2.2 (by simp))
  clear hb4 hg4 hW4 hs4 hb5 hg5 hW5 hNB
  have HPK : Hid (∀ w' : World, W5.grownBy w' none → ((w'.cell? ⟨m + 1, 0, none⟩ = some (.int .u64 0) ∧ w'.cell? ⟨m + 1, 1, none⟩ = some (.string ⟨#[0, 0, 0, 0, 0, 0, 0, 0, 0, 0, 0, 0, 0, 0, 0, 0]⟩) ∧ w'.cell? ⟨m + 1, 2, none⟩ = some (.int .i64 0) ∧ w'.cell? ⟨m + 1, 3, none⟩ = some (.int .i64 0) ∧ w'.cell? ⟨m + 1, 4, none⟩ = some (.slice (some ⟨m, 0, none⟩) 1 1)) ∧ (w'.cell? ⟨NB + 1, 0, none⟩ = some (.int .u64 1) ∧ w'.cell? ⟨NB + 1, 1, none⟩ = some (.string D) ∧ w'.cell? ⟨NB + 1, 2, none⟩ = some (.int .i64 0) ∧ w'.cell? ⟨NB + 1, 3, none⟩ = some (.int .i64 0) ∧ w'.cell? ⟨NB + 1, 4, none⟩ = some (.slice (some ⟨NB, 0, none⟩) 1 1)) ∧ w'.cell? ⟨NB, 0, none⟩ = some (.string l))) := Lib.hid (fun w' q => ⟨cells5 (q.heap B1.out (by simp)), cells5 (q.heap B5.out.2 (by simp)), by rw [cell_of (q.heap B5.out.1 (by simp))]; rfl⟩)
  have CG : Hid (∀ w', W5.grownBy w' none → Calls Tryd.prog 27 #[.agg #[.int .u64 0, .string ⟨#[0, 0, 0, 0, 0, 0, 0, 0, 0, 0, 0, 0, 0, 0, 0, 0]⟩, .int .i64 0, .int .i64 0, .slice (some ⟨m, 0, none⟩) 1 1]] w' fun e w'' => e = .returned (.int .i64 0) ∧ W5.grownBy w'' none) := Lib.hid (fun w' q => (GG.out w' (grownBy_trans G5.out q)).mono (by rintro e w'' ⟨rfl, g⟩; exact ⟨rfl, grownBy_trans q g⟩))
  have CN : Hid (∀ w', W5.grownBy w' none → Calls Tryd.prog 26 #[.agg #[.int .u64 0, .string ⟨#[0, 0, 0, 0, 0, 0, 0, 0, 0, 0, 0, 0, 0, 0, 0, 0]⟩, .int .i64 0, .int .i64 0, .slice (some ⟨m, 0, none⟩) 1 1], .agg #[.int .u64 1, .string D, .int .i64 0, .int .i64 0, .slice (some ⟨NB, 0, none⟩) 1 1]] w' fun e w'' => e = .returned (.int .i64 0) ∧ W5.grownBy w'' none) := Lib.hid (fun w' q => (NX.out NB w' (grownBy_trans G5.out q) (q.heap B5.out.1 (by simp))).mono (by rintro e w'' ⟨rfl, g⟩; exact ⟨rfl, grownBy_trans q g⟩))
  have CD : Hid (∀ w', W5.grownBy w' none → Calls Tryd.prog 70 #[.agg #[.int .u64 0, .string ⟨#[0, 0, 0, 0, 0, 0, 0, 0, 0, 0, 0, 0, 0, 0, 0, 0]⟩, .int .i64 0, .int .i64 0, .slice (some ⟨m, 0, none⟩) 1 1]] w' fun e w'' => e = .returned (.string D) ∧ W5.grownBy w'' none) := Lib.hid (fun w' q => (DG.out w' (grownBy_trans G5.out q)).mono (by rintro e w'' ⟨rfl, g⟩; exact ⟨rfl, grownBy_trans q g⟩))
  have CH : Hid (∀ w', W5.grownBy w' none → Calls Tryd.prog 72 #[.agg #[.int .u64 1, .string D, .int .i64 0, .int .i64 0, .slice (some ⟨NB, 0, none⟩) 1 1]] w' fun e w'' => e = .returned (.string l) ∧ W5.grownBy w'' none) := Lib.hid (fun w' q => (HH.out NB w' (grownBy_trans G5.out q) (q.heap B5.out.1 (by simp))).mono (by rintro e w'' ⟨rfl, g⟩; exact ⟨rfl, grownBy_trans q g⟩))
  have CR : Hid (∀ w', W5.grownBy w' none → Calls Tryd.prog 72 #[.agg #[.int .u64 0, .string ⟨#[0, 0, 0, 0, 0, 0, 0, 0, 0, 0, 0, 0, 0, 0, 0, 0]⟩, .int .i64 0, .int .i64 0, .slice (some ⟨m, 0, none⟩) 1 1]] w' fun e w'' => e = .returned (.string ⟨#[0]⟩) ∧ W5.grownBy w'' none) := Lib.hid (fun w' q => (GR.out w' (grownBy_trans G5.out q)).mono (by rintro e w'' ⟨rfl, g⟩; exact ⟨rfl, grownBy_trans q g⟩))
  have HDR : Hid (W5.grownBy W5.drew none) := Lib.hid (grownBy_drew (World.grownBy.refl W5 none))
  have h16 : ((D.size : Int) == 16) = true := by rw [HD16.out]; rfl
  have hll : (l.toList == l.toList) = true := by simp
  have h00 : ((⟨#[0]⟩ : ByteArray).toList == [0]) = true := by rw [one0]; rfl
  clear DG GG GR LF NX HH B5 B1 G3
  go_wp2_with (first | rw [HW5.out.1, HW5.out.2.1] | rw [HW5.out.1, HW5.out.2.2.2] | rw [HW5.out.2.2.1, HW5.out.2.1] | rw [HW5.out.2.2.1] | rw [HW5.out.1])
  as_aux_lemma =>
    go_region_held3 (fun w' => (w'.cell? ⟨m + 1, 0, none⟩ = some (.int .u64 0) ∧ w'.cell? ⟨m + 1, 1, none⟩ = some (.string ⟨#[0, 0, 0, 0, 0, 0, 0, 0, 0, 0, 0, 0, 0, 0, 0, 0]⟩) ∧ w'.cell? ⟨m + 1, 2, none⟩ = some (.int .i64 0) ∧ w'.cell? ⟨m + 1, 3, none⟩ = some (.int .i64 0) ∧ w'.cell? ⟨m + 1, 4, none⟩ = some (.slice (some ⟨m, 0, none⟩) 1 1)) ∧ (w'.cell? ⟨NB + 1, 0, none⟩ = some (.int .u64 1) ∧ w'.cell? ⟨NB + 1, 1, none⟩ = some (.string D) ∧ w'.cell? ⟨NB + 1, 2, none⟩ = some (.int .i64 0) ∧ w'.cell? ⟨NB + 1, 3, none⟩ = some (.int .i64 0) ∧ w'.cell? ⟨NB + 1, 4, none⟩ = some (.slice (some ⟨NB, 0, none⟩) 1 1)) ∧ w'.cell? ⟨NB, 0, none⟩ = some (.string l)) (first | with_reducible exact HPK.out _ cke | with_reducible exact HPK.out _ ckd | with_reducible exact HPK.out _ ckc | with_reducible exact HPK.out _ ckb | with_reducible exact HPK.out _ cka | with_reducible exact HPK.out _ HDR.out)
      (first
      | (go_at_call 27; (with_reducible refine (CG.out _ HDR.out).mono ?_); rintro e wa ⟨rfl, cka⟩)
      | (go_at_call 26; (with_reducible refine (CN.out _ cka).mono ?_); rintro e wb ⟨rfl, ckb⟩)
      | (go_at_call 70; (with_reducible refine (CD.out _ ckb).mono ?_); rintro e wc ⟨rfl, ckc⟩)
      | (go_at_call 72; (with_reducible refine (CH.out _ ckc).mono ?_); rintro e wd ⟨rfl, ckd⟩)
      | (go_at_call 72; (with_reducible refine (CR.out _ ckd).mono ?_); rintro e we ⟨rfl, cke⟩))
    have GF := Lib.hid (grownBy_trans S1.out.1 (grownBy_trans G5.out cke))
    clear cka ckb ckc ckd cke
    go_wp2_with fail
    go_ret
    exact ⟨rfl, GF.out⟩
end Go.Proofs.YtioahjdojgcfdaaDoor
