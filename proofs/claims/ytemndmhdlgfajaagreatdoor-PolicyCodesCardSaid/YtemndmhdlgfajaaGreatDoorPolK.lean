/- The walk of layer 18's laws' speaks. -/
import Derived.Test.YtemndmhdlgfajaaGreatDoorPolE
import Derived.Test.YtemndmhdlgfajaaGreatDoorPolH
import Derived.Test.YtemndmhdlgfajaaGreatDoorPolJ
import Derived.Test.YtemndmhdlgfajaaGreatDoorPolN
import Derived.Test.YtemndmhdlgfajaaGreatDoorPolicyCodesB5
import Derived.Test.YtemndmhdlgfajaaGreatDoorPolV
import Derived.Test.YtemndmhdlgfajaaGreatDoorEntB
import Derived.Handy
import Derived.Deep.DeepCutAuto
import Derived.Deep.RegionHeld3
namespace Go.Proofs.YtemndmhdlgfajaaGreatDoor
open Go.RowKit
attribute [local irreducible] shaL

set_option maxRecDepth 100000 in
set_option maxHeartbeats 3200000 in
theorem policy_speaks (w : World) (hr : ShaReady w) (hj : ∀ w', ShaReady w' → w.grownBy w' none → Calls Tryz.prog 76 #[.string ⟨#[97, 108, 105, 99, 101]⟩] w' fun e w'' => e = .returned (.int .i64 0) ∧ w'.grownBy w'' none) : Calls Tryz.prog 5 #[] w fun e w' => e = .returned (.bool true) ∧ w.grownBy w' none := by
  have HR := Lib.hid hr
  have HJL := Lib.hid hj
  have hnew := Lib.hid (xnew_any seedA 1 (by decide) (by decide) w hr)
  have ho := openS_size seedA
  have hro := rootK_16 seedA 1
  have hpub : Hid (∀ w0 b, KeyAt w0 b seedA 1 → Calls Tryz.prog 7 #[.pointer (some ⟨b, 0, none⟩)] w0 fun e w' => e = .returned (.agg #[.string (openS seedA), .string (rootK seedA 1), .int .i64 1]) ∧ w0.grownBy w' none) := Lib.hid (fun w0 b hk => xpublic_any b seedA 1 w0 hk)
  have hver := Lib.hid (fun (m : ByteArray) (hm : m.size ≤ 1000000000000) (i : Nat) (hi : i < 2 ^ 1) (ca pa : Option Addr) (cc pc : Nat) (w0 : World) hc hp h0 => verify_own seedA m 1 i (by decide) hi hm ca pa cc pc w0 hc hp h0)
  have hsgn := Lib.hid (fun (x : EntS) (hx : x.small) (he : x.err = 0) (i : Nat) (hi : i < 2 ^ 1) (w0 : World) (b : Nat) h0 hk => psign_fine b seedA ⟨#[97, 108, 105, 99, 101]⟩ x 1 i (by decide) hi (by decide) (by decide) he hx w0 h0 hk)
  generalize openS seedA = O at ho hpub hver
  generalize rootK seedA 1 = R at hro hpub hver
  have k1 := ent1_ok (h := 1) ho hro (by decide)
  have k2 := ent2_ok (h := 1) ho hro (by decide)
  have s1 : (ent1 O R 1).small := ⟨by show (1 : Nat) ≤ _; decide, by show O.size ≤ _; omega, by show R.size ≤ _; omega, by show noughtsS.size ≤ _; decide⟩
  have s2 : (ent2 O R 1).small := ⟨by show (2 : Nat) ≤ _; decide, by show O.size ≤ _; omega, by show R.size ≤ _; omega, by show (ent1 O R 1).value.size ≤ _; rw [EntS.value_size k1]; decide⟩
  have hval : Hid (∀ w0, ShaReady w0 → Calls Tryz.prog 29 #[.agg #[.int .u64 1, .string O, .string R, .int .i64 1, .string ⟨#[0, 0, 0, 0, 0, 0, 0, 0, 0, 0, 0, 0, 0, 0, 0, 0]⟩]] w0 fun e w' => e = .returned (.string (ent1 O R 1).value) ∧ w0.grownBy w' none) := Lib.hid (fun w0 h0 => evalue_any (ent1 O R 1) s1 w0 h0)
  have HSG1 : Hid (∀ w0 b, ShaReady w0 → KeyAt w0 b seedA 1 → Calls Tryz.prog 8 #[.pointer (some ⟨b, 0, none⟩), .int .i64 0, .string ⟨#[97, 108, 105, 99, 101]⟩, .agg #[.int .u64 1, .string O, .string R, .int .i64 1, .string ⟨#[0, 0, 0, 0, 0, 0, 0, 0, 0, 0, 0, 0, 0, 0, 0, 0]⟩]] w0 fun e w' => ∃ ca cc pa pc, e = .returned (.tuple #[.agg #[.string ⟨#[97, 108, 105, 99, 101]⟩, .int .u64 1, .string O, .string R, .int .i64 1, .string ⟨#[0, 0, 0, 0, 0, 0, 0, 0, 0, 0, 0, 0, 0, 0, 0, 0]⟩, .int .i64 0, .slice ca 35 cc, .slice pa 1 pc], .int .i64 0]) ∧ StrsAt w' (.slice ca 35 cc) (chainsS seedA 0 (msgS ⟨#[97, 108, 105, 99, 101]⟩ (ent1 O R 1))) ∧ StrsAt w' (.slice pa 1 pc) (pathS 1 (leavesS seedA 1) 0) ∧ w0.grownBy w' none) := Lib.hid (fun w0 b h0 hk => (hsgn.out (ent1 O R 1) s1 k1 0 (by decide) w0 b h0 hk).mono (by
    rintro e w' ⟨ca, cc, pa, pc, rfl, q1, q2, _, _, q3⟩
    exact ⟨ca, cc, pa, pc, rfl, q1, q2, q3⟩))
  have HSG2 : Hid (∀ w0 b, ShaReady w0 → KeyAt w0 b seedA 1 → Calls Tryz.prog 8 #[.pointer (some ⟨b, 0, none⟩), .int .i64 1, .string ⟨#[97, 108, 105, 99, 101]⟩, .agg #[.int .u64 2, .string O, .string R, .int .i64 1, .string (ent1 O R 1).value]] w0 fun e w' => ∃ ca cc pa pc, e = .returned (.tuple #[.agg #[.string ⟨#[97, 108, 105, 99, 101]⟩, .int .u64 2, .string O, .string R, .int .i64 1, .string (ent1 O R 1).value, .int .i64 1, .slice ca 35 cc, .slice pa 1 pc], .int .i64 0]) ∧ StrsAt w' (.slice ca 35 cc) (chainsS seedA 1 (msgS ⟨#[97, 108, 105, 99, 101]⟩ (ent2 O R 1))) ∧ StrsAt w' (.slice pa 1 pc) (pathS 1 (leavesS seedA 1) 1) ∧ w0.grownBy w' none) := Lib.hid (fun w0 b h0 hk => (hsgn.out (ent2 O R 1) s2 k2 1 (by decide) w0 b h0 hk).mono (by
    rintro e w' ⟨ca, cc, pa, pc, rfl, q1, q2, _, _, q3⟩
    exact ⟨ca, cc, pa, pc, rfl, q1, q2, q3⟩))
  have HJ1 : Hid (∀ (ca pa : Option Addr) (cc pc : Nat) (w0 : World), w.grownBy w0 none → StrsAt w0 (.slice ca 35 cc) (chainsS seedA 0 (msgS ⟨#[97, 108, 105, 99, 101]⟩ (ent1 O R 1))) → StrsAt w0 (.slice pa 1 pc) (pathS 1 (leavesS seedA 1) 0) → Calls Tryz.prog 30 #[.agg #[.string ⟨#[97, 108, 105, 99, 101]⟩, .int .u64 1, .string O, .string R, .int .i64 1, .string ⟨#[0, 0, 0, 0, 0, 0, 0, 0, 0, 0, 0, 0, 0, 0, 0, 0]⟩, .int .i64 0, .slice ca 35 cc, .slice pa 1 pc], .bool false, .agg #[.int .u64 0, .string ⟨#[]⟩, .string ⟨#[]⟩, .int .i64 0, .string ⟨#[]⟩]] w0 fun e w' => e = .returned (.int .i64 0) ∧ w0.grownBy w' none) := Lib.hid (fun ca pa cc pc w0 g0 hc hp => by
    have := judge_new ⟨#[97, 108, 105, 99, 101]⟩ (ent1 O R 1) (⟨0, ⟨#[]⟩, ⟨#[]⟩, 0, ⟨#[]⟩⟩) 0 1 ca pa cc pc 0 true s1 (by decide) k1 (hist1 O R 1) w0 (HR.out.grown g0) (fun w' q => HJL.out w' (HR.out.grown (grownBy_trans g0 q)) (grownBy_trans g0 q)) (fun _ w' q => hver.out _ (Nat.le_trans (msgS_size _ _) (by decide)) 0 (by decide) ca pa cc pc w' (hc.grown q) (hp.grown q) (HR.out.grown (grownBy_trans g0 q)))
    exact this)
  have HJ2 : Hid (∀ (ca pa : Option Addr) (cc pc : Nat) (w0 : World), w.grownBy w0 none → StrsAt w0 (.slice ca 35 cc) (chainsS seedA 1 (msgS ⟨#[97, 108, 105, 99, 101]⟩ (ent2 O R 1))) → StrsAt w0 (.slice pa 1 pc) (pathS 1 (leavesS seedA 1) 1) → Calls Tryz.prog 30 #[.agg #[.string ⟨#[97, 108, 105, 99, 101]⟩, .int .u64 2, .string O, .string R, .int .i64 1, .string (ent1 O R 1).value, .int .i64 1, .slice ca 35 cc, .slice pa 1 pc], .bool true, .agg #[.int .u64 1, .string O, .string R, .int .i64 1, .string ⟨#[0, 0, 0, 0, 0, 0, 0, 0, 0, 0, 0, 0, 0, 0, 0, 0]⟩]] w0 fun e w' => e = .returned (.int .i64 0) ∧ w0.grownBy w' none) := Lib.hid (fun ca pa cc pc w0 g0 hc hp => by
    have := judge_old ⟨#[97, 108, 105, 99, 101]⟩ (ent2 O R 1) (ent1 O R 1) 1 1 ca pa cc pc 0 true s2 (by decide) k2 s1 (next12 ho hro (by decide)) w0 (HR.out.grown g0) (fun w' q => HJL.out w' (HR.out.grown (grownBy_trans g0 q)) (grownBy_trans g0 q)) (fun _ w' q => hver.out _ (Nat.le_trans (msgS_size _ _) (by decide)) 1 (by decide) ca pa cc pc w' (hc.grown q) (hp.grown q) (HR.out.grown (grownBy_trans g0 q)))
    exact this)
  have HJ3 : Hid (∀ (ca pa : Option Addr) (cc pc : Nat) (w0 : World), w.grownBy w0 none → StrsAt w0 (.slice ca 35 cc) (chainsS seedA 1 (msgS ⟨#[97, 108, 105, 99, 101]⟩ (ent2 O R 1))) → StrsAt w0 (.slice pa 1 pc) (pathS 1 (leavesS seedA 1) 1) → Calls Tryz.prog 30 #[.agg #[.string ⟨#[97, 108, 105, 99, 101]⟩, .int .u64 2, .string O, .string R, .int .i64 1, .string (ent1 O R 1).value, .int .i64 1, .slice ca 35 cc, .slice pa 1 pc], .bool false, .agg #[.int .u64 0, .string ⟨#[]⟩, .string ⟨#[]⟩, .int .i64 0, .string ⟨#[]⟩]] w0 fun e w' => e = .returned (.int .i64 13) ∧ w0.grownBy w' none) := Lib.hid (fun ca pa cc pc w0 g0 hc hp => by
    have := judge_new ⟨#[97, 108, 105, 99, 101]⟩ (ent2 O R 1) (⟨0, ⟨#[]⟩, ⟨#[]⟩, 0, ⟨#[]⟩⟩) 1 1 ca pa cc pc 13 true s2 (by decide) k2 (hist2 O R 1) w0 (HR.out.grown g0) (fun w' q => HJL.out w' (HR.out.grown (grownBy_trans g0 q)) (grownBy_trans g0 q)) (fun _ w' q => hver.out _ (Nat.le_trans (msgS_size _ _) (by decide)) 1 (by decide) ca pa cc pc w' (hc.grown q) (hp.grown q) (HR.out.grown (grownBy_trans g0 q)))
    exact this)
  obtain ⟨V, hV⟩ : ∃ V, (ent1 O R 1).value = V := ⟨_, rfl⟩
  obtain ⟨C1, hC1⟩ : ∃ C, chainsS seedA 0 (msgS ⟨#[97, 108, 105, 99, 101]⟩ (ent1 O R 1)) = C := ⟨_, rfl⟩
  obtain ⟨C2, hC2⟩ : ∃ C, chainsS seedA 1 (msgS ⟨#[97, 108, 105, 99, 101]⟩ (ent2 O R 1)) = C := ⟨_, rfl⟩
  obtain ⟨P1, hP1⟩ : ∃ P, pathS 1 (leavesS seedA 1) 0 = P := ⟨_, rfl⟩
  obtain ⟨P2, hP2⟩ : ∃ P, pathS 1 (leavesS seedA 1) 1 = P := ⟨_, rfl⟩
  rw [hV] at hval HSG2 HJ2 HJ3
  rw [hC1, hP1] at HSG1 HJ1
  rw [hC2, hP2] at HSG2 HJ2 HJ3
  clear hV hC1 hC2 hP1 hP2 ho hro k1 k2 s1 s2 hver hsgn hj hr
  have hseed : Hid (Calls Tryz.prog 6 #[.string ⟨#[97]⟩, .int .i64 1] w fun e w' => ∃ b, e = .returned (.tuple #[.pointer (some ⟨b, 0, none⟩), .int .i64 0]) ∧ KeyAt w' b seedA 1 ∧ w.grownBy w' none) := hnew.out
  clear hnew
  go_enter Tryz.func5, Tryz.ntmps5
  go_wp2_with fail
  refine hseed.out.mono ?_
  rintro e w1 ⟨b, rfl, hk1, g1⟩
  have K1 := Lib.hid hk1
  have G1 := Lib.hid g1
  clear hk1 g1 hseed
  go_wp2_with fail
  refine (hpub.out w1 b K1.out).mono ?_
  rintro e w2 ⟨rfl, g2⟩
  have hb3 := heap_alloc_at w2 (.cells #[.int .u64 1, .string O, .string R, .int .i64 1, .string ⟨#[0, 0, 0, 0, 0, 0, 0, 0, 0, 0, 0, 0, 0, 0, 0, 0]⟩] 34) _ rfl
  have g3 : w2.grownBy (w2.alloc (.cells #[.int .u64 1, .string O, .string R, .int .i64 1, .string ⟨#[0, 0, 0, 0, 0, 0, 0, 0, 0, 0, 0, 0, 0, 0, 0, 0]⟩] 34)) none := World.grownBy_alloc _ _ _
  obtain ⟨W3, hW3⟩ : ∃ W3, w2.alloc (.cells #[.int .u64 1, .string O, .string R, .int .i64 1, .string ⟨#[0, 0, 0, 0, 0, 0, 0, 0, 0, 0, 0, 0, 0, 0, 0, 0]⟩] 34) = W3 := ⟨_, rfl⟩
  obtain ⟨XB, hXB⟩ : ∃ XB, w2.heap.size = XB := ⟨_, rfl⟩
  rw [hW3] at hb3 g3
  rw [hXB] at hb3
  have K3 := Lib.hid (K1.out.grown (grownBy_trans g2 g3))
  have G3 := Lib.hid (grownBy_trans G1.out (grownBy_trans g2 g3))
  have B3 := Lib.hid hb3
  have HW3 := Lib.hid hW3
  have HXB := Lib.hid hXB
  obtain ⟨x0, x1, x2, x3, x4⟩ := cells5 hb3
  clear g2 hb3 g3 hW3 hXB K1 G1
  go_wp2_with (rw [HW3.out, HXB.out])
  refine (HSG1.out W3 b (HR.out.grown G3.out) K3.out).mono ?_
  rintro e w4 ⟨ca, cc, pa, pc, rfl, hc4, hp4, g4⟩
  have hb5 := heap_alloc_at w4 (.cells #[.string ⟨#[97, 108, 105, 99, 101]⟩, .int .u64 1, .string O, .string R, .int .i64 1, .string ⟨#[0, 0, 0, 0, 0, 0, 0, 0, 0, 0, 0, 0, 0, 0, 0, 0]⟩, .int .i64 0, .slice ca 35 cc, .slice pa 1 pc] 39) _ rfl
  have g5 : w4.grownBy (w4.alloc (.cells #[.string ⟨#[97, 108, 105, 99, 101]⟩, .int .u64 1, .string O, .string R, .int .i64 1, .string ⟨#[0, 0, 0, 0, 0, 0, 0, 0, 0, 0, 0, 0, 0, 0, 0, 0]⟩, .int .i64 0, .slice ca 35 cc, .slice pa 1 pc] 39)) none := World.grownBy_alloc _ _ _
  obtain ⟨w5, hW5⟩ : ∃ W5, w4.alloc (.cells #[.string ⟨#[97, 108, 105, 99, 101]⟩, .int .u64 1, .string O, .string R, .int .i64 1, .string ⟨#[0, 0, 0, 0, 0, 0, 0, 0, 0, 0, 0, 0, 0, 0, 0, 0]⟩, .int .i64 0, .slice ca 35 cc, .slice pa 1 pc] 39) = W5 := ⟨_, rfl⟩
  obtain ⟨UB, hUB⟩ : ∃ UB, w4.heap.size = UB := ⟨_, rfl⟩
  rw [hW5] at hb5 g5
  rw [hUB] at hb5
  have K5 := Lib.hid (K3.out.grown (grownBy_trans g4 g5))
  have G5 := Lib.hid (grownBy_trans G3.out (grownBy_trans g4 g5))
  have B5 := Lib.hid ((grownBy_trans g4 g5).heap B3.out (by simp))
  have U5 := Lib.hid hb5
  have SC5 := Lib.hid (hc4.grown g5)
  have SP5 := Lib.hid (hp4.grown g5)
  have HW5 := Lib.hid hW5
  have HUB := Lib.hid hUB
  have HX : Hid (∀ wx : World, w5.grownBy wx none → wx.cell? ⟨XB, 0, none⟩ = some (.int .u64 1) ∧ wx.cell? ⟨XB, 1, none⟩ = some (.string O) ∧ wx.cell? ⟨XB, 2, none⟩ = some (.string R) ∧ wx.cell? ⟨XB, 3, none⟩ = some (.int .i64 1) ∧ wx.cell? ⟨XB, 4, none⟩ = some (.string ⟨#[0, 0, 0, 0, 0, 0, 0, 0, 0, 0, 0, 0, 0, 0, 0, 0]⟩)) := Lib.hid (fun wx q => cells5 (q.heap B5.out (by simp)))
  have HXA : Hid (∀ wx : World, w5.grownBy wx none → (∀ o : Obj, (wx.alloc o).cell? ⟨XB, 0, none⟩ = some (.int .u64 1)) ∧ (∀ o : Obj, (wx.alloc o).cell? ⟨XB, 1, none⟩ = some (.string O)) ∧ (∀ o : Obj, (wx.alloc o).cell? ⟨XB, 2, none⟩ = some (.string R)) ∧ (∀ o : Obj, (wx.alloc o).cell? ⟨XB, 3, none⟩ = some (.int .i64 1)) ∧ (∀ o : Obj, (wx.alloc o).cell? ⟨XB, 4, none⟩ = some (.string ⟨#[0, 0, 0, 0, 0, 0, 0, 0, 0, 0, 0, 0, 0, 0, 0, 0]⟩))) := Lib.hid (fun wx q => ⟨fun o => (cells5 ((grownBy_alloc' q o).heap B5.out (by simp))).1, fun o => (cells5 ((grownBy_alloc' q o).heap B5.out (by simp))).2.1, fun o => (cells5 ((grownBy_alloc' q o).heap B5.out (by simp))).2.2.1, fun o => (cells5 ((grownBy_alloc' q o).heap B5.out (by simp))).2.2.2.1, fun o => (cells5 ((grownBy_alloc' q o).heap B5.out (by simp))).2.2.2.2⟩)
  have HXL : Hid (∀ wx : World, w5.grownBy wx none → XB < wx.heap.size) := Lib.hid (fun wx q => (Array.getElem?_eq_some_iff.1 (q.heap B5.out (by simp))).1)
  have PA : Hid (Calls Tryz.prog 7 #[.pointer (some ⟨b, 0, none⟩)] w5.drew fun e w' => e = .returned (.agg #[.string O, .string R, .int .i64 1]) ∧ w5.grownBy w' none) := Lib.hid ((hpub.out _ b (K5.out.grown (grownBy_drew (World.grownBy.refl w5 none)))).mono (by rintro e w6 ⟨rfl, q⟩; exact ⟨rfl, grownBy_trans (grownBy_drew (World.grownBy.refl w5 none)) q⟩))
  have PB : Hid (Calls Tryz.prog 7 #[.pointer (some ⟨b, 0, none⟩)] (w5.alloc (.cells #[.int .u64 0, .string ⟨#[]⟩, .string ⟨#[]⟩, .int .i64 0, .string ⟨#[]⟩] 34)).drew fun e w' => e = .returned (.agg #[.string O, .string R, .int .i64 1]) ∧ w5.grownBy w' none ∧ w'.heap[w5.heap.size]? = some (.cells #[.int .u64 0, .string ⟨#[]⟩, .string ⟨#[]⟩, .int .i64 0, .string ⟨#[]⟩] 34 (0, 0))) := Lib.hid ((hpub.out _ b (K5.out.grown (grownBy_drew (World.grownBy_alloc w5 _ none)))).mono (by rintro e w6 ⟨rfl, q⟩; exact ⟨rfl, grownBy_trans (grownBy_drew (World.grownBy_alloc w5 _ none)) q, q.heap (heap_alloc_at w5 (.cells #[.int .u64 0, .string ⟨#[]⟩, .string ⟨#[]⟩, .int .i64 0, .string ⟨#[]⟩] 34) _ rfl) (by simp)⟩))
  have VA : Hid (∀ w6 : World, w5.grownBy w6 none → Calls Tryz.prog 29 #[.agg #[.int .u64 1, .string O, .string R, .int .i64 1, .string ⟨#[0, 0, 0, 0, 0, 0, 0, 0, 0, 0, 0, 0, 0, 0, 0, 0]⟩]] w6 fun e w' => e = .returned (.string V) ∧ w5.grownBy w' none ∧ ∀ kb : Nat, w6.heap[kb]? = some (.cells #[.int .u64 0, .string ⟨#[]⟩, .string ⟨#[]⟩, .int .i64 0, .string ⟨#[]⟩] 34 (0, 0)) → w'.heap[kb]? = some (.cells #[.int .u64 0, .string ⟨#[]⟩, .string ⟨#[]⟩, .int .i64 0, .string ⟨#[]⟩] 34 (0, 0))) := Lib.hid (fun w6 q => (hval.out w6 (HR.out.grown (grownBy_trans G5.out q))).mono (by rintro e w7 ⟨rfl, q2⟩; exact ⟨rfl, grownBy_trans q q2, fun kb h => q2.heap h (by simp)⟩))
  have VB : Hid (∀ w6 : World, w5.grownBy w6 none → Calls Tryz.prog 29 #[.agg #[.int .u64 1, .string O, .string R, .int .i64 1, .string ⟨#[0, 0, 0, 0, 0, 0, 0, 0, 0, 0, 0, 0, 0, 0, 0, 0]⟩]] (w6.alloc (.cells #[.int .u64 0, .string ⟨#[]⟩, .string ⟨#[]⟩, .int .i64 0, .string ⟨#[]⟩] 34)) fun e w' => e = .returned (.string V) ∧ w5.grownBy w' none ∧ w'.heap[w6.heap.size]? = some (.cells #[.int .u64 0, .string ⟨#[]⟩, .string ⟨#[]⟩, .int .i64 0, .string ⟨#[]⟩] 34 (0, 0))) := Lib.hid (fun w6 q => (hval.out _ (HR.out.grown (grownBy_trans G5.out (grownBy_alloc' q _)))).mono (by rintro e w7 ⟨rfl, q2⟩; exact ⟨rfl, grownBy_trans (grownBy_alloc' q _) q2, q2.heap (heap_alloc_at w6 (.cells #[.int .u64 0, .string ⟨#[]⟩, .string ⟨#[]⟩, .int .i64 0, .string ⟨#[]⟩] 34) _ rfl) (by simp)⟩))
  have HSET : Hid (∀ (wa : World) (kb : Nat), w5.heap.size ≤ kb → w5.grownBy wa none → wa.heap[kb]? = some (.cells #[.int .u64 0, .string ⟨#[]⟩, .string ⟨#[]⟩, .int .i64 0, .string ⟨#[]⟩] 34 (0, 0)) → Hid (w5.grownBy (((((wa.setCell ⟨kb, 0, none⟩ (.int .u64 2)).setCell ⟨kb, 1, none⟩ (.string O)).setCell ⟨kb, 2, none⟩ (.string R)).setCell ⟨kb, 3, none⟩ (.int .i64 1)).setCell ⟨kb, 4, none⟩ (.string V)) none ∧ (((((wa.setCell ⟨kb, 0, none⟩ (.int .u64 2)).setCell ⟨kb, 1, none⟩ (.string O)).setCell ⟨kb, 2, none⟩ (.string R)).setCell ⟨kb, 3, none⟩ (.int .i64 1)).setCell ⟨kb, 4, none⟩ (.string V)).heap[kb]? = some (.cells #[.int .u64 2, .string O, .string R, .int .i64 1, .string V] 34 (0, 0)))) := Lib.hid (fun wa kb hk q h => Lib.hid ⟨grown_row q (grown5 wa kb _ _ _ _ _) (fun g e => by have e2 : kb = g := Option.some.inj e; omega), heap5 h _ _ _ _ _⟩)
  have R5 : Hid (w5.grownBy w5 none) := Lib.hid (World.grownBy.refl _ _)
  have S5 : Hid (∀ wx : World, w5.grownBy wx none → w5.heap.size ≤ wx.heap.size) := Lib.hid (fun wx q => q.size)
  clear x0 x1 x2 x3 x4 g4 g5 hb5 hW5 hUB hc4 hp4 HSG1 K3 G3 B3 HW3 HXB
  obtain ⟨p0, p1, p2, p3, p4⟩ := HX.out _ R5.out
  obtain ⟨r0, r1, r2, r3, r4⟩ := HXA.out _ R5.out
  have nl5 := HXL.out _ R5.out
  have nf5 : XB ≠ w5.heap.size := Nat.ne_of_lt nl5
  have ng5 : w5.heap.size ≠ XB := Nat.ne_of_gt nl5
  go_upto_region 4 with (rw [HW5.out, HUB.out])
  go_cut [6] (fun ev wx => ∃ eb, ev = .pointer (some ⟨eb, 0, none⟩) ∧ Hid (w5.grownBy wx none ∧ wx.heap[eb]? = some (.cells #[.int .u64 2, .string O, .string R, .int .i64 1, .string V] 34 (0, 0))))
  case first =>
    go_region_with (first
      | (go_at_call 7; (with_reducible refine PA.out.mono ?_); rintro e w6 ⟨rfl, hg6⟩; have G6 := Lib.hid hg6; clear hg6; (obtain ⟨p0, p1, p2, p3, p4⟩ := HX.out _ G6.out); (obtain ⟨r0, r1, r2, r3, r4⟩ := HXA.out _ G6.out); have nl6 := HXL.out _ G6.out; have nf6 : XB ≠ w6.heap.size := Nat.ne_of_lt nl6; have ng6 : w6.heap.size ≠ XB := Nat.ne_of_gt nl6)
      | (go_at_call 7; (with_reducible refine PB.out.mono ?_); rintro e w6 ⟨rfl, hg6, hk6⟩; have G6 := Lib.hid hg6; have K6 := Lib.hid hk6; clear hg6 hk6; (obtain ⟨p0, p1, p2, p3, p4⟩ := HX.out _ G6.out); (obtain ⟨r0, r1, r2, r3, r4⟩ := HXA.out _ G6.out); have nl6 := HXL.out _ G6.out; have nf6 : XB ≠ w6.heap.size := Nat.ne_of_lt nl6; have ng6 : w6.heap.size ≠ XB := Nat.ne_of_gt nl6)
      | (go_at_call 29; (with_reducible refine (VB.out _ G6.out).mono ?_); rintro e w7 ⟨rfl, hg7, hk7⟩; have G7 := Lib.hid hg7; have K7 := Lib.hid hk7; have L7 := S5.out _ G6.out; clear hg7 hk7; (obtain ⟨p0, p1, p2, p3, p4⟩ := HX.out _ G7.out); (obtain ⟨r0, r1, r2, r3, r4⟩ := HXA.out _ G7.out); have nl7 := HXL.out _ G7.out; have nf7 : XB ≠ w7.heap.size := Nat.ne_of_lt nl7; have ng7 : w7.heap.size ≠ XB := Nat.ne_of_gt nl7; (obtain ⟨q0, q1, q2, q3, q4⟩ := cells5 K7.out); have uf : ∀ j, w7.frozen? ⟨w6.heap.size, j, none⟩ = false := fun j => free_of K7.out j)
      | (go_at_call 29; (with_reducible refine (VA.out _ G6.out).mono ?_); rintro e w7 ⟨rfl, hg7, hk7⟩; have G7 := Lib.hid hg7; have K7 := Lib.hid (hk7 _ K6.out); clear hg7 hk7; (obtain ⟨p0, p1, p2, p3, p4⟩ := HX.out _ G7.out); (obtain ⟨r0, r1, r2, r3, r4⟩ := HXA.out _ G7.out); have nl7 := HXL.out _ G7.out; have nf7 : XB ≠ w7.heap.size := Nat.ne_of_lt nl7; have ng7 : w7.heap.size ≠ XB := Nat.ne_of_gt nl7; (obtain ⟨q0, q1, q2, q3, q4⟩ := cells5 K7.out); have uf : ∀ j, w7.frozen? ⟨w5.heap.size, j, none⟩ = false := fun j => free_of K7.out j)
      | (go_at_call 29; (with_reducible refine (VA.out _ G6.out).mono ?_); rintro e w7 ⟨rfl, hg7, hk7⟩; have G7 := Lib.hid hg7; clear hg7 hk7; (obtain ⟨p0, p1, p2, p3, p4⟩ := HX.out _ G7.out); (obtain ⟨r0, r1, r2, r3, r4⟩ := HXA.out _ G7.out); have nl7 := HXL.out _ G7.out; have nf7 : XB ≠ w7.heap.size := Nat.ne_of_lt nl7; have ng7 : w7.heap.size ≠ XB := Nat.ne_of_gt nl7))
    all_goals
      go_wp2_with fail
      go_meet
      case rel =>
        first
        | exact ⟨_, rfl, HSET.out _ _ (Nat.le_refl _) G7.out K7.out⟩
        | exact ⟨_, rfl, HSET.out _ _ L7 G7.out K7.out⟩
        | exact ⟨_, rfl, Lib.hid ⟨grownBy_alloc' G7.out _, heap_alloc_at _ _ _ rfl⟩⟩
  case rest =>
    rename World => wx
    obtain ⟨eb, rfl, H6⟩ := hcut
    obtain ⟨y0, y1, y2, y3, y4⟩ := cells5 H6.out.2
    go_wp2_with fail
    refine (HSG2.out wx b (HR.out.grown (grownBy_trans G5.out H6.out.1)) (K5.out.grown H6.out.1)).mono ?_
    rintro e w8 ⟨ca2, cc2, pa2, pc2, rfl, hc8, hp8, g8⟩
    have hb9 := heap_alloc_at w8 (.cells #[.string ⟨#[97, 108, 105, 99, 101]⟩, .int .u64 2, .string O, .string R, .int .i64 1, .string V, .int .i64 1, .slice ca2 35 cc2, .slice pa2 1 pc2] 39) _ rfl
    have g9 : w8.grownBy (w8.alloc (.cells #[.string ⟨#[97, 108, 105, 99, 101]⟩, .int .u64 2, .string O, .string R, .int .i64 1, .string V, .int .i64 1, .slice ca2 35 cc2, .slice pa2 1 pc2] 39)) none := World.grownBy_alloc _ _ _
    obtain ⟨W9, hW9⟩ : ∃ W9, w8.alloc (.cells #[.string ⟨#[97, 108, 105, 99, 101]⟩, .int .u64 2, .string O, .string R, .int .i64 1, .string V, .int .i64 1, .slice ca2 35 cc2, .slice pa2 1 pc2] 39) = W9 := ⟨_, rfl⟩
    obtain ⟨VB, hVB⟩ : ∃ VB, w8.heap.size = VB := ⟨_, rfl⟩
    rw [hW9] at hb9 g9
    rw [hVB] at hb9
    have Q9 : Hid (w5.grownBy W9 none) := Lib.hid (grownBy_trans H6.out.1 (grownBy_trans g8 g9))
    have UA := Lib.hid (Q9.out.heap U5.out (by simp))
    have XA := Lib.hid (Q9.out.heap B5.out (by simp))
    have VA9 := Lib.hid hb9
    have G9 := Lib.hid (grownBy_trans G5.out Q9.out)
    have C9 := Lib.hid (And.intro (SC5.out.grown Q9.out) (SP5.out.grown Q9.out))
    have D9 := Lib.hid (And.intro (hc8.grown g9) (hp8.grown g9))
    have HW9 := Lib.hid hW9
    have HVB := Lib.hid hVB
    have HPK : Hid (∀ w' : World, W9.grownBy w' none → W9.grownBy w' none ∧ w'.cell? ⟨UB, 0, none⟩ = some (.string ⟨#[97, 108, 105, 99, 101]⟩) ∧ w'.cell? ⟨UB, 1, none⟩ = some (.int .u64 1) ∧ w'.cell? ⟨UB, 2, none⟩ = some (.string O) ∧ w'.cell? ⟨UB, 3, none⟩ = some (.string R) ∧ w'.cell? ⟨UB, 4, none⟩ = some (.int .i64 1) ∧ w'.cell? ⟨UB, 5, none⟩ = some (.string ⟨#[0, 0, 0, 0, 0, 0, 0, 0, 0, 0, 0, 0, 0, 0, 0, 0]⟩) ∧ w'.cell? ⟨UB, 6, none⟩ = some (.int .i64 0) ∧ w'.cell? ⟨UB, 7, none⟩ = some (.slice ca 35 cc) ∧ w'.cell? ⟨UB, 8, none⟩ = some (.slice pa 1 pc) ∧ w'.cell? ⟨VB, 0, none⟩ = some (.string ⟨#[97, 108, 105, 99, 101]⟩) ∧ w'.cell? ⟨VB, 1, none⟩ = some (.int .u64 2) ∧ w'.cell? ⟨VB, 2, none⟩ = some (.string O) ∧ w'.cell? ⟨VB, 3, none⟩ = some (.string R) ∧ w'.cell? ⟨VB, 4, none⟩ = some (.int .i64 1) ∧ w'.cell? ⟨VB, 5, none⟩ = some (.string V) ∧ w'.cell? ⟨VB, 6, none⟩ = some (.int .i64 1) ∧ w'.cell? ⟨VB, 7, none⟩ = some (.slice ca2 35 cc2) ∧ w'.cell? ⟨VB, 8, none⟩ = some (.slice pa2 1 pc2) ∧ w'.cell? ⟨XB, 0, none⟩ = some (.int .u64 1) ∧ w'.cell? ⟨XB, 1, none⟩ = some (.string O) ∧ w'.cell? ⟨XB, 2, none⟩ = some (.string R) ∧ w'.cell? ⟨XB, 3, none⟩ = some (.int .i64 1) ∧ w'.cell? ⟨XB, 4, none⟩ = some (.string ⟨#[0, 0, 0, 0, 0, 0, 0, 0, 0, 0, 0, 0, 0, 0, 0, 0]⟩)) := Lib.hid (fun w' q => let p := cells9 (q.heap UA.out (by simp)); let r := cells9 (q.heap VA9.out (by simp)); let s := cells5 (q.heap XA.out (by simp)); ⟨q, p.1, p.2.1, p.2.2.1, p.2.2.2.1, p.2.2.2.2.1, p.2.2.2.2.2.1, p.2.2.2.2.2.2.1, p.2.2.2.2.2.2.2.1, p.2.2.2.2.2.2.2.2, r.1, r.2.1, r.2.2.1, r.2.2.2.1, r.2.2.2.2.1, r.2.2.2.2.2.1, r.2.2.2.2.2.2.1, r.2.2.2.2.2.2.2.1, r.2.2.2.2.2.2.2.2, s.1, s.2.1, s.2.2.1, s.2.2.2.1, s.2.2.2.2⟩)
    have J1 : Hid (∀ w0 : World, (W9.grownBy w0 none ∧ w0.cell? ⟨UB, 0, none⟩ = some (.string ⟨#[97, 108, 105, 99, 101]⟩) ∧ w0.cell? ⟨UB, 1, none⟩ = some (.int .u64 1) ∧ w0.cell? ⟨UB, 2, none⟩ = some (.string O) ∧ w0.cell? ⟨UB, 3, none⟩ = some (.string R) ∧ w0.cell? ⟨UB, 4, none⟩ = some (.int .i64 1) ∧ w0.cell? ⟨UB, 5, none⟩ = some (.string ⟨#[0, 0, 0, 0, 0, 0, 0, 0, 0, 0, 0, 0, 0, 0, 0, 0]⟩) ∧ w0.cell? ⟨UB, 6, none⟩ = some (.int .i64 0) ∧ w0.cell? ⟨UB, 7, none⟩ = some (.slice ca 35 cc) ∧ w0.cell? ⟨UB, 8, none⟩ = some (.slice pa 1 pc) ∧ w0.cell? ⟨VB, 0, none⟩ = some (.string ⟨#[97, 108, 105, 99, 101]⟩) ∧ w0.cell? ⟨VB, 1, none⟩ = some (.int .u64 2) ∧ w0.cell? ⟨VB, 2, none⟩ = some (.string O) ∧ w0.cell? ⟨VB, 3, none⟩ = some (.string R) ∧ w0.cell? ⟨VB, 4, none⟩ = some (.int .i64 1) ∧ w0.cell? ⟨VB, 5, none⟩ = some (.string V) ∧ w0.cell? ⟨VB, 6, none⟩ = some (.int .i64 1) ∧ w0.cell? ⟨VB, 7, none⟩ = some (.slice ca2 35 cc2) ∧ w0.cell? ⟨VB, 8, none⟩ = some (.slice pa2 1 pc2) ∧ w0.cell? ⟨XB, 0, none⟩ = some (.int .u64 1) ∧ w0.cell? ⟨XB, 1, none⟩ = some (.string O) ∧ w0.cell? ⟨XB, 2, none⟩ = some (.string R) ∧ w0.cell? ⟨XB, 3, none⟩ = some (.int .i64 1) ∧ w0.cell? ⟨XB, 4, none⟩ = some (.string ⟨#[0, 0, 0, 0, 0, 0, 0, 0, 0, 0, 0, 0, 0, 0, 0, 0]⟩)) → Calls Tryz.prog 30 #[.agg #[.string ⟨#[97, 108, 105, 99, 101]⟩, .int .u64 1, .string O, .string R, .int .i64 1, .string ⟨#[0, 0, 0, 0, 0, 0, 0, 0, 0, 0, 0, 0, 0, 0, 0, 0]⟩, .int .i64 0, .slice ca 35 cc, .slice pa 1 pc], .bool false, .agg #[.int .u64 0, .string ⟨#[]⟩, .string ⟨#[]⟩, .int .i64 0, .string ⟨#[]⟩]] w0 fun e w' => e = .returned (.int .i64 0) ∧ W9.grownBy w' none ∧ w'.cell? ⟨UB, 0, none⟩ = some (.string ⟨#[97, 108, 105, 99, 101]⟩) ∧ w'.cell? ⟨UB, 1, none⟩ = some (.int .u64 1) ∧ w'.cell? ⟨UB, 2, none⟩ = some (.string O) ∧ w'.cell? ⟨UB, 3, none⟩ = some (.string R) ∧ w'.cell? ⟨UB, 4, none⟩ = some (.int .i64 1) ∧ w'.cell? ⟨UB, 5, none⟩ = some (.string ⟨#[0, 0, 0, 0, 0, 0, 0, 0, 0, 0, 0, 0, 0, 0, 0, 0]⟩) ∧ w'.cell? ⟨UB, 6, none⟩ = some (.int .i64 0) ∧ w'.cell? ⟨UB, 7, none⟩ = some (.slice ca 35 cc) ∧ w'.cell? ⟨UB, 8, none⟩ = some (.slice pa 1 pc) ∧ w'.cell? ⟨VB, 0, none⟩ = some (.string ⟨#[97, 108, 105, 99, 101]⟩) ∧ w'.cell? ⟨VB, 1, none⟩ = some (.int .u64 2) ∧ w'.cell? ⟨VB, 2, none⟩ = some (.string O) ∧ w'.cell? ⟨VB, 3, none⟩ = some (.string R) ∧ w'.cell? ⟨VB, 4, none⟩ = some (.int .i64 1) ∧ w'.cell? ⟨VB, 5, none⟩ = some (.string V) ∧ w'.cell? ⟨VB, 6, none⟩ = some (.int .i64 1) ∧ w'.cell? ⟨VB, 7, none⟩ = some (.slice ca2 35 cc2) ∧ w'.cell? ⟨VB, 8, none⟩ = some (.slice pa2 1 pc2) ∧ w'.cell? ⟨XB, 0, none⟩ = some (.int .u64 1) ∧ w'.cell? ⟨XB, 1, none⟩ = some (.string O) ∧ w'.cell? ⟨XB, 2, none⟩ = some (.string R) ∧ w'.cell? ⟨XB, 3, none⟩ = some (.int .i64 1) ∧ w'.cell? ⟨XB, 4, none⟩ = some (.string ⟨#[0, 0, 0, 0, 0, 0, 0, 0, 0, 0, 0, 0, 0, 0, 0, 0]⟩)) := Lib.hid (fun w0 q => (HJ1.out ca pa cc pc w0 (grownBy_trans G9.out q.1) (C9.out.1.grown q.1) (C9.out.2.grown q.1)).mono (by rintro e w' ⟨rfl, k⟩; exact ⟨rfl, HPK.out _ (grownBy_trans q.1 k)⟩))
    have J2 : Hid (∀ w0 : World, (W9.grownBy w0 none ∧ w0.cell? ⟨UB, 0, none⟩ = some (.string ⟨#[97, 108, 105, 99, 101]⟩) ∧ w0.cell? ⟨UB, 1, none⟩ = some (.int .u64 1) ∧ w0.cell? ⟨UB, 2, none⟩ = some (.string O) ∧ w0.cell? ⟨UB, 3, none⟩ = some (.string R) ∧ w0.cell? ⟨UB, 4, none⟩ = some (.int .i64 1) ∧ w0.cell? ⟨UB, 5, none⟩ = some (.string ⟨#[0, 0, 0, 0, 0, 0, 0, 0, 0, 0, 0, 0, 0, 0, 0, 0]⟩) ∧ w0.cell? ⟨UB, 6, none⟩ = some (.int .i64 0) ∧ w0.cell? ⟨UB, 7, none⟩ = some (.slice ca 35 cc) ∧ w0.cell? ⟨UB, 8, none⟩ = some (.slice pa 1 pc) ∧ w0.cell? ⟨VB, 0, none⟩ = some (.string ⟨#[97, 108, 105, 99, 101]⟩) ∧ w0.cell? ⟨VB, 1, none⟩ = some (.int .u64 2) ∧ w0.cell? ⟨VB, 2, none⟩ = some (.string O) ∧ w0.cell? ⟨VB, 3, none⟩ = some (.string R) ∧ w0.cell? ⟨VB, 4, none⟩ = some (.int .i64 1) ∧ w0.cell? ⟨VB, 5, none⟩ = some (.string V) ∧ w0.cell? ⟨VB, 6, none⟩ = some (.int .i64 1) ∧ w0.cell? ⟨VB, 7, none⟩ = some (.slice ca2 35 cc2) ∧ w0.cell? ⟨VB, 8, none⟩ = some (.slice pa2 1 pc2) ∧ w0.cell? ⟨XB, 0, none⟩ = some (.int .u64 1) ∧ w0.cell? ⟨XB, 1, none⟩ = some (.string O) ∧ w0.cell? ⟨XB, 2, none⟩ = some (.string R) ∧ w0.cell? ⟨XB, 3, none⟩ = some (.int .i64 1) ∧ w0.cell? ⟨XB, 4, none⟩ = some (.string ⟨#[0, 0, 0, 0, 0, 0, 0, 0, 0, 0, 0, 0, 0, 0, 0, 0]⟩)) → Calls Tryz.prog 30 #[.agg #[.string ⟨#[97, 108, 105, 99, 101]⟩, .int .u64 2, .string O, .string R, .int .i64 1, .string V, .int .i64 1, .slice ca2 35 cc2, .slice pa2 1 pc2], .bool true, .agg #[.int .u64 1, .string O, .string R, .int .i64 1, .string ⟨#[0, 0, 0, 0, 0, 0, 0, 0, 0, 0, 0, 0, 0, 0, 0, 0]⟩]] w0 fun e w' => e = .returned (.int .i64 0) ∧ W9.grownBy w' none ∧ w'.cell? ⟨UB, 0, none⟩ = some (.string ⟨#[97, 108, 105, 99, 101]⟩) ∧ w'.cell? ⟨UB, 1, none⟩ = some (.int .u64 1) ∧ w'.cell? ⟨UB, 2, none⟩ = some (.string O) ∧ w'.cell? ⟨UB, 3, none⟩ = some (.string R) ∧ w'.cell? ⟨UB, 4, none⟩ = some (.int .i64 1) ∧ w'.cell? ⟨UB, 5, none⟩ = some (.string ⟨#[0, 0, 0, 0, 0, 0, 0, 0, 0, 0, 0, 0, 0, 0, 0, 0]⟩) ∧ w'.cell? ⟨UB, 6, none⟩ = some (.int .i64 0) ∧ w'.cell? ⟨UB, 7, none⟩ = some (.slice ca 35 cc) ∧ w'.cell? ⟨UB, 8, none⟩ = some (.slice pa 1 pc) ∧ w'.cell? ⟨VB, 0, none⟩ = some (.string ⟨#[97, 108, 105, 99, 101]⟩) ∧ w'.cell? ⟨VB, 1, none⟩ = some (.int .u64 2) ∧ w'.cell? ⟨VB, 2, none⟩ = some (.string O) ∧ w'.cell? ⟨VB, 3, none⟩ = some (.string R) ∧ w'.cell? ⟨VB, 4, none⟩ = some (.int .i64 1) ∧ w'.cell? ⟨VB, 5, none⟩ = some (.string V) ∧ w'.cell? ⟨VB, 6, none⟩ = some (.int .i64 1) ∧ w'.cell? ⟨VB, 7, none⟩ = some (.slice ca2 35 cc2) ∧ w'.cell? ⟨VB, 8, none⟩ = some (.slice pa2 1 pc2) ∧ w'.cell? ⟨XB, 0, none⟩ = some (.int .u64 1) ∧ w'.cell? ⟨XB, 1, none⟩ = some (.string O) ∧ w'.cell? ⟨XB, 2, none⟩ = some (.string R) ∧ w'.cell? ⟨XB, 3, none⟩ = some (.int .i64 1) ∧ w'.cell? ⟨XB, 4, none⟩ = some (.string ⟨#[0, 0, 0, 0, 0, 0, 0, 0, 0, 0, 0, 0, 0, 0, 0, 0]⟩)) := Lib.hid (fun w0 q => (HJ2.out ca2 pa2 cc2 pc2 w0 (grownBy_trans G9.out q.1) (D9.out.1.grown q.1) (D9.out.2.grown q.1)).mono (by rintro e w' ⟨rfl, k⟩; exact ⟨rfl, HPK.out _ (grownBy_trans q.1 k)⟩))
    have J3 : Hid (∀ w0 : World, (W9.grownBy w0 none ∧ w0.cell? ⟨UB, 0, none⟩ = some (.string ⟨#[97, 108, 105, 99, 101]⟩) ∧ w0.cell? ⟨UB, 1, none⟩ = some (.int .u64 1) ∧ w0.cell? ⟨UB, 2, none⟩ = some (.string O) ∧ w0.cell? ⟨UB, 3, none⟩ = some (.string R) ∧ w0.cell? ⟨UB, 4, none⟩ = some (.int .i64 1) ∧ w0.cell? ⟨UB, 5, none⟩ = some (.string ⟨#[0, 0, 0, 0, 0, 0, 0, 0, 0, 0, 0, 0, 0, 0, 0, 0]⟩) ∧ w0.cell? ⟨UB, 6, none⟩ = some (.int .i64 0) ∧ w0.cell? ⟨UB, 7, none⟩ = some (.slice ca 35 cc) ∧ w0.cell? ⟨UB, 8, none⟩ = some (.slice pa 1 pc) ∧ w0.cell? ⟨VB, 0, none⟩ = some (.string ⟨#[97, 108, 105, 99, 101]⟩) ∧ w0.cell? ⟨VB, 1, none⟩ = some (.int .u64 2) ∧ w0.cell? ⟨VB, 2, none⟩ = some (.string O) ∧ w0.cell? ⟨VB, 3, none⟩ = some (.string R) ∧ w0.cell? ⟨VB, 4, none⟩ = some (.int .i64 1) ∧ w0.cell? ⟨VB, 5, none⟩ = some (.string V) ∧ w0.cell? ⟨VB, 6, none⟩ = some (.int .i64 1) ∧ w0.cell? ⟨VB, 7, none⟩ = some (.slice ca2 35 cc2) ∧ w0.cell? ⟨VB, 8, none⟩ = some (.slice pa2 1 pc2) ∧ w0.cell? ⟨XB, 0, none⟩ = some (.int .u64 1) ∧ w0.cell? ⟨XB, 1, none⟩ = some (.string O) ∧ w0.cell? ⟨XB, 2, none⟩ = some (.string R) ∧ w0.cell? ⟨XB, 3, none⟩ = some (.int .i64 1) ∧ w0.cell? ⟨XB, 4, none⟩ = some (.string ⟨#[0, 0, 0, 0, 0, 0, 0, 0, 0, 0, 0, 0, 0, 0, 0, 0]⟩)) → Calls Tryz.prog 30 #[.agg #[.string ⟨#[97, 108, 105, 99, 101]⟩, .int .u64 2, .string O, .string R, .int .i64 1, .string V, .int .i64 1, .slice ca2 35 cc2, .slice pa2 1 pc2], .bool false, .agg #[.int .u64 0, .string ⟨#[]⟩, .string ⟨#[]⟩, .int .i64 0, .string ⟨#[]⟩]] w0 fun e w' => e = .returned (.int .i64 13) ∧ W9.grownBy w' none ∧ w'.cell? ⟨UB, 0, none⟩ = some (.string ⟨#[97, 108, 105, 99, 101]⟩) ∧ w'.cell? ⟨UB, 1, none⟩ = some (.int .u64 1) ∧ w'.cell? ⟨UB, 2, none⟩ = some (.string O) ∧ w'.cell? ⟨UB, 3, none⟩ = some (.string R) ∧ w'.cell? ⟨UB, 4, none⟩ = some (.int .i64 1) ∧ w'.cell? ⟨UB, 5, none⟩ = some (.string ⟨#[0, 0, 0, 0, 0, 0, 0, 0, 0, 0, 0, 0, 0, 0, 0, 0]⟩) ∧ w'.cell? ⟨UB, 6, none⟩ = some (.int .i64 0) ∧ w'.cell? ⟨UB, 7, none⟩ = some (.slice ca 35 cc) ∧ w'.cell? ⟨UB, 8, none⟩ = some (.slice pa 1 pc) ∧ w'.cell? ⟨VB, 0, none⟩ = some (.string ⟨#[97, 108, 105, 99, 101]⟩) ∧ w'.cell? ⟨VB, 1, none⟩ = some (.int .u64 2) ∧ w'.cell? ⟨VB, 2, none⟩ = some (.string O) ∧ w'.cell? ⟨VB, 3, none⟩ = some (.string R) ∧ w'.cell? ⟨VB, 4, none⟩ = some (.int .i64 1) ∧ w'.cell? ⟨VB, 5, none⟩ = some (.string V) ∧ w'.cell? ⟨VB, 6, none⟩ = some (.int .i64 1) ∧ w'.cell? ⟨VB, 7, none⟩ = some (.slice ca2 35 cc2) ∧ w'.cell? ⟨VB, 8, none⟩ = some (.slice pa2 1 pc2) ∧ w'.cell? ⟨XB, 0, none⟩ = some (.int .u64 1) ∧ w'.cell? ⟨XB, 1, none⟩ = some (.string O) ∧ w'.cell? ⟨XB, 2, none⟩ = some (.string R) ∧ w'.cell? ⟨XB, 3, none⟩ = some (.int .i64 1) ∧ w'.cell? ⟨XB, 4, none⟩ = some (.string ⟨#[0, 0, 0, 0, 0, 0, 0, 0, 0, 0, 0, 0, 0, 0, 0, 0]⟩)) := Lib.hid (fun w0 q => (HJ3.out ca2 pa2 cc2 pc2 w0 (grownBy_trans G9.out q.1) (D9.out.1.grown q.1) (D9.out.2.grown q.1)).mono (by rintro e w' ⟨rfl, k⟩; exact ⟨rfl, HPK.out _ (grownBy_trans q.1 k)⟩))
    have ck := HPK.out W9 (World.grownBy.refl W9 none)
    have CK := Lib.hid ck
    clear y0 y1 y2 y3 y4 hb9 g9 g8 hW9 hVB hc8 hp8 HSG2 H6 HJ1 HJ2 HJ3 UA XA VA9 C9 D9 Q9 HPK ck
    obtain ⟨_, m0, m1, m2, m3, m4, m5, m6, m7, m8, n0, n1, n2, n3, n4, n5, n6, n7, n8, e0, e1, e2, e3, e4⟩ := CK.out
    go_wp2_with (rw [HW9.out, HVB.out])
    refine (J1.out _ CK.out).mono ?_
    rintro e w10 ⟨rfl, hs⟩
    have CK1 := Lib.hid hs
    clear m0 m1 m2 m3 m4 m5 m6 m7 m8 n0 n1 n2 n3 n4 n5 n6 n7 n8 e0 e1 e2 e3 e4 hs J1
    obtain ⟨_, m0, m1, m2, m3, m4, m5, m6, m7, m8, n0, n1, n2, n3, n4, n5, n6, n7, n8, e0, e1, e2, e3, e4⟩ := CK1.out
    go_wp2_with fail
    refine (J2.out _ CK1.out).mono ?_
    rintro e w11 ⟨rfl, hs⟩
    have CK2 := Lib.hid hs
    clear m0 m1 m2 m3 m4 m5 m6 m7 m8 n0 n1 n2 n3 n4 n5 n6 n7 n8 e0 e1 e2 e3 e4 hs J2
    obtain ⟨_, m0, m1, m2, m3, m4, m5, m6, m7, m8, n0, n1, n2, n3, n4, n5, n6, n7, n8, e0, e1, e2, e3, e4⟩ := CK2.out
    go_wp2_with fail
    refine (J3.out _ CK2.out).mono ?_
    rintro e w12 ⟨rfl, hs⟩
    have ck := hs
    clear m0 m1 m2 m3 m4 m5 m6 m7 m8 n0 n1 n2 n3 n4 n5 n6 n7 n8 e0 e1 e2 e3 e4 hs J3
    have GF := Lib.hid (grownBy_trans G9.out ck.1)
    clear ck
    go_wp2_with fail
    go_ret
    exact ⟨rfl, GF.out⟩
end Go.Proofs.YtemndmhdlgfajaaGreatDoor
