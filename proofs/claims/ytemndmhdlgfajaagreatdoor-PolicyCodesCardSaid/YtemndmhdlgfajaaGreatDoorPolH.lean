/- The walk of Judge, of a label's first entry. -/
import Derived.Test.YtemndmhdlgfajaaGreatDoorPolD
import Derived.Test.YtemndmhdlgfajaaGreatDoorPolicyCodesB5
import Derived.Test.YtemndmhdlgfajaaGreatDoorPolicyCodesB4
import Derived.Test.YtemndmhdlgfajaaGreatDoorPolC
import Derived.Test.YtemndmhdlgfajaaGreatDoorXmssC
import Derived.Handy
import Derived.Deep.DeepCutAuto
import Derived.Deep.RegionHeld3
namespace Go.Proofs.YtemndmhdlgfajaaGreatDoor
open Go.RowKit
attribute [local irreducible] shaL

theorem ents_one (w : World) (x : EntS) : EntsAt (w.alloc (.cells #[.int .u64 x.v, .string x.o, .string x.r, .int .i64 x.h, .string x.p] 34)) (.slice (some ⟨w.heap.size, 0, none⟩) 1 1) [x] := by
  refine ⟨_, 1, rfl, fun i hi => ?_⟩
  obtain rfl : i = 0 := by simp at hi; omega
  obtain ⟨c0, c1, c2, c3, c4⟩ := cells5 (heap_alloc_at w (.cells #[.int .u64 x.v, .string x.o, .string x.r, .int .i64 x.h, .string x.p] 34) w.heap.size rfl)
  exact ⟨_, 0, rfl, c0, c1, c2, c3, c4⟩
set_option maxRecDepth 100000 in
set_option maxHeartbeats 3200000 in
theorem judge_new (l : ByteArray) (x y : EntS) (i h : Nat) (ca pa : Option Addr) (cc pc : Nat) (z : Int) (res : Bool) (hx : x.small) (hl : l.size ≤ 1000000000) (he : x.err = 0) (hz : histE [x] = z) (w : World) (hr : ShaReady w)
    (hj : ∀ w', w.grownBy w' none → Calls Tryz.prog 76 #[.string l] w' fun e w'' => e = .returned (.int .i64 0) ∧ w'.grownBy w'' none)
    (hv : z = 0 → ∀ w', w.grownBy w' none → Calls Tryz.prog 12 #[.agg #[.string x.o, .string x.r, .int .i64 x.h], .string (msgS l x), .agg #[.int .i64 i, .slice ca 35 cc, .slice pa h pc]] w' fun e w'' => e = .returned (.bool res) ∧ w'.grownBy w'' none) :
    Calls Tryz.prog 30 #[updV l x i (.slice ca 35 cc) (.slice pa h pc), .bool false, y.val] w fun e w' => e = .returned (.int .i64 (if z ≠ 0 then z else if res then 0 else 12)) ∧ w.grownBy w' none := by
  have HEN := Lib.hid (fun w' => eencode_any x hx w')
  rw [he] at HEN
  generalize x.enc = xe at HEN
  have HMS := Lib.hid (fun w' q => message_any l x hl hx w' q)
  generalize msgS l x = m at HMS hv
  have HHI : Hid (∀ w' v, ShaReady w' → EntsAt w' v [x] → Calls Tryz.prog 77 #[v] w' fun e w'' => e = .returned (.int .i64 z) ∧ w'.grownBy w'' none) := Lib.hid (fun w' v q1 q2 => by
    have := ehistory_any v [x] (by intro t ht; simp at ht; subst ht; exact hx) (by simp) w' q1 q2
    rwa [hz] at this)
  obtain ⟨ans, hans⟩ : ∃ ans, (if z ≠ 0 then z else if res then 0 else 12) = ans := ⟨_, rfl⟩
  rw [hans]
  have HANS := Lib.hid hans
  have HR := Lib.hid hr
  have HJ := Lib.hid hj
  have HV := Lib.hid hv
  clear hx hl he hz hr hj hv hans
  unfold EntS.val at HEN HMS ⊢
  unfold updV
  obtain ⟨n, hn⟩ : ∃ n, w.heap.size = n := ⟨_, rfl⟩
  have hb0 := heap_alloc_at w (.cells #[.string l, .int .u64 x.v, .string x.o, .string x.r, .int .i64 x.h, .string x.p, .int .i64 i, .slice ca 35 cc, .slice pa h pc] 39) n hn
  have hg0 : w.grownBy (w.alloc (.cells #[.string l, .int .u64 x.v, .string x.o, .string x.r, .int .i64 x.h, .string x.p, .int .i64 i, .slice ca 35 cc, .slice pa h pc] 39)) none := World.grownBy_alloc _ _ _
  obtain ⟨W0, hW0⟩ : ∃ W0, w.alloc (.cells #[.string l, .int .u64 x.v, .string x.o, .string x.r, .int .i64 x.h, .string x.p, .int .i64 i, .slice ca 35 cc, .slice pa h pc] 39) = W0 := ⟨_, rfl⟩
  rw [hW0] at hb0 hg0
  have hz0 : W0.heap.size = n + 1 := by rw [← hW0, World.size_alloc, hn]
  have hb1 := heap_alloc_at W0 (.cells #[.int .u64 y.v, .string y.o, .string y.r, .int .i64 y.h, .string y.p] 34) (n + 1) hz0
  have hg1 : W0.grownBy (W0.alloc (.cells #[.int .u64 y.v, .string y.o, .string y.r, .int .i64 y.h, .string y.p] 34)) none := World.grownBy_alloc _ _ _
  obtain ⟨W1, hW1⟩ : ∃ W1, W0.alloc (.cells #[.int .u64 y.v, .string y.o, .string y.r, .int .i64 y.h, .string y.p] 34) = W1 := ⟨_, rfl⟩
  rw [hW1] at hb1 hg1
  have S1 : Hid (w.grownBy W1 none ∧ W1.heap[n]? = some (.cells #[.string l, .int .u64 x.v, .string x.o, .string x.r, .int .i64 x.h, .string x.p, .int .i64 i, .slice ca 35 cc, .slice pa h pc] 39 (0, 0)) ∧ W1.heap[n + 1]? = some (.cells #[.int .u64 y.v, .string y.o, .string y.r, .int .i64 y.h, .string y.p] 34 (0, 0))) := Lib.hid ⟨grownBy_trans hg0 hg1, hg1.heap hb0 (by simp), hb1⟩
  have HSTEP : Hid (∀ (wa wb : World), wa.grownBy wb none → w.grownBy wa none ∧ wa.heap[n]? = some (.cells #[.string l, .int .u64 x.v, .string x.o, .string x.r, .int .i64 x.h, .string x.p, .int .i64 i, .slice ca 35 cc, .slice pa h pc] 39 (0, 0)) ∧ wa.heap[n + 1]? = some (.cells #[.int .u64 y.v, .string y.o, .string y.r, .int .i64 y.h, .string y.p] 34 (0, 0)) → w.grownBy wb none ∧ wb.heap[n]? = some (.cells #[.string l, .int .u64 x.v, .string x.o, .string x.r, .int .i64 x.h, .string x.p, .int .i64 i, .slice ca 35 cc, .slice pa h pc] 39 (0, 0)) ∧ wb.heap[n + 1]? = some (.cells #[.int .u64 y.v, .string y.o, .string y.r, .int .i64 y.h, .string y.p] 34 (0, 0))) := Lib.hid (fun wa wb g q => ⟨grownBy_trans q.1 g, g.heap q.2.1 (by simp), g.heap q.2.2 (by simp)⟩)
  have HW0 := Lib.hid hW0
  have HW1 := Lib.hid hW1
  have HN := Lib.hid hn
  have HZ0 := Lib.hid hz0
  obtain ⟨u0, u1, u2, u3, u4, u5, u6, u7, u8⟩ := cells9 S1.out.2.1
  clear hb0 hg0 hb1 hg1 hW0 hW1 hn hz0
  go_enter Tryz.func30, Tryz.ntmps30
  go_wp2_with (first | rw [HW0.out, HZ0.out] | rw [HW0.out, HN.out] | rw [HW1.out, HZ0.out] | rw [HW1.out] | rw [HW0.out])
  refine (HJ.out _ S1.out.1).mono ?_
  rintro e w2 ⟨rfl, g2⟩
  have S2 := Lib.hid (HSTEP.out _ _ g2 S1.out)
  clear g2 u0 u1 u2 u3 u4 u5 u6 u7 u8 HJ
  obtain ⟨u0, u1, u2, u3, u4, u5, u6, u7, u8⟩ := cells9 S2.out.2.1
  go_wp2_with fail
  refine (HEN.out _).mono ?_
  rintro e w3 ⟨rfl, g3⟩
  have S3 := Lib.hid (HSTEP.out _ _ g3 S2.out)
  clear g3 u0 u1 u2 u3 u4 u5 u6 u7 u8 HEN
  obtain ⟨u0, u1, u2, u3, u4, u5, u6, u7, u8⟩ := cells9 S3.out.2.1
  have HS1 : Hid (∀ o, (w.grownBy (w3.alloc o).drew none ∧ (w3.alloc o).drew.heap[n]? = some (.cells #[.string l, .int .u64 x.v, .string x.o, .string x.r, .int .i64 x.h, .string x.p, .int .i64 i, .slice ca 35 cc, .slice pa h pc] 39 (0, 0)) ∧ (w3.alloc o).drew.heap[n + 1]? = some (.cells #[.int .u64 y.v, .string y.o, .string y.r, .int .i64 y.h, .string y.p] 34 (0, 0)))) := Lib.hid (fun o => HSTEP.out _ _ (grownBy_drew (World.grownBy_alloc w3 o none)) S3.out)
  have HS2 : Hid (∀ o o', (w.grownBy ((w3.alloc o).alloc o').drew none ∧ ((w3.alloc o).alloc o').drew.heap[n]? = some (.cells #[.string l, .int .u64 x.v, .string x.o, .string x.r, .int .i64 x.h, .string x.p, .int .i64 i, .slice ca 35 cc, .slice pa h pc] 39 (0, 0)) ∧ ((w3.alloc o).alloc o').drew.heap[n + 1]? = some (.cells #[.int .u64 y.v, .string y.o, .string y.r, .int .i64 y.h, .string y.p] 34 (0, 0)))) := Lib.hid (fun o o' => HSTEP.out _ _ (grownBy_drew (grownBy_alloc' (World.grownBy_alloc w3 o none) o')) S3.out)
  have EA : Hid (EntsAt (w3.alloc (.cells #[.int .u64 x.v, .string x.o, .string x.r, .int .i64 x.h, .string x.p] 34)).drew (.slice (some ⟨w3.heap.size, 0, none⟩) 1 1) [x]) := Lib.hid (ents_one w3 x)
  have EB : Hid (EntsAt ((w3.alloc (.cells #[.string ⟨#[]⟩, .string ⟨#[]⟩, .int .i64 0] 31)).alloc (.cells #[.int .u64 x.v, .string x.o, .string x.r, .int .i64 x.h, .string x.p] 34)).drew (.slice (some ⟨w3.heap.size + 1, 0, none⟩) 1 1) [x]) := Lib.hid (by have := ents_one (w3.alloc (.cells #[.string ⟨#[]⟩, .string ⟨#[]⟩, .int .i64 0] 31)) x; rw [World.size_alloc] at this; exact this)
  have EC : Hid (EntsAt ((w3.alloc (.cells #[.int .u64 x.v, .string x.o, .string x.r, .int .i64 x.h, .string x.p] 34)).alloc (.cells #[.string ⟨#[]⟩, .string ⟨#[]⟩, .int .i64 0] 31)).drew (.slice (some ⟨w3.heap.size, 0, none⟩) 1 1) [x]) := Lib.hid ((ents_one w3 x).grown (grownBy_drew (World.grownBy_alloc _ _ _)))
  have KB : Hid (((w3.alloc (.cells #[.string ⟨#[]⟩, .string ⟨#[]⟩, .int .i64 0] 31)).alloc (.cells #[.int .u64 x.v, .string x.o, .string x.r, .int .i64 x.h, .string x.p] 34)).drew.heap[w3.heap.size]? = some (.cells #[.string ⟨#[]⟩, .string ⟨#[]⟩, .int .i64 0] 31 (0, 0))) := Lib.hid ((World.grownBy_alloc (w3.alloc (.cells #[.string ⟨#[]⟩, .string ⟨#[]⟩, .int .i64 0] 31)) (.cells #[.int .u64 x.v, .string x.o, .string x.r, .int .i64 x.h, .string x.p] 34) none).heap (heap_alloc_at w3 _ _ rfl) (by simp))
  have KC : Hid (((w3.alloc (.cells #[.int .u64 x.v, .string x.o, .string x.r, .int .i64 x.h, .string x.p] 34)).alloc (.cells #[.string ⟨#[]⟩, .string ⟨#[]⟩, .int .i64 0] 31)).drew.heap[w3.heap.size + 1]? = some (.cells #[.string ⟨#[]⟩, .string ⟨#[]⟩, .int .i64 0] 31 (0, 0))) := Lib.hid (heap_alloc_at (w3.alloc (.cells #[.int .u64 x.v, .string x.o, .string x.r, .int .i64 x.h, .string x.p] 34)) (.cells #[.string ⟨#[]⟩, .string ⟨#[]⟩, .int .i64 0] 31) _ (by rw [World.size_alloc]))
  have CA : Hid (Calls Tryz.prog 77 #[.slice (some ⟨w3.heap.size, 0, none⟩) 1 1] (w3.alloc (.cells #[.int .u64 x.v, .string x.o, .string x.r, .int .i64 x.h, .string x.p] 34)).drew fun e w' => e = .returned (.int .i64 z) ∧ (w.grownBy w' none ∧ w'.heap[n]? = some (.cells #[.string l, .int .u64 x.v, .string x.o, .string x.r, .int .i64 x.h, .string x.p, .int .i64 i, .slice ca 35 cc, .slice pa h pc] 39 (0, 0)) ∧ w'.heap[n + 1]? = some (.cells #[.int .u64 y.v, .string y.o, .string y.r, .int .i64 y.h, .string y.p] 34 (0, 0)))) := Lib.hid ((HHI.out _ _ (HR.out.grown (HS1.out _).1) EA.out).mono (by rintro e w4 ⟨rfl, g4⟩; exact ⟨rfl, HSTEP.out _ _ g4 (HS1.out _)⟩))
  have CB : Hid (Calls Tryz.prog 77 #[.slice (some ⟨w3.heap.size + 1, 0, none⟩) 1 1] ((w3.alloc (.cells #[.string ⟨#[]⟩, .string ⟨#[]⟩, .int .i64 0] 31)).alloc (.cells #[.int .u64 x.v, .string x.o, .string x.r, .int .i64 x.h, .string x.p] 34)).drew fun e w' => e = .returned (.int .i64 z) ∧ (w.grownBy w' none ∧ w'.heap[n]? = some (.cells #[.string l, .int .u64 x.v, .string x.o, .string x.r, .int .i64 x.h, .string x.p, .int .i64 i, .slice ca 35 cc, .slice pa h pc] 39 (0, 0)) ∧ w'.heap[n + 1]? = some (.cells #[.int .u64 y.v, .string y.o, .string y.r, .int .i64 y.h, .string y.p] 34 (0, 0))) ∧ w'.heap[w3.heap.size]? = some (.cells #[.string ⟨#[]⟩, .string ⟨#[]⟩, .int .i64 0] 31 (0, 0))) := Lib.hid ((HHI.out _ _ (HR.out.grown (HS2.out _ _).1) EB.out).mono (by rintro e w4 ⟨rfl, g4⟩; exact ⟨rfl, HSTEP.out _ _ g4 (HS2.out _ _), g4.heap KB.out (by simp)⟩))
  have CC : Hid (Calls Tryz.prog 77 #[.slice (some ⟨w3.heap.size, 0, none⟩) 1 1] ((w3.alloc (.cells #[.int .u64 x.v, .string x.o, .string x.r, .int .i64 x.h, .string x.p] 34)).alloc (.cells #[.string ⟨#[]⟩, .string ⟨#[]⟩, .int .i64 0] 31)).drew fun e w' => e = .returned (.int .i64 z) ∧ (w.grownBy w' none ∧ w'.heap[n]? = some (.cells #[.string l, .int .u64 x.v, .string x.o, .string x.r, .int .i64 x.h, .string x.p, .int .i64 i, .slice ca 35 cc, .slice pa h pc] 39 (0, 0)) ∧ w'.heap[n + 1]? = some (.cells #[.int .u64 y.v, .string y.o, .string y.r, .int .i64 y.h, .string y.p] 34 (0, 0))) ∧ w'.heap[w3.heap.size + 1]? = some (.cells #[.string ⟨#[]⟩, .string ⟨#[]⟩, .int .i64 0] 31 (0, 0))) := Lib.hid ((HHI.out _ _ (HR.out.grown (HS2.out _ _).1) EC.out).mono (by rintro e w4 ⟨rfl, g4⟩; exact ⟨rfl, HSTEP.out _ _ g4 (HS2.out _ _), g4.heap KC.out (by simp)⟩))
  clear EA EB EC KB KC HS1 HS2
  have hnl : n < w3.heap.size := (Array.getElem?_eq_some_iff.1 S3.out.2.1).1
  have ne1 : n ≠ w3.heap.size := by omega
  have ne2 : n ≠ w3.heap.size + 1 := by omega
  have ne3 : w3.heap.size ≠ n := by omega
  have ne4 : w3.heap.size + 1 ≠ n := by omega
  have v1 := fun o => (cells9 ((World.grownBy_alloc w3 o none).heap S3.out.2.1 (by simp))).2.1
  have v2 := fun o => (cells9 ((World.grownBy_alloc w3 o none).heap S3.out.2.1 (by simp))).2.2.1
  have v3 := fun o => (cells9 ((World.grownBy_alloc w3 o none).heap S3.out.2.1 (by simp))).2.2.2.1
  have v4 := fun o => (cells9 ((World.grownBy_alloc w3 o none).heap S3.out.2.1 (by simp))).2.2.2.2.1
  have v5 := fun o => (cells9 ((World.grownBy_alloc w3 o none).heap S3.out.2.1 (by simp))).2.2.2.2.2.1
  have t1 := fun o o' => (cells9 ((grownBy_alloc' (World.grownBy_alloc w3 o none) o').heap S3.out.2.1 (by simp))).2.1
  have t2 := fun o o' => (cells9 ((grownBy_alloc' (World.grownBy_alloc w3 o none) o').heap S3.out.2.1 (by simp))).2.2.1
  have t3 := fun o o' => (cells9 ((grownBy_alloc' (World.grownBy_alloc w3 o none) o').heap S3.out.2.1 (by simp))).2.2.2.1
  have t4 := fun o o' => (cells9 ((grownBy_alloc' (World.grownBy_alloc w3 o none) o').heap S3.out.2.1 (by simp))).2.2.2.2.1
  have t5 := fun o o' => (cells9 ((grownBy_alloc' (World.grownBy_alloc w3 o none) o').heap S3.out.2.1 (by simp))).2.2.2.2.2.1
  have HR4 : Hid (∀ w4 : World, w4.heap[n]? = some (.cells #[.string l, .int .u64 x.v, .string x.o, .string x.r, .int .i64 x.h, .string x.p, .int .i64 i, .slice ca 35 cc, .slice pa h pc] 39 (0, 0)) → ∀ o : Obj, (w4.alloc o).cell? ⟨n, 1, none⟩ = some (.int .u64 x.v)) := Lib.hid (fun w4 q o => (cells9 ((World.grownBy_alloc w4 o none).heap q (by simp))).2.1)
  have HR42 : Hid (∀ w4 : World, w4.heap[n]? = some (.cells #[.string l, .int .u64 x.v, .string x.o, .string x.r, .int .i64 x.h, .string x.p, .int .i64 i, .slice ca 35 cc, .slice pa h pc] 39 (0, 0)) → ∀ o : Obj, (w4.alloc o).cell? ⟨n, 2, none⟩ = some (.string x.o)) := Lib.hid (fun w4 q o => (cells9 ((World.grownBy_alloc w4 o none).heap q (by simp))).2.2.1)
  have HR43 : Hid (∀ w4 : World, w4.heap[n]? = some (.cells #[.string l, .int .u64 x.v, .string x.o, .string x.r, .int .i64 x.h, .string x.p, .int .i64 i, .slice ca 35 cc, .slice pa h pc] 39 (0, 0)) → ∀ o : Obj, (w4.alloc o).cell? ⟨n, 3, none⟩ = some (.string x.r)) := Lib.hid (fun w4 q o => (cells9 ((World.grownBy_alloc w4 o none).heap q (by simp))).2.2.2.1)
  have HR44 : Hid (∀ w4 : World, w4.heap[n]? = some (.cells #[.string l, .int .u64 x.v, .string x.o, .string x.r, .int .i64 x.h, .string x.p, .int .i64 i, .slice ca 35 cc, .slice pa h pc] 39 (0, 0)) → ∀ o : Obj, (w4.alloc o).cell? ⟨n, 4, none⟩ = some (.int .i64 x.h)) := Lib.hid (fun w4 q o => (cells9 ((World.grownBy_alloc w4 o none).heap q (by simp))).2.2.2.2.1)
  have HR45 : Hid (∀ w4 : World, w4.heap[n]? = some (.cells #[.string l, .int .u64 x.v, .string x.o, .string x.r, .int .i64 x.h, .string x.p, .int .i64 i, .slice ca 35 cc, .slice pa h pc] 39 (0, 0)) → ∀ o : Obj, (w4.alloc o).cell? ⟨n, 5, none⟩ = some (.string x.p)) := Lib.hid (fun w4 q o => (cells9 ((World.grownBy_alloc w4 o none).heap q (by simp))).2.2.2.2.2.1)
  have HSET : Hid (∀ (wa : World) (kb : Nat), n + 1 < kb → (w.grownBy wa none ∧ wa.heap[n]? = some (.cells #[.string l, .int .u64 x.v, .string x.o, .string x.r, .int .i64 x.h, .string x.p, .int .i64 i, .slice ca 35 cc, .slice pa h pc] 39 (0, 0)) ∧ wa.heap[n + 1]? = some (.cells #[.int .u64 y.v, .string y.o, .string y.r, .int .i64 y.h, .string y.p] 34 (0, 0))) → wa.heap[kb]? = some (.cells #[.string ⟨#[]⟩, .string ⟨#[]⟩, .int .i64 0] 31 (0, 0)) → Hid ((w.grownBy (((wa.setCell ⟨kb, 0, none⟩ (.string x.o)).setCell ⟨kb, 1, none⟩ (.string x.r)).setCell ⟨kb, 2, none⟩ (.int .i64 x.h)) none ∧ (((wa.setCell ⟨kb, 0, none⟩ (.string x.o)).setCell ⟨kb, 1, none⟩ (.string x.r)).setCell ⟨kb, 2, none⟩ (.int .i64 x.h)).heap[n]? = some (.cells #[.string l, .int .u64 x.v, .string x.o, .string x.r, .int .i64 x.h, .string x.p, .int .i64 i, .slice ca 35 cc, .slice pa h pc] 39 (0, 0)) ∧ (((wa.setCell ⟨kb, 0, none⟩ (.string x.o)).setCell ⟨kb, 1, none⟩ (.string x.r)).setCell ⟨kb, 2, none⟩ (.int .i64 x.h)).heap[n + 1]? = some (.cells #[.int .u64 y.v, .string y.o, .string y.r, .int .i64 y.h, .string y.p] 34 (0, 0))) ∧ (((wa.setCell ⟨kb, 0, none⟩ (.string x.o)).setCell ⟨kb, 1, none⟩ (.string x.r)).setCell ⟨kb, 2, none⟩ (.int .i64 x.h)).heap[kb]? = some (.cells #[.string x.o, .string x.r, .int .i64 x.h] 31 (0, 0)))) := Lib.hid (fun wa kb hk q q2 => Lib.hid ⟨⟨grown_row q.1 (grownG wa kb _ _ _) (fun g e => by have e2 : kb = g := Option.some.inj e; have := HN.out; omega), (grownG wa kb _ _ _).heap q.2.1 (fun e => by have e2 : kb = n := Option.some.inj e; omega), (grownG wa kb _ _ _).heap q.2.2 (fun e => by have e2 : kb = n + 1 := Option.some.inj e; omega)⟩, heapG q2 _ _ _⟩)
  have HNL : Hid (n + 1 < w3.heap.size) := Lib.hid (Array.getElem?_eq_some_iff.1 S3.out.2.2).1
  go_upto_region 7 with (fail)
  go_cut [10, 11] (fun kv ev wx => ∃ kb, kv = .pointer (some ⟨kb, 0, none⟩) ∧ ev = .int .i64 z ∧ Hid ((w.grownBy wx none ∧ wx.heap[n]? = some (.cells #[.string l, .int .u64 x.v, .string x.o, .string x.r, .int .i64 x.h, .string x.p, .int .i64 i, .slice ca 35 cc, .slice pa h pc] 39 (0, 0)) ∧ wx.heap[n + 1]? = some (.cells #[.int .u64 y.v, .string y.o, .string y.r, .int .i64 y.h, .string y.p] 34 (0, 0))) ∧ wx.heap[kb]? = some (.cells #[.string x.o, .string x.r, .int .i64 x.h] 31 (0, 0))))
  case first =>
    go_region_with (first
      | (go_at_call 77; (with_reducible refine CA.out.mono ?_); rintro e w4 ⟨rfl, hs4⟩; have S4 := Lib.hid hs4; clear hs4; obtain ⟨p0, p1, p2, p3, p4, p5, p6, p7, p8⟩ := cells9 S4.out.2.1; have hn4 : n < w4.heap.size := (Array.getElem?_eq_some_iff.1 S4.out.2.1).1; have nf1 : n ≠ w4.heap.size := Nat.ne_of_lt hn4; have nf2 : w4.heap.size ≠ n := Nat.ne_of_gt hn4; have r1 := HR4.out w4 S4.out.2.1; have r2 := HR42.out w4 S4.out.2.1; have r3 := HR43.out w4 S4.out.2.1; have r4 := HR44.out w4 S4.out.2.1; have r5 := HR45.out w4 S4.out.2.1)
      | (go_at_call 77; (with_reducible refine CB.out.mono ?_); rintro e w4 ⟨rfl, hs4, hk4⟩; have S4 := Lib.hid hs4; have K4 := Lib.hid hk4; clear hs4 hk4; obtain ⟨p0, p1, p2, p3, p4, p5, p6, p7, p8⟩ := cells9 S4.out.2.1; obtain ⟨q0, q1, q2⟩ := sig_cells K4.out; have uf : ∀ j, w4.frozen? ⟨w3.heap.size, j, none⟩ = false := fun j => free_of K4.out j)
      | (go_at_call 77; (with_reducible refine CC.out.mono ?_); rintro e w4 ⟨rfl, hs4, hk4⟩; have S4 := Lib.hid hs4; have K4 := Lib.hid hk4; clear hs4 hk4; obtain ⟨p0, p1, p2, p3, p4, p5, p6, p7, p8⟩ := cells9 S4.out.2.1; obtain ⟨q0, q1, q2⟩ := sig_cells K4.out; have uf : ∀ j, w4.frozen? ⟨w3.heap.size + 1, j, none⟩ = false := fun j => free_of K4.out j))
    all_goals
      go_wp2_with fail
      go_meet
      case rel =>
        first
        | exact ⟨_, rfl, rfl, HSET.out _ _ HNL.out S4.out K4.out⟩
        | exact ⟨_, rfl, rfl, HSET.out _ _ (Nat.lt_succ_of_lt HNL.out) S4.out K4.out⟩
        | exact ⟨_, rfl, rfl, Lib.hid ⟨HSTEP.out _ _ (World.grownBy_alloc _ _ none) S4.out, heap_alloc_at _ _ _ rfl⟩⟩
  case rest =>
    rename World => wx
    obtain ⟨kb, rfl, rfl, HK⟩ := hcut
    have HKS : Hid (∀ wa wb : World, wa.grownBy wb none → (w.grownBy wa none ∧ wa.heap[n]? = some (.cells #[.string l, .int .u64 x.v, .string x.o, .string x.r, .int .i64 x.h, .string x.p, .int .i64 i, .slice ca 35 cc, .slice pa h pc] 39 (0, 0)) ∧ wa.heap[n + 1]? = some (.cells #[.int .u64 y.v, .string y.o, .string y.r, .int .i64 y.h, .string y.p] 34 (0, 0))) ∧ wa.heap[kb]? = some (.cells #[.string x.o, .string x.r, .int .i64 x.h] 31 (0, 0)) → (w.grownBy wb none ∧ wb.heap[n]? = some (.cells #[.string l, .int .u64 x.v, .string x.o, .string x.r, .int .i64 x.h, .string x.p, .int .i64 i, .slice ca 35 cc, .slice pa h pc] 39 (0, 0)) ∧ wb.heap[n + 1]? = some (.cells #[.int .u64 y.v, .string y.o, .string y.r, .int .i64 y.h, .string y.p] 34 (0, 0))) ∧ wb.heap[kb]? = some (.cells #[.string x.o, .string x.r, .int .i64 x.h] 31 (0, 0))) := Lib.hid (fun wa wb g q => ⟨HSTEP.out _ _ g q.1, g.heap q.2 (by simp)⟩)
    clear u0 u1 u2 u3 u4 u5 u6 u7 u8 v1 v2 v3 v4 v5 t1 t2 t3 t4 t5 ne1 ne2 ne3 ne4 hnl CA CB CC HSET HR4 HR42 HR43 HR44 HR45 S3
    by_cases hz : z = 0
    · subst hz
      have HVV := Lib.hid (HV.out rfl)
      clear HV
      obtain ⟨u0, u1, u2, u3, u4, u5, u6, u7, u8⟩ := cells9 HK.out.1.2.1
      obtain ⟨k0, k1, k2⟩ := sig_cells HK.out.2
      go_wp2_with fail
      have HPK : Hid (∀ w' : World, ((w.grownBy w' none ∧ w'.heap[n]? = some (.cells #[.string l, .int .u64 x.v, .string x.o, .string x.r, .int .i64 x.h, .string x.p, .int .i64 i, .slice ca 35 cc, .slice pa h pc] 39 (0, 0)) ∧ w'.heap[n + 1]? = some (.cells #[.int .u64 y.v, .string y.o, .string y.r, .int .i64 y.h, .string y.p] 34 (0, 0))) ∧ w'.heap[kb]? = some (.cells #[.string x.o, .string x.r, .int .i64 x.h] 31 (0, 0))) → (w'.cell? ⟨n, 0, none⟩ = some (.string l) ∧ w'.cell? ⟨n, 1, none⟩ = some (.int .u64 x.v) ∧ w'.cell? ⟨n, 2, none⟩ = some (.string x.o) ∧ w'.cell? ⟨n, 3, none⟩ = some (.string x.r) ∧ w'.cell? ⟨n, 4, none⟩ = some (.int .i64 x.h) ∧ w'.cell? ⟨n, 5, none⟩ = some (.string x.p) ∧ w'.cell? ⟨n, 6, none⟩ = some (.int .i64 i) ∧ w'.cell? ⟨n, 7, none⟩ = some (.slice ca 35 cc) ∧ w'.cell? ⟨n, 8, none⟩ = some (.slice pa h pc) ∧ w'.cell? ⟨kb, 0, none⟩ = some (.string x.o) ∧ w'.cell? ⟨kb, 1, none⟩ = some (.string x.r) ∧ w'.cell? ⟨kb, 2, none⟩ = some (.int .i64 x.h))) := Lib.hid (fun w' KQ => let q := cells9 KQ.1.2.1; let p := sig_cells KQ.2; ⟨q.1, q.2.1, q.2.2.1, q.2.2.2.1, q.2.2.2.2.1, q.2.2.2.2.2.1, q.2.2.2.2.2.2.1, q.2.2.2.2.2.2.2.1, q.2.2.2.2.2.2.2.2, p.1, p.2.1, p.2.2⟩)
      have HM2 := HMS.out wx (HR.out.grown HK.out.1.1)
      have HMD : Hid (∀ wq : World, ((w.grownBy wq none ∧ wq.heap[n]? = some (.cells #[.string l, .int .u64 x.v, .string x.o, .string x.r, .int .i64 x.h, .string x.p, .int .i64 i, .slice ca 35 cc, .slice pa h pc] 39 (0, 0)) ∧ wq.heap[n + 1]? = some (.cells #[.int .u64 y.v, .string y.o, .string y.r, .int .i64 y.h, .string y.p] 34 (0, 0))) ∧ wq.heap[kb]? = some (.cells #[.string x.o, .string x.r, .int .i64 x.h] 31 (0, 0))) → Calls Tryz.prog 9 #[.string l, .agg #[.int .u64 x.v, .string x.o, .string x.r, .int .i64 x.h, .string x.p]] wq fun e w' => e = .returned (.string m) ∧ ((w.grownBy w' none ∧ w'.heap[n]? = some (.cells #[.string l, .int .u64 x.v, .string x.o, .string x.r, .int .i64 x.h, .string x.p, .int .i64 i, .slice ca 35 cc, .slice pa h pc] 39 (0, 0)) ∧ w'.heap[n + 1]? = some (.cells #[.int .u64 y.v, .string y.o, .string y.r, .int .i64 y.h, .string y.p] 34 (0, 0))) ∧ w'.heap[kb]? = some (.cells #[.string x.o, .string x.r, .int .i64 x.h] 31 (0, 0)))) := Lib.hid (fun wq q => (HMS.out wq (HR.out.grown q.1.1)).mono (by rintro e w' ⟨rfl, g⟩; exact ⟨rfl, HKS.out _ _ g q⟩))
      have HVD : Hid (∀ wq : World, ((w.grownBy wq none ∧ wq.heap[n]? = some (.cells #[.string l, .int .u64 x.v, .string x.o, .string x.r, .int .i64 x.h, .string x.p, .int .i64 i, .slice ca 35 cc, .slice pa h pc] 39 (0, 0)) ∧ wq.heap[n + 1]? = some (.cells #[.int .u64 y.v, .string y.o, .string y.r, .int .i64 y.h, .string y.p] 34 (0, 0))) ∧ wq.heap[kb]? = some (.cells #[.string x.o, .string x.r, .int .i64 x.h] 31 (0, 0))) → Calls Tryz.prog 12 #[.agg #[.string x.o, .string x.r, .int .i64 x.h], .string m, .agg #[.int .i64 i, .slice ca 35 cc, .slice pa h pc]] wq fun e w' => e = .returned (.bool res) ∧ ((w.grownBy w' none ∧ w'.heap[n]? = some (.cells #[.string l, .int .u64 x.v, .string x.o, .string x.r, .int .i64 x.h, .string x.p, .int .i64 i, .slice ca 35 cc, .slice pa h pc] 39 (0, 0)) ∧ w'.heap[n + 1]? = some (.cells #[.int .u64 y.v, .string y.o, .string y.r, .int .i64 y.h, .string y.p] 34 (0, 0))) ∧ w'.heap[kb]? = some (.cells #[.string x.o, .string x.r, .int .i64 x.h] 31 (0, 0)))) := Lib.hid (fun wq q => (HVV.out wq q.1.1).mono (by rintro e w' ⟨rfl, g⟩; exact ⟨rfl, HKS.out _ _ g q⟩))
      have HKD : Hid (((w.grownBy wx.drew none ∧ wx.drew.heap[n]? = some (.cells #[.string l, .int .u64 x.v, .string x.o, .string x.r, .int .i64 x.h, .string x.p, .int .i64 i, .slice ca 35 cc, .slice pa h pc] 39 (0, 0)) ∧ wx.drew.heap[n + 1]? = some (.cells #[.int .u64 y.v, .string y.o, .string y.r, .int .i64 y.h, .string y.p] 34 (0, 0))) ∧ wx.drew.heap[kb]? = some (.cells #[.string x.o, .string x.r, .int .i64 x.h] 31 (0, 0)))) := Lib.hid (HKS.out _ _ (grownBy_drew (World.grownBy.refl _ _)) HK.out)
      clear HM2 HMS HVV u0 u1 u2 u3 u4 u5 u6 u7 u8 k0 k1 k2
      have ck := HPK.out _ HKD.out
      have HANS2 : Hid ((if res then (0 : Int) else 12) = ans) := Lib.hid (by rw [← HANS.out]; rfl)
      clear HANS
      go_region_held3 (fun w' => w'.cell? ⟨n, 0, none⟩ = some (.string l) ∧ w'.cell? ⟨n, 1, none⟩ = some (.int .u64 x.v) ∧ w'.cell? ⟨n, 2, none⟩ = some (.string x.o) ∧ w'.cell? ⟨n, 3, none⟩ = some (.string x.r) ∧ w'.cell? ⟨n, 4, none⟩ = some (.int .i64 x.h) ∧ w'.cell? ⟨n, 5, none⟩ = some (.string x.p) ∧ w'.cell? ⟨n, 6, none⟩ = some (.int .i64 i) ∧ w'.cell? ⟨n, 7, none⟩ = some (.slice ca 35 cc) ∧ w'.cell? ⟨n, 8, none⟩ = some (.slice pa h pc) ∧ w'.cell? ⟨kb, 0, none⟩ = some (.string x.o) ∧ w'.cell? ⟨kb, 1, none⟩ = some (.string x.r) ∧ w'.cell? ⟨kb, 2, none⟩ = some (.int .i64 x.h)) (first | with_reducible exact ck | exact ck)
        (first
          | (go_at_call 9; (with_reducible refine (HMD.out _ HKD.out).mono ?_); rintro e w6 ⟨rfl, hk6⟩; have K6 := Lib.hid hk6; clear hk6; have ck := HPK.out _ K6.out)
          | (go_at_call 12; (with_reducible refine (HVD.out _ K6.out).mono ?_); rintro e w7 ⟨rfl, hk7⟩; have K7 := Lib.hid hk7; clear hk7; have ck := HPK.out _ K7.out))
      cases res
      · obtain rfl : 12 = ans := HANS2.out
        go_wp2_with fail
        go_ret
        exact ⟨rfl, K7.out.1.1⟩
      · obtain rfl : 0 = ans := HANS2.out
        go_wp2_with fail
        go_ret
        exact ⟨rfl, K7.out.1.1⟩
    · have hzb : (z != 0) = true := by simp [hz]
      have hans : z = ans := by rw [← HANS.out, if_pos hz]
      subst hans
      clear hz
      go_wp2_with fail
      go_ret
      exact ⟨rfl, HK.out.1.1⟩
end Go.Proofs.YtemndmhdlgfajaaGreatDoor
