/- The walk of policy's Sign. -/
import Derived.Test.YtemndmhdlgfajaaGreatDoorPolD
import Derived.Test.YtemndmhdlgfajaaGreatDoorPolicyCodesB5
import Derived.Test.YtemndmhdlgfajaaGreatDoorXmssC
import Derived.Handy
import Derived.Deep.DeepCutAuto
namespace Go.Proofs.YtemndmhdlgfajaaGreatDoor
open Go.RowKit
attribute [local irreducible] shaL

theorem own_ne {a : Option Addr} {k c B m : Nat} (h : ∀ y, (Value.slice a k c).ownBlock = some y → B ≤ y) (hB : m < B) : ∀ g o, a = some ⟨g, o, none⟩ → some m ≠ some g := fun g o e q => by
  subst e
  have := h g rfl
  have := Option.some.inj q
  omega
set_option maxRecDepth 100000 in
set_option maxHeartbeats 3200000 in
theorem psign_bad (b : Nat) (seed l : ByteArray) (x : EntS) (h : Nat) (i : Int) (he : x.err ≠ 0) (hx : x.small) (w : World) (hr : ShaReady w) (hk : KeyAt w b seed h) :
    Calls Tryz.prog 8 #[.pointer (some ⟨b, 0, none⟩), .int .i64 i, .string l, x.val] w fun e w' => e = .returned (.tuple #[updZ, .int .i64 x.err]) ∧ w.grownBy w' none := by
  have HR := Lib.hid hr
  have HK := Lib.hid hk
  obtain ⟨n, hn⟩ : ∃ n, w.heap.size = n := ⟨_, rfl⟩
  have hb0 := heap_alloc_at w (.cells #[.int .u64 x.v, .string x.o, .string x.r, .int .i64 x.h, .string x.p] 34) n hn
  have hg0 : w.grownBy (w.alloc (.cells #[.int .u64 x.v, .string x.o, .string x.r, .int .i64 x.h, .string x.p] 34)) none := World.grownBy_alloc _ _ _
  obtain ⟨W0, hW0⟩ : ∃ W0, w.alloc (.cells #[.int .u64 x.v, .string x.o, .string x.r, .int .i64 x.h, .string x.p] 34) = W0 := ⟨_, rfl⟩
  rw [hW0] at hb0 hg0
  have hz0 : W0.heap.size = n + 1 := by rw [← hW0, World.size_alloc, hn]
  have hb1 := heap_alloc_at W0 (.cells #[.string ⟨#[]⟩, .int .u64 0, .string ⟨#[]⟩, .string ⟨#[]⟩, .int .i64 0, .string ⟨#[]⟩, .int .i64 0, .slice none 0 0, .slice none 0 0] 39) (n + 1) hz0
  have hg1 : W0.grownBy (W0.alloc (.cells #[.string ⟨#[]⟩, .int .u64 0, .string ⟨#[]⟩, .string ⟨#[]⟩, .int .i64 0, .string ⟨#[]⟩, .int .i64 0, .slice none 0 0, .slice none 0 0] 39)) none := World.grownBy_alloc _ _ _
  obtain ⟨W1, hW1⟩ : ∃ W1, W0.alloc (.cells #[.string ⟨#[]⟩, .int .u64 0, .string ⟨#[]⟩, .string ⟨#[]⟩, .int .i64 0, .string ⟨#[]⟩, .int .i64 0, .slice none 0 0, .slice none 0 0] 39) = W1 := ⟨_, rfl⟩
  rw [hW1] at hb1 hg1
  have S1 : Hid (w.grownBy W1 none ∧ W1.heap[n]? = some (.cells #[.int .u64 x.v, .string x.o, .string x.r, .int .i64 x.h, .string x.p] 34 (0, 0)) ∧ W1.heap[n + 1]? = some (.cells #[.string ⟨#[]⟩, .int .u64 0, .string ⟨#[]⟩, .string ⟨#[]⟩, .int .i64 0, .string ⟨#[]⟩, .int .i64 0, .slice none 0 0, .slice none 0 0] 39 (0, 0))) := Lib.hid ⟨grownBy_trans hg0 hg1, hg1.heap hb0 (by simp), hb1⟩
  have HSTEP : Hid (∀ (wa wb : World), wa.grownBy wb none → w.grownBy wa none ∧ wa.heap[n]? = some (.cells #[.int .u64 x.v, .string x.o, .string x.r, .int .i64 x.h, .string x.p] 34 (0, 0)) ∧ wa.heap[n + 1]? = some (.cells #[.string ⟨#[]⟩, .int .u64 0, .string ⟨#[]⟩, .string ⟨#[]⟩, .int .i64 0, .string ⟨#[]⟩, .int .i64 0, .slice none 0 0, .slice none 0 0] 39 (0, 0)) → w.grownBy wb none ∧ wb.heap[n]? = some (.cells #[.int .u64 x.v, .string x.o, .string x.r, .int .i64 x.h, .string x.p] 34 (0, 0)) ∧ wb.heap[n + 1]? = some (.cells #[.string ⟨#[]⟩, .int .u64 0, .string ⟨#[]⟩, .string ⟨#[]⟩, .int .i64 0, .string ⟨#[]⟩, .int .i64 0, .slice none 0 0, .slice none 0 0] 39 (0, 0))) := Lib.hid (fun wa wb g q => ⟨grownBy_trans q.1 g, g.heap q.2.1 (by simp), g.heap q.2.2 (by simp)⟩)
  have HZERO : Hid (∀ (w' : World) (v0 v1 v2 v3 v4 v5 v6 v7 v8 : Value), w.grownBy w' none → w.grownBy (((((((((w'.setCell ⟨n + 1, 0, none⟩ v0).setCell ⟨n + 1, 1, none⟩ v1).setCell ⟨n + 1, 2, none⟩ v2).setCell ⟨n + 1, 3, none⟩ v3).setCell ⟨n + 1, 4, none⟩ v4).setCell ⟨n + 1, 5, none⟩ v5).setCell ⟨n + 1, 6, none⟩ v6).setCell ⟨n + 1, 7, none⟩ v7).setCell ⟨n + 1, 8, none⟩ v8) none) := Lib.hid (fun w' v0 v1 v2 v3 v4 v5 v6 v7 v8 q => grown_row q (grown9 w' (n + 1) v0 v1 v2 v3 v4 v5 v6 v7 v8) (fun y e => by have e2 : n + 1 = y := Option.some.inj e; omega))
  have HW0 := Lib.hid hW0
  have HW1 := Lib.hid hW1
  have HN := Lib.hid hn
  have HZ0 := Lib.hid hz0
  have HEN := Lib.hid (fun w' => eencode_any x hx w')
  obtain ⟨y0, y1, y2, y3, y4⟩ := cells5 S1.out.2.1
  generalize x.err = z at HEN he ⊢
  have hz : (z != 0) = true := by simp [he]
  clear hx he
  unfold EntS.val at HEN ⊢
  clear hb0 hg0 hb1 hg1 hW0 hW1 hn hz0 hr hk
  go_enter Tryz.func8, Tryz.ntmps8
  go_wp2_with (first | rw [HW0.out, HZ0.out] | rw [HW0.out, HN.out] | rw [HW1.out, HZ0.out] | rw [HW1.out] | rw [HW0.out])
  refine (HEN.out _).mono ?_
  rintro e w2 ⟨rfl, g2⟩
  have S2 := Lib.hid (HSTEP.out _ _ g2 S1.out)
  clear g2 y0 y1 y2 y3 y4 HEN
  obtain ⟨u0, u1, u2, u3, u4, u5, u6, u7, u8⟩ := cells9 S2.out.2.2
  have uf : ∀ j, w2.frozen? ⟨n + 1, j, none⟩ = false := fun j => free_of S2.out.2.2 j
  go_wp2_with fail
  refine bodyPost_ret (results_psign (n := n + 1) (v0 := .string ⟨#[]⟩) (v1 := .int .u64 0) (v2 := .string ⟨#[]⟩) (v3 := .string ⟨#[]⟩) (v4 := .int .i64 0) (v5 := .string ⟨#[]⟩) (v6 := .int .i64 0) (v7 := .slice none 0 0) (v8 := .slice none 0 0) rfl rfl (heap9 S2.out.2.2 _ _ _ _ _ _ _ _ _)) rfl ?_
  exact ⟨rfl, HZERO.out _ _ _ _ _ _ _ _ _ _ S2.out.1⟩
set_option maxRecDepth 100000 in
set_option maxHeartbeats 3200000 in
theorem psign_spent (b : Nat) (seed l : ByteArray) (x : EntS) (h : Nat) (i : Int) (hi : ((2 ^ h : Nat) : Int) ≤ i) (hl : l.size ≤ 1000000000) (he : x.err = 0) (hx : x.small) (w : World) (hr : ShaReady w) (hk : KeyAt w b seed h) :
    Calls Tryz.prog 8 #[.pointer (some ⟨b, 0, none⟩), .int .i64 i, .string l, x.val] w fun e w' => e = .returned (.tuple #[updZ, .int .i64 11]) ∧ w.grownBy w' none := by
  have HR := Lib.hid hr
  have HK := Lib.hid hk
  obtain ⟨n, hn⟩ : ∃ n, w.heap.size = n := ⟨_, rfl⟩
  have hb0 := heap_alloc_at w (.cells #[.int .u64 x.v, .string x.o, .string x.r, .int .i64 x.h, .string x.p] 34) n hn
  have hg0 : w.grownBy (w.alloc (.cells #[.int .u64 x.v, .string x.o, .string x.r, .int .i64 x.h, .string x.p] 34)) none := World.grownBy_alloc _ _ _
  obtain ⟨W0, hW0⟩ : ∃ W0, w.alloc (.cells #[.int .u64 x.v, .string x.o, .string x.r, .int .i64 x.h, .string x.p] 34) = W0 := ⟨_, rfl⟩
  rw [hW0] at hb0 hg0
  have hz0 : W0.heap.size = n + 1 := by rw [← hW0, World.size_alloc, hn]
  have hb1 := heap_alloc_at W0 (.cells #[.string ⟨#[]⟩, .int .u64 0, .string ⟨#[]⟩, .string ⟨#[]⟩, .int .i64 0, .string ⟨#[]⟩, .int .i64 0, .slice none 0 0, .slice none 0 0] 39) (n + 1) hz0
  have hg1 : W0.grownBy (W0.alloc (.cells #[.string ⟨#[]⟩, .int .u64 0, .string ⟨#[]⟩, .string ⟨#[]⟩, .int .i64 0, .string ⟨#[]⟩, .int .i64 0, .slice none 0 0, .slice none 0 0] 39)) none := World.grownBy_alloc _ _ _
  obtain ⟨W1, hW1⟩ : ∃ W1, W0.alloc (.cells #[.string ⟨#[]⟩, .int .u64 0, .string ⟨#[]⟩, .string ⟨#[]⟩, .int .i64 0, .string ⟨#[]⟩, .int .i64 0, .slice none 0 0, .slice none 0 0] 39) = W1 := ⟨_, rfl⟩
  rw [hW1] at hb1 hg1
  have S1 : Hid (w.grownBy W1 none ∧ W1.heap[n]? = some (.cells #[.int .u64 x.v, .string x.o, .string x.r, .int .i64 x.h, .string x.p] 34 (0, 0)) ∧ W1.heap[n + 1]? = some (.cells #[.string ⟨#[]⟩, .int .u64 0, .string ⟨#[]⟩, .string ⟨#[]⟩, .int .i64 0, .string ⟨#[]⟩, .int .i64 0, .slice none 0 0, .slice none 0 0] 39 (0, 0))) := Lib.hid ⟨grownBy_trans hg0 hg1, hg1.heap hb0 (by simp), hb1⟩
  have HSTEP : Hid (∀ (wa wb : World), wa.grownBy wb none → w.grownBy wa none ∧ wa.heap[n]? = some (.cells #[.int .u64 x.v, .string x.o, .string x.r, .int .i64 x.h, .string x.p] 34 (0, 0)) ∧ wa.heap[n + 1]? = some (.cells #[.string ⟨#[]⟩, .int .u64 0, .string ⟨#[]⟩, .string ⟨#[]⟩, .int .i64 0, .string ⟨#[]⟩, .int .i64 0, .slice none 0 0, .slice none 0 0] 39 (0, 0)) → w.grownBy wb none ∧ wb.heap[n]? = some (.cells #[.int .u64 x.v, .string x.o, .string x.r, .int .i64 x.h, .string x.p] 34 (0, 0)) ∧ wb.heap[n + 1]? = some (.cells #[.string ⟨#[]⟩, .int .u64 0, .string ⟨#[]⟩, .string ⟨#[]⟩, .int .i64 0, .string ⟨#[]⟩, .int .i64 0, .slice none 0 0, .slice none 0 0] 39 (0, 0))) := Lib.hid (fun wa wb g q => ⟨grownBy_trans q.1 g, g.heap q.2.1 (by simp), g.heap q.2.2 (by simp)⟩)
  have HZERO : Hid (∀ (w' : World) (v0 v1 v2 v3 v4 v5 v6 v7 v8 : Value), w.grownBy w' none → w.grownBy (((((((((w'.setCell ⟨n + 1, 0, none⟩ v0).setCell ⟨n + 1, 1, none⟩ v1).setCell ⟨n + 1, 2, none⟩ v2).setCell ⟨n + 1, 3, none⟩ v3).setCell ⟨n + 1, 4, none⟩ v4).setCell ⟨n + 1, 5, none⟩ v5).setCell ⟨n + 1, 6, none⟩ v6).setCell ⟨n + 1, 7, none⟩ v7).setCell ⟨n + 1, 8, none⟩ v8) none) := Lib.hid (fun w' v0 v1 v2 v3 v4 v5 v6 v7 v8 q => grown_row q (grown9 w' (n + 1) v0 v1 v2 v3 v4 v5 v6 v7 v8) (fun y e => by have e2 : n + 1 = y := Option.some.inj e; omega))
  have HW0 := Lib.hid hW0
  have HW1 := Lib.hid hW1
  have HN := Lib.hid hn
  have HZ0 := Lib.hid hz0
  have HEN := Lib.hid (fun w' => eencode_any x hx w')
  obtain ⟨y0, y1, y2, y3, y4⟩ := cells5 S1.out.2.1
  rw [he] at HEN
  generalize x.enc = xe at HEN
  have HMS := Lib.hid (fun w' q => message_any l x hl hx w' q)
  have HX := Lib.hid hx
  clear he hx
  have HL := Lib.hid hl
  clear hl
  have hmz := msgS_size l x
  generalize msgS l x = m at HMS hmz ⊢
  unfold EntS.val at HMS
  have HI := Lib.hid hi
  clear hi hmz
  unfold EntS.val at HEN ⊢
  clear hb0 hg0 hb1 hg1 hW0 hW1 hn hz0 hr hk
  go_enter Tryz.func8, Tryz.ntmps8
  go_wp2_with (first | rw [HW0.out, HZ0.out] | rw [HW0.out, HN.out] | rw [HW1.out, HZ0.out] | rw [HW1.out] | rw [HW0.out])
  refine (HEN.out _).mono ?_
  rintro e w2 ⟨rfl, g2⟩
  have S2 := Lib.hid (HSTEP.out _ _ g2 S1.out)
  clear g2 y0 y1 y2 y3 y4 HEN
  obtain ⟨y0, y1, y2, y3, y4⟩ := cells5 S2.out.2.1
  go_wp2_with fail
  refine (HMS.out w2 (HR.out.grown S2.out.1)).mono ?_
  rintro e w3 ⟨rfl, g3⟩
  have S3 := Lib.hid (HSTEP.out _ _ g3 S2.out)
  clear g3 y0 y1 y2 y3 y4 HMS
  go_wp2_with fail
  refine (xsign_spent b seed m h i HI.out w3 (HK.out.grown S3.out.1)).mono ?_
  rintro e w4 ⟨rfl, g4⟩
  have S4 := Lib.hid (HSTEP.out _ _ g4 S3.out)
  clear g4
  unfold sigZ sigV
  have HA4 : Hid (∀ o, w.grownBy (w4.alloc o) none ∧ (w4.alloc o).heap[n + 1]? = some (.cells #[.string ⟨#[]⟩, .int .u64 0, .string ⟨#[]⟩, .string ⟨#[]⟩, .int .i64 0, .string ⟨#[]⟩, .int .i64 0, .slice none 0 0, .slice none 0 0] 39 (0, 0))) := Lib.hid (fun o => ⟨grownBy_alloc' S4.out.1 _, (World.grownBy_alloc w4 o none).heap S4.out.2.2 (by simp)⟩)
  have uf : ∀ o j, (w4.alloc o).frozen? ⟨n + 1, j, none⟩ = false := fun o j => free_of (HA4.out o).2 j
  have u0 := fun o => (cells9 (HA4.out o).2).1
  have u1 := fun o => (cells9 (HA4.out o).2).2.1
  have u2 := fun o => (cells9 (HA4.out o).2).2.2.1
  have u3 := fun o => (cells9 (HA4.out o).2).2.2.2.1
  have u4 := fun o => (cells9 (HA4.out o).2).2.2.2.2.1
  have u5 := fun o => (cells9 (HA4.out o).2).2.2.2.2.2.1
  have u6 := fun o => (cells9 (HA4.out o).2).2.2.2.2.2.2.1
  have u7 := fun o => (cells9 (HA4.out o).2).2.2.2.2.2.2.2.1
  have u8 := fun o => (cells9 (HA4.out o).2).2.2.2.2.2.2.2.2
  go_wp2_with fail
  refine bodyPost_ret (results_psign (n := n + 1) (v0 := .string ⟨#[]⟩) (v1 := .int .u64 0) (v2 := .string ⟨#[]⟩) (v3 := .string ⟨#[]⟩) (v4 := .int .i64 0) (v5 := .string ⟨#[]⟩) (v6 := .int .i64 0) (v7 := .slice none 0 0) (v8 := .slice none 0 0) rfl rfl (heap9 (HA4.out _).2 _ _ _ _ _ _ _ _ _)) rfl ?_
  exact ⟨rfl, HZERO.out _ _ _ _ _ _ _ _ _ _ (HA4.out _).1⟩
set_option maxRecDepth 100000 in
set_option maxHeartbeats 3200000 in
theorem psign_fine (b : Nat) (seed l : ByteArray) (x : EntS) (h : Nat) (i : Nat) (hh : h ≤ 6) (hi : i < 2 ^ h) (hs : seed.size ≤ 1000000000000) (hl : l.size ≤ 1000000000) (he : x.err = 0) (hx : x.small) (w : World) (hr : ShaReady w) (hk : KeyAt w b seed h) :
    Calls Tryz.prog 8 #[.pointer (some ⟨b, 0, none⟩), .int .i64 i, .string l, x.val] w fun e w' => ∃ ca cc pa pc, e = .returned (.tuple #[updV l x i (.slice ca 35 cc) (.slice pa h pc), .int .i64 0]) ∧ StrsAt w' (.slice ca 35 cc) (chainsS seed i (msgS l x)) ∧ StrsAt w' (.slice pa h pc) (pathS h (leavesS seed h) i) ∧ (∀ y, (Value.slice ca 35 cc).ownBlock = some y → w.heap.size ≤ y) ∧ (∀ y, (Value.slice pa h pc).ownBlock = some y → w.heap.size ≤ y) ∧ w.grownBy w' none := by
  have HR := Lib.hid hr
  have HK := Lib.hid hk
  obtain ⟨n, hn⟩ : ∃ n, w.heap.size = n := ⟨_, rfl⟩
  have hb0 := heap_alloc_at w (.cells #[.int .u64 x.v, .string x.o, .string x.r, .int .i64 x.h, .string x.p] 34) n hn
  have hg0 : w.grownBy (w.alloc (.cells #[.int .u64 x.v, .string x.o, .string x.r, .int .i64 x.h, .string x.p] 34)) none := World.grownBy_alloc _ _ _
  obtain ⟨W0, hW0⟩ : ∃ W0, w.alloc (.cells #[.int .u64 x.v, .string x.o, .string x.r, .int .i64 x.h, .string x.p] 34) = W0 := ⟨_, rfl⟩
  rw [hW0] at hb0 hg0
  have hz0 : W0.heap.size = n + 1 := by rw [← hW0, World.size_alloc, hn]
  have hb1 := heap_alloc_at W0 (.cells #[.string ⟨#[]⟩, .int .u64 0, .string ⟨#[]⟩, .string ⟨#[]⟩, .int .i64 0, .string ⟨#[]⟩, .int .i64 0, .slice none 0 0, .slice none 0 0] 39) (n + 1) hz0
  have hg1 : W0.grownBy (W0.alloc (.cells #[.string ⟨#[]⟩, .int .u64 0, .string ⟨#[]⟩, .string ⟨#[]⟩, .int .i64 0, .string ⟨#[]⟩, .int .i64 0, .slice none 0 0, .slice none 0 0] 39)) none := World.grownBy_alloc _ _ _
  obtain ⟨W1, hW1⟩ : ∃ W1, W0.alloc (.cells #[.string ⟨#[]⟩, .int .u64 0, .string ⟨#[]⟩, .string ⟨#[]⟩, .int .i64 0, .string ⟨#[]⟩, .int .i64 0, .slice none 0 0, .slice none 0 0] 39) = W1 := ⟨_, rfl⟩
  rw [hW1] at hb1 hg1
  have S1 : Hid (w.grownBy W1 none ∧ W1.heap[n]? = some (.cells #[.int .u64 x.v, .string x.o, .string x.r, .int .i64 x.h, .string x.p] 34 (0, 0)) ∧ W1.heap[n + 1]? = some (.cells #[.string ⟨#[]⟩, .int .u64 0, .string ⟨#[]⟩, .string ⟨#[]⟩, .int .i64 0, .string ⟨#[]⟩, .int .i64 0, .slice none 0 0, .slice none 0 0] 39 (0, 0))) := Lib.hid ⟨grownBy_trans hg0 hg1, hg1.heap hb0 (by simp), hb1⟩
  have HSTEP : Hid (∀ (wa wb : World), wa.grownBy wb none → w.grownBy wa none ∧ wa.heap[n]? = some (.cells #[.int .u64 x.v, .string x.o, .string x.r, .int .i64 x.h, .string x.p] 34 (0, 0)) ∧ wa.heap[n + 1]? = some (.cells #[.string ⟨#[]⟩, .int .u64 0, .string ⟨#[]⟩, .string ⟨#[]⟩, .int .i64 0, .string ⟨#[]⟩, .int .i64 0, .slice none 0 0, .slice none 0 0] 39 (0, 0)) → w.grownBy wb none ∧ wb.heap[n]? = some (.cells #[.int .u64 x.v, .string x.o, .string x.r, .int .i64 x.h, .string x.p] 34 (0, 0)) ∧ wb.heap[n + 1]? = some (.cells #[.string ⟨#[]⟩, .int .u64 0, .string ⟨#[]⟩, .string ⟨#[]⟩, .int .i64 0, .string ⟨#[]⟩, .int .i64 0, .slice none 0 0, .slice none 0 0] 39 (0, 0))) := Lib.hid (fun wa wb g q => ⟨grownBy_trans q.1 g, g.heap q.2.1 (by simp), g.heap q.2.2 (by simp)⟩)
  have HZERO : Hid (∀ (w' : World) (v0 v1 v2 v3 v4 v5 v6 v7 v8 : Value), w.grownBy w' none → w.grownBy (((((((((w'.setCell ⟨n + 1, 0, none⟩ v0).setCell ⟨n + 1, 1, none⟩ v1).setCell ⟨n + 1, 2, none⟩ v2).setCell ⟨n + 1, 3, none⟩ v3).setCell ⟨n + 1, 4, none⟩ v4).setCell ⟨n + 1, 5, none⟩ v5).setCell ⟨n + 1, 6, none⟩ v6).setCell ⟨n + 1, 7, none⟩ v7).setCell ⟨n + 1, 8, none⟩ v8) none) := Lib.hid (fun w' v0 v1 v2 v3 v4 v5 v6 v7 v8 q => grown_row q (grown9 w' (n + 1) v0 v1 v2 v3 v4 v5 v6 v7 v8) (fun y e => by have e2 : n + 1 = y := Option.some.inj e; omega))
  have HW0 := Lib.hid hW0
  have HW1 := Lib.hid hW1
  have HN := Lib.hid hn
  have HZ0 := Lib.hid hz0
  have HEN := Lib.hid (fun w' => eencode_any x hx w')
  obtain ⟨y0, y1, y2, y3, y4⟩ := cells5 S1.out.2.1
  rw [he] at HEN
  generalize x.enc = xe at HEN
  have HMS := Lib.hid (fun w' q => message_any l x hl hx w' q)
  have HX := Lib.hid hx
  clear he hx
  have HL := Lib.hid hl
  clear hl
  have hmz := msgS_size l x
  generalize msgS l x = m at HMS hmz ⊢
  unfold EntS.val at HMS
  have HI := Lib.hid (And.intro hh (And.intro hi (And.intro hs (Nat.le_trans hmz (by decide : 16 ≤ 1000000000000)))))
  clear hi hmz hh hs
  unfold EntS.val at HEN ⊢
  clear hb0 hg0 hb1 hg1 hW0 hW1 hn hz0 hr hk
  go_enter Tryz.func8, Tryz.ntmps8
  go_wp2_with (first | rw [HW0.out, HZ0.out] | rw [HW0.out, HN.out] | rw [HW1.out, HZ0.out] | rw [HW1.out] | rw [HW0.out])
  refine (HEN.out _).mono ?_
  rintro e w2 ⟨rfl, g2⟩
  have S2 := Lib.hid (HSTEP.out _ _ g2 S1.out)
  clear g2 y0 y1 y2 y3 y4 HEN
  obtain ⟨y0, y1, y2, y3, y4⟩ := cells5 S2.out.2.1
  go_wp2_with fail
  refine (HMS.out w2 (HR.out.grown S2.out.1)).mono ?_
  rintro e w3 ⟨rfl, g3⟩
  have S3 := Lib.hid (HSTEP.out _ _ g3 S2.out)
  clear g3 y0 y1 y2 y3 y4 HMS
  go_wp2_with fail
  refine (xsign_new b seed m h i HI.out.1 HI.out.2.1 HI.out.2.2.1 HI.out.2.2.2 w3 (HK.out.grown S3.out.1) (HR.out.grown S3.out.1)).mono ?_
  rintro e w4 ⟨c, p, rfl, hc4, hp4, nc4, np4, g4⟩
  obtain ⟨ca, cc, rfl⟩ := hc4.form
  obtain ⟨pa, pc, rfl⟩ := hp4.form
  rw [chains_35 seed m i] at hc4 nc4 ⊢
  rw [pathS_length h] at hp4 np4 ⊢
  have S4 := Lib.hid (HSTEP.out _ _ g4 S3.out)
  have h3 : n + 2 ≤ w3.heap.size := (Array.getElem?_eq_some_iff.1 S3.out.2.2).1
  have A4 : Hid (StrsAt w4 (.slice ca 35 cc) (chainsS seed i m) ∧ StrsAt w4 (.slice pa h pc) (pathS h (leavesS seed h) i) ∧ (∀ y, (Value.slice ca 35 cc).ownBlock = some y → n + 2 ≤ y) ∧ (∀ y, (Value.slice pa h pc).ownBlock = some y → n + 2 ≤ y)) := Lib.hid ⟨hc4, hp4, fun y e => Nat.le_trans h3 (nc4 y e), fun y e => Nat.le_trans h3 (np4 y e)⟩
  clear g4 h3 hc4 hp4 nc4 np4
  unfold sigV
  have ga : w4.grownBy (w4.alloc (.cells #[.int .i64 i, .slice ca 35 cc, .slice pa h pc] 37)) none := World.grownBy_alloc _ _ _
  have S5 : Hid _ := Lib.hid (HSTEP.out _ _ ga S4.out)
  have A5 : Hid (StrsAt (w4.alloc (.cells #[.int .i64 i, .slice ca 35 cc, .slice pa h pc] 37)) (.slice ca 35 cc) (chainsS seed i m) ∧ StrsAt (w4.alloc (.cells #[.int .i64 i, .slice ca 35 cc, .slice pa h pc] 37)) (.slice pa h pc) (pathS h (leavesS seed h) i)) := Lib.hid ⟨A4.out.1.grown ga, A4.out.2.1.grown ga⟩
  obtain ⟨z0, z1, z2⟩ := sig_cells (heap_alloc_at w4 (.cells #[.int .i64 i, .slice ca 35 cc, .slice pa h pc] 37) w4.heap.size rfl)
  obtain ⟨y0, y1, y2, y3, y4⟩ := cells5 S5.out.2.1
  obtain ⟨u0, u1, u2, u3, u4, u5, u6, u7, u8⟩ := cells9 S5.out.2.2
  have uf : ∀ j, (w4.alloc (.cells #[.int .i64 i, .slice ca 35 cc, .slice pa h pc] 37)).frozen? ⟨n + 1, j, none⟩ = false := fun j => free_of S5.out.2.2 j
  clear ga
  go_wp2_with fail
  refine bodyPost_ret (results_psign (n := n + 1) (v0 := .string l) (v1 := .int .u64 x.v) (v2 := .string x.o) (v3 := .string x.r) (v4 := .int .i64 x.h) (v5 := .string x.p) (v6 := .int .i64 i) (v7 := .slice ca 35 cc) (v8 := .slice pa h pc) rfl rfl (heap9 S5.out.2.2 _ _ _ _ _ _ _ _ _)) rfl ?_
  exact ⟨_, _, _, _, rfl, A5.out.1.beside (grown9 _ (n + 1) _ _ _ _ _ _ _ _ _) (own_ne A4.out.2.2.1 (by omega)), A5.out.2.beside (grown9 _ (n + 1) _ _ _ _ _ _ _ _ _) (own_ne A4.out.2.2.2 (by omega)), (fun y e => by have := A4.out.2.2.1 y e; have := HN.out; omega), (fun y e => by have := A4.out.2.2.2 y e; have := HN.out; omega), HZERO.out _ _ _ _ _ _ _ _ _ _ S5.out.1⟩
end Go.Proofs.YtemndmhdlgfajaaGreatDoor
