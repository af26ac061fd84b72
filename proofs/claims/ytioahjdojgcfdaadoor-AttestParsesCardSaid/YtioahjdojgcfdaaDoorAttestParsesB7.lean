/- The walk of layer 22's law's signed. · The walk of an attestation's Verify, of one that was signed; layer 22 speaks. · Layer 22 speaks. · What the law AttestParses asks of Decode: bytes that stop, bytes with one more, any bytes. -/
import Derived.Test.YtioahjdojgcfdaaDoorAttD
import Derived.Test.YtioahjdojgcfdaaDoorAttestParsesB5
import Derived.Deep.RegionHeld3
import Derived.Test.YtioahjdojgcfdaaDoorAttestParsesB6
namespace Go.Proofs.YtioahjdojgcfdaaDoor
open Go.RowKit
attribute [local irreducible] shaL

theorem KeyBlk.kept {w w' : World} {b : Nat} {seed : ByteArray} {h lg : Nat} {row : Option Nat} (k : KeyBlk w b seed h lg) (g : w.grownBy w' row) (hb : row ≠ some b) (hl : row ≠ some lg) : KeyBlk w' b seed h lg := by
  obtain ⟨lo, cap, h1, h2⟩ := k
  exact ⟨lo, cap, g.heap h1 hb, h2.beside g (fun y o e => by cases e; exact hl)⟩
theorem results_signed {n m : Nat} {v0 v1 v2 v3 v4 v5 v6 p0 p1 p2 : Value} {tmps : Array Value} {w : World} (h6 : tmps[4]? = some (.pointer (some ⟨n, 0, none⟩))) (h7 : tmps[5]? = some (.pointer (some ⟨m, 0, none⟩))) (hb : w.heap[n]? = some (.cells #[v0, v1, v2, v3, v4, v5, v6] 48 (0, 0))) (hp : w.heap[m]? = some (.cells #[p0, p1, p2] 50 (0, 0))) :
    (results Tryd.f17 tmps).run Tryd.prog w = .ok (.tuple #[.agg #[v0, v1, v2, v3, v4, v5, v6], .agg #[p0, p1, p2]]) w := by
  obtain ⟨c0, c1, c2, c3, c4, c5, c6⟩ := cells7 hb
  obtain ⟨d0, d1, d2⟩ := sig_cells hp
  simp [results, Tryd.results17, go_sem, h6, h7, c0, c1, c2, c3, c4, c5, c6, d0, d1, d2]
structure Sgd (w0 : World) (n : Nat) (cs : Array Value) (w : World) : Prop where
  gr : w0.grownBy w none
  h0 : w.heap[n]? = some (.cells cs 48 (0, 0))
  h1 : w.heap[n + 1]? = some (.cells #[.int .u64 0, .int .i64 0, .string ⟨#[]⟩, .int .i64 0, .int .i64 0, .slice none 0 0, .slice none 0 0] 48 (0, 0))
  h2 : w.heap[n + 2]? = some (.cells #[.string ⟨#[]⟩, .string ⟨#[]⟩, .int .i64 0] 50 (0, 0))
theorem Sgd.go {w0 w w' : World} {n : Nat} {cs : Array Value} (h : Sgd w0 n cs w) (g : w.grownBy w' none) : Sgd w0 n cs w' := ⟨grownBy_trans h.gr g, g.heap h.h0 (by simp), g.heap h.h1 (by simp), g.heap h.h2 (by simp)⟩
set_option maxRecDepth 100000 in
set_option maxHeartbeats 3200000 in
theorem signed_any (seed : ByteArray) (hs : seed.size ≤ 1000) (e b n : Nat) (h : ByteArray) (ho : attOk e b n h = true) (w : World) (hr : ShaReady w) :
    Calls Tryd.prog 17 #[.string seed, attV e b h n 0 (.slice none 0 0) (.slice none 0 0)] w fun r w' => ∃ ca cc pa pc, r = .returned (.tuple #[attV e b h n 0 (.slice ca 35 cc) (.slice pa 0 pc), pubV (openS seed) (rootK seed 0) 0]) ∧ StrsAt w' (.slice ca 35 cc) (chainsS seed 0 (amsgS e b n h)) ∧ StrsAt w' (.slice pa 0 pc) [] ∧ w.grownBy w' none := by
  have HR := Lib.hid hr
  obtain ⟨m, hm⟩ : ∃ m, w.heap.size = m := ⟨_, rfl⟩
  have hb0 := heap_alloc_at w (.cells #[.int .u64 e, .int .i64 b, .string h, .int .i64 n, .int .i64 0, .slice none 0 0, .slice none 0 0] 48) m hm
  have hg0 := World.grownBy_alloc w (.cells #[.int .u64 e, .int .i64 b, .string h, .int .i64 n, .int .i64 0, .slice none 0 0, .slice none 0 0] 48) none
  obtain ⟨W0, hW0⟩ : ∃ W0, w.alloc (.cells #[.int .u64 e, .int .i64 b, .string h, .int .i64 n, .int .i64 0, .slice none 0 0, .slice none 0 0] 48) = W0 := ⟨_, rfl⟩
  rw [hW0] at hb0 hg0
  have hz0 : W0.heap.size = m + 1 := by rw [← hW0, World.size_alloc, hm]
  have hb1 := heap_alloc_at W0 (.cells #[.int .u64 0, .int .i64 0, .string ⟨#[]⟩, .int .i64 0, .int .i64 0, .slice none 0 0, .slice none 0 0] 48) (m + 1) hz0
  have hg1 := World.grownBy_alloc W0 (.cells #[.int .u64 0, .int .i64 0, .string ⟨#[]⟩, .int .i64 0, .int .i64 0, .slice none 0 0, .slice none 0 0] 48) none
  obtain ⟨W1, hW1⟩ : ∃ W1, W0.alloc (.cells #[.int .u64 0, .int .i64 0, .string ⟨#[]⟩, .int .i64 0, .int .i64 0, .slice none 0 0, .slice none 0 0] 48) = W1 := ⟨_, rfl⟩
  rw [hW1] at hb1 hg1
  have hz1 : W1.heap.size = m + 2 := by rw [← hW1, World.size_alloc, hz0]
  have hb2 := heap_alloc_at W1 (.cells #[.string ⟨#[]⟩, .string ⟨#[]⟩, .int .i64 0] 50) (m + 2) hz1
  have hg2 := World.grownBy_alloc W1 (.cells #[.string ⟨#[]⟩, .string ⟨#[]⟩, .int .i64 0] 50) none
  obtain ⟨W2, hW2⟩ : ∃ W2, W1.alloc (.cells #[.string ⟨#[]⟩, .string ⟨#[]⟩, .int .i64 0] 50) = W2 := ⟨_, rfl⟩
  rw [hW2] at hb2 hg2
  have hz2 : W2.heap.size = m + 3 := by rw [← hW2, World.size_alloc, hz1]
  have S2 : Hid (Sgd w m #[.int .u64 e, .int .i64 b, .string h, .int .i64 n, .int .i64 0, .slice none 0 0, .slice none 0 0] W2) := Lib.hid ⟨grownBy_trans (grownBy_trans hg0 hg1) hg2, hg2.heap (hg1.heap hb0 (by simp)) (by simp), hg2.heap hb1 (by simp), hb2⟩
  have HW := Lib.hid (And.intro hW0 (And.intro hW1 (And.intro hW2 (And.intro hm (And.intro hz0 hz1)))))
  have HZ2 := Lib.hid hz2
  have HN := Lib.hid (fun q => xnew_new seed 0 (by decide) (by omega) W2 q)
  have HM := Lib.hid (fun w' q => amsg_fine e b h n 0 none none 0 0 0 0 ho w' q)
  have hmz : (amsgS e b n h).size ≤ 1000000000000 := by unfold amsgS; rw [tagS_size]; decide
  obtain ⟨msg, hmsg⟩ : ∃ msg, amsgS e b n h = msg := ⟨_, rfl⟩
  rw [hmsg] at HM hmz ⊢
  have HS := Lib.hid (And.intro hs hmz)
  unfold attV at HM ⊢
  clear hr hm hb0 hg0 hW0 hz0 hb1 hg1 hW1 hz1 hb2 hg2 hW2 hz2 ho hmsg hs hmz
  go_enter Tryd.func17, Tryd.ntmps17
  go_wp2_with (first | rw [HW.out.1, HW.out.2.2.2.1] | rw [HW.out.2.1, HW.out.2.2.2.2.1] | rw [HW.out.2.2.1, HW.out.2.2.2.2.2] | rw [HW.out.1] | rw [HW.out.2.1] | rw [HW.out.2.2.1])
  refine (HN.out (HR.out.grown S2.out.gr)).mono ?_
  rintro r w3 ⟨kb, lg, rfl, hk, l1, l2, g3⟩
  rw [HZ2.out] at l1
  have S3 := Lib.hid (S2.out.go g3)
  have K3 := Lib.hid hk
  clear hk g3 S2
  obtain ⟨x0, x1, x2, x3, x4, x5, x6⟩ := cells7 S3.out.h0
  go_wp2_with fail
  refine (HM.out _ (HR.out.grown S3.out.gr)).mono ?_
  rintro r w4 ⟨rfl, g4⟩
  have S4 := Lib.hid (S3.out.go g4)
  have K4 := Lib.hid (K3.out.kept g4 (by simp) (by simp))
  clear g4 S3 K3 x0 x1 x2 x3 x4 x5 x6
  have HSG := Lib.hid (xsign_new kb seed msg 0 0 (by decide) (by decide) (by have := HS.out.1; omega) HS.out.2 w4 K4.out.at_ (HR.out.grown S4.out.gr))
  go_wp2_with fail
  refine HSG.out.mono ?_
  rintro r w5 ⟨c, p, rfl, hc, hp, nc, np, g5⟩
  obtain ⟨ca, cc, rfl⟩ := hc.form
  obtain ⟨pa, pc, rfl⟩ := hp.form
  have hp0 : pathS 0 (leavesS seed 0) 0 = [] := rfl
  rw [hp0] at hp np ⊢
  rw [chains_35 seed msg 0] at hc nc ⊢
  have S5 := Lib.hid (S4.out.go g5)
  have K5 := Lib.hid (K4.out.kept g5 (by simp) (by simp))
  have h4 : m + 3 ≤ w4.heap.size := (Array.getElem?_eq_some_iff.1 S4.out.h2).1
  have A5 := Lib.hid (And.intro hc (And.intro hp (fun y q => Nat.le_trans h4 (nc y q) : ∀ y, (Value.slice ca 35 cc).ownBlock = some y → m + 3 ≤ y)))
  clear g5 hc hp nc np h4 S4 K4 HSG
  unfold sigV
  obtain ⟨x0, x1, x2, x3, x4, x5, x6⟩ := cells7 S5.out.h0
  have xf : ∀ j, w5.frozen? ⟨m, j, none⟩ = false := fun j => free_of S5.out.h0 j
  go_wp2_with fail
  obtain ⟨W6, hW6⟩ : ∃ W6, ((w5.setCell ⟨m, 4, none⟩ (.int .i64 ((0 : Nat) : Int))).setCell ⟨m, 5, none⟩ (.slice ca 35 cc)).setCell ⟨m, 6, none⟩ (.slice pa 0 pc) = W6 := ⟨_, rfl⟩
  have hz : ((0 : Nat) : Int) = 0 := rfl
  have g6 : w5.grownBy W6 (some m) := by rw [← hW6]; exact grownBy_setCell (grownBy_setCell (grownBy_setCell (World.grownBy.refl w5 _) 4 _) 5 _) 6 _
  have hne1 : some m ≠ some kb := fun q => by have := Option.some.inj q; omega
  have hne2 : some m ≠ some lg := fun q => by have := Option.some.inj q; omega
  have S6 : Hid (Sgd w m #[.int .u64 e, .int .i64 b, .string h, .int .i64 n, .int .i64 0, .slice ca 35 cc, .slice pa 0 pc] W6) := Lib.hid ⟨grown_row S5.out.gr g6 (fun y q => by cases q; have := HW.out.2.2.2.1; omega), by rw [← hW6]; exact (heap_setCell (heap_setCell (heap_setCell S5.out.h0 4 _) 5 _) 6 _).trans rfl, g6.heap S5.out.h1 (fun q => by have := Option.some.inj q; omega), g6.heap S5.out.h2 (fun q => by have := Option.some.inj q; omega)⟩
  have K6 := Lib.hid (K5.out.kept g6 hne1 hne2)
  have A6 : Hid (StrsAt W6 (.slice ca 35 cc) (chainsS seed 0 msg) ∧ StrsAt W6 (.slice pa 0 pc) []) := Lib.hid ⟨A5.out.1.beside g6 (fun y o q => fun q2 => by have h1 := A5.out.2.2 y (by rw [q]; rfl); have := Option.some.inj q2; omega), ⟨pa, pc, rfl, fun i hi => absurd hi (Nat.not_lt_zero i)⟩⟩
  have HP6 : Hid (∀ w', W6.grownBy w' none → Calls Tryd.prog 57 #[.pointer (some ⟨kb, 0, none⟩)] w' fun r w'' => r = .returned (pubV (openS seed) (rootK seed 0) 0) ∧ w'.grownBy w'' none) := Lib.hid (fun w' g => xpublic_any kb seed 0 w' (K6.out.kept g (by simp) (by simp)).at_)
  have HX := Lib.hid (And.intro A5.out.2.2 l1)
  have A5a := A5
  rw [hz] at hW6
  first
  | rw [hW6]
  | (simp only [hz]; rw [hW6])
  unfold pubV at HP6
  clear g6 hne1 hne2 x0 x1 x2 x3 x4 x5 x6 xf S5 K5 A5 A5a hz
  obtain ⟨x0, x1, x2, x3, x4, x5, x6⟩ := cells7 S6.out.h0
  go_region_with (go_at_call 57; refine (HP6.out _ (by first | exact World.grownBy.refl _ _ | exact grownBy_drew (World.grownBy.refl _ _))).mono ?_; rintro r w7 ⟨rfl, g7⟩; have S7 := S6.out.go (grownBy_trans (grownBy_drew (World.grownBy.refl W6 none)) g7); obtain ⟨a0, a1, a2, a3, a4, a5, a6⟩ := cells7 S7.h0; obtain ⟨d0, d1, d2, d3, d4, d5, d6⟩ := cells7 S7.h1; obtain ⟨p0, p1, p2⟩ := sig_cells S7.h2; have df := fun j => free_of S7.h1 j; have pf := fun j => free_of S7.h2 j)
  all_goals (go_wp2_with fail)
  all_goals
    have f1 := heap7 S7.h1 (.int .u64 e) (.int .i64 b) (.string h) (.int .i64 n) (.int .i64 0) (.slice ca 35 cc) (.slice pa 0 pc)
    have gA := grown7 w7 (m + 1) (.int .u64 e) (.int .i64 b) (.string h) (.int .i64 n) (.int .i64 0) (.slice ca 35 cc) (.slice pa 0 pc)
    have h2A := gA.heap S7.h2 (fun q => by have := Option.some.inj q; omega)
    have f2 := (heap_setCell (heap_setCell (heap_setCell h2A 0 (.string (openS seed))) 1 (.string (rootK seed 0))) 2 (.int .i64 0)).trans rfl
    have gB : (set7 w7 (m + 1) (.int .u64 e) (.int .i64 b) (.string h) (.int .i64 n) (.int .i64 0) (.slice ca 35 cc) (.slice pa 0 pc)).grownBy ((((set7 w7 (m + 1) (.int .u64 e) (.int .i64 b) (.string h) (.int .i64 n) (.int .i64 0) (.slice ca 35 cc) (.slice pa 0 pc)).setCell ⟨m + 2, 0, none⟩ (.string (openS seed))).setCell ⟨m + 2, 1, none⟩ (.string (rootK seed 0))).setCell ⟨m + 2, 2, none⟩ (.int .i64 0)) (some (m + 2)) := grownBy_setCell (grownBy_setCell (grownBy_setCell (World.grownBy.refl _ _) 0 _) 1 _) 2 _
    have f1B := gB.heap f1 (fun q => by have := Option.some.inj q; omega)
    have hmm := HW.out.2.2.2.1
    refine bodyPost_ret (results_signed (n := m + 1) (m := m + 2) (v0 := .int .u64 e) (v1 := .int .i64 b) (v2 := .string h) (v3 := .int .i64 n) (v4 := .int .i64 0) (v5 := .slice ca 35 cc) (v6 := .slice pa 0 pc) (p0 := .string (openS seed)) (p1 := .string (rootK seed 0)) (p2 := .int .i64 0) rfl rfl f1B f2) rfl ?_
    refine ⟨ca, cc, pa, pc, rfl, ?_, ⟨pa, pc, rfl, fun i hi => absurd hi (Nat.not_lt_zero i)⟩, grown_row (grown_row S7.gr gA (fun y q => by cases q; omega)) gB (fun y q => by cases q; omega)⟩
    have a7 := A6.out.1.grown (grownBy_trans (grownBy_drew (World.grownBy.refl W6 none)) g7)
    exact (a7.beside gA (fun y o q => fun q2 => by have h1 := HX.out.1 y (by rw [q]; rfl); have := Option.some.inj q2; omega)).beside gB (fun y o q => fun q2 => by have h1 := HX.out.1 y (by rw [q]; rfl); have := Option.some.inj q2; omega)
end Go.Proofs.YtioahjdojgcfdaaDoor

namespace Go.Proofs.YtioahjdojgcfdaaDoor
open Go.RowKit
attribute [local irreducible] shaL

set_option maxRecDepth 100000 in
set_option maxHeartbeats 3200000 in
theorem averify_own (seed : ByteArray) (e b n : Nat) (h : ByteArray) (ho : attOk e b n h = true) (ca pa : Option Addr) (cc pc : Nat) (w : World) (hr : ShaReady w) (hc : StrsAt w (.slice ca 35 cc) (chainsS seed 0 (amsgS e b n h))) (hp : StrsAt w (.slice pa 0 pc) []) :
    Calls Tryd.prog 54 #[attV e b h n 0 (.slice ca 35 cc) (.slice pa 0 pc), pubV (openS seed) (rootK seed 0) 0] w fun r w' => r = .returned (.bool true) ∧ w.grownBy w' none := by
  have HR := Lib.hid hr
  have hmz : (amsgS e b n h).size ≤ 1000000000000 := by unfold amsgS; rw [tagS_size]; decide
  have HV : Hid (∀ w', w.grownBy w' none → Calls Tryd.prog 93 #[.agg #[.string (openS seed), .string (rootK seed 0), .int .i64 0], .string (amsgS e b n h), .agg #[.int .i64 0, .slice ca 35 cc, .slice pa 0 pc]] w' fun r w'' => r = .returned (.bool true) ∧ w'.grownBy w'' none) := Lib.hid (fun w' (g : w.grownBy w' none) => verify_own seed (amsgS e b n h) 0 0 (by decide) (by decide) hmz ca pa cc pc w' (hc.grown g) (hp.grown g) (hr.grown g))
  have HMB := Lib.hid (fun w' => mayBe_any e b h n 0 ca pa 35 cc 0 pc w')
  rw [ho] at HMB
  have HM := Lib.hid (fun w' (g : w.grownBy w' none) => amsg_fine e b h n 0 ca pa 35 cc 0 pc ho w' (hr.grown g))
  obtain ⟨msg, hmsg⟩ : ∃ msg, amsgS e b n h = msg := ⟨_, rfl⟩
  rw [hmsg] at HV HM
  obtain ⟨m, hm⟩ : ∃ m, w.heap.size = m := ⟨_, rfl⟩
  unfold attV at HMB HM ⊢
  unfold pubV
  have hb0 := heap_alloc_at w (.cells #[.int .u64 e, .int .i64 b, .string h, .int .i64 n, .int .i64 0, .slice ca 35 cc, .slice pa 0 pc] 48) m hm
  have hg0 := World.grownBy_alloc w (.cells #[.int .u64 e, .int .i64 b, .string h, .int .i64 n, .int .i64 0, .slice ca 35 cc, .slice pa 0 pc] 48) none
  obtain ⟨W0, hW0⟩ : ∃ W0, w.alloc (.cells #[.int .u64 e, .int .i64 b, .string h, .int .i64 n, .int .i64 0, .slice ca 35 cc, .slice pa 0 pc] 48) = W0 := ⟨_, rfl⟩
  rw [hW0] at hb0 hg0
  have hz0 : W0.heap.size = m + 1 := by rw [← hW0, World.size_alloc, hm]
  have hb1 := heap_alloc_at W0 (.cells #[.string (openS seed), .string (rootK seed 0), .int .i64 0] 50) (m + 1) hz0
  have hg1 := World.grownBy_alloc W0 (.cells #[.string (openS seed), .string (rootK seed 0), .int .i64 0] 50) none
  obtain ⟨W1, hW1⟩ : ∃ W1, W0.alloc (.cells #[.string (openS seed), .string (rootK seed 0), .int .i64 0] 50) = W1 := ⟨_, rfl⟩
  rw [hW1] at hb1 hg1
  have hb01 := hg1.heap hb0 (by simp)
  have hgw := grownBy_trans hg0 hg1
  have HG1 := Lib.hid hgw
  have HW := Lib.hid (And.intro hW0 (And.intro hW1 (And.intro hm hz0)))
  obtain ⟨x0, x1, x2, x3, x4, x5, x6⟩ := cells7 hb01
  obtain ⟨p0, p1, p2⟩ := sig_cells hb1
  have HCK : Hid (∀ w', W1.grownBy w' none → ((w'.cell? ⟨m, 0, none⟩ = some (.int .u64 e) ∧ w'.cell? ⟨m, 1, none⟩ = some (.int .i64 b) ∧ w'.cell? ⟨m, 2, none⟩ = some (.string h) ∧ w'.cell? ⟨m, 3, none⟩ = some (.int .i64 n) ∧ w'.cell? ⟨m, 4, none⟩ = some (.int .i64 0) ∧ w'.cell? ⟨m, 5, none⟩ = some (.slice ca 35 cc) ∧ w'.cell? ⟨m, 6, none⟩ = some (.slice pa 0 pc)) ∧ w'.cell? ⟨m + 1, 0, none⟩ = some (.string (openS seed)) ∧ w'.cell? ⟨m + 1, 1, none⟩ = some (.string (rootK seed 0)) ∧ w'.cell? ⟨m + 1, 2, none⟩ = some (.int .i64 0))) := Lib.hid (fun w' g => ⟨cells7 (g.heap hb01 (by simp)), sig_cells (g.heap hb1 (by simp))⟩)
  clear hr hc hp ho hmz hmsg hm hb0 hg0 hW0 hz0 hb1 hg1 hW1 hb01 hgw
  go_enter Tryd.func54, Tryd.ntmps54
  go_wp2_with (first | rw [HW.out.1, HW.out.2.2.1] | rw [HW.out.2.1, HW.out.2.2.2] | rw [HW.out.1] | rw [HW.out.2.1])
  have gd : W1.grownBy W1.drew none := grownBy_drew (World.grownBy.refl W1 none)
  have ck := HCK.out _ gd
  go_region_held3 (fun w' => ((w'.cell? ⟨m, 0, none⟩ = some (.int .u64 e) ∧ w'.cell? ⟨m, 1, none⟩ = some (.int .i64 b) ∧ w'.cell? ⟨m, 2, none⟩ = some (.string h) ∧ w'.cell? ⟨m, 3, none⟩ = some (.int .i64 n) ∧ w'.cell? ⟨m, 4, none⟩ = some (.int .i64 0) ∧ w'.cell? ⟨m, 5, none⟩ = some (.slice ca 35 cc) ∧ w'.cell? ⟨m, 6, none⟩ = some (.slice pa 0 pc)) ∧ w'.cell? ⟨m + 1, 0, none⟩ = some (.string (openS seed)) ∧ w'.cell? ⟨m + 1, 1, none⟩ = some (.string (rootK seed 0)) ∧ w'.cell? ⟨m + 1, 2, none⟩ = some (.int .i64 0))) (first | exact ck)
    (first
    | (go_at_call 69; (with_reducible refine (HMB.out _).mono ?_); rintro r w2 ⟨rfl, g2⟩; have k2 := grownBy_trans gd g2; have ck := HCK.out _ k2)
    | (go_at_call 20; (with_reducible refine (HM.out _ (grownBy_trans HG1.out k2)).mono ?_); rintro r w3 ⟨rfl, g3⟩; have k3 := grownBy_trans k2 g3; have ck := HCK.out _ k3)
    | (go_at_call 93; (with_reducible refine (HV.out _ (grownBy_trans HG1.out k3)).mono ?_); rintro r w4 ⟨rfl, g4⟩; have k4 := grownBy_trans k3 g4; have ck := HCK.out _ k4))
  have HG4 := Lib.hid (grownBy_trans HG1.out k4)
  clear ck k2 k3 k4 g2 g3 g4 gd
  go_wp2_with fail
  go_returns
  exact ⟨rfl, HG4.out⟩
def noughts22 : ByteArray := ⟨#[0, 0, 0, 0, 0, 0, 0, 0, 0, 0, 0, 0, 0, 0, 0, 0]⟩
theorem decA_fine (e b n : Nat) (h g : ByteArray) (he : e ≤ 4294967295) (hb : b ≤ 15) (hn : n ≤ 63) (hh : h.size = 16) (hg : g.size ≤ 4096) : decA (str (attB e b n h g)) = ⟨e, b, n, h, g, ⟨str [], 0⟩⟩ := by
  have := decA_more e b n h g [] he hb hn hh hg
  rwa [List.append_nil] at this
/-- what is decoded of a signed one's bytes -/
theorem adecode_own (e b n : Nat) (h : ByteArray) (ho : attOk e b n h = true) (C : List ByteArray) (hC : C.length = 35) (h1 : ∀ t ∈ C, t.size = 16) (w : World) :
    Calls Tryd.prog 19 #[.string (str (attB e b n h (str (sigB 0 C []))))] w fun r w' => ∃ ca cc pa pc, r = .returned (.tuple #[attV e b h n 0 (.slice ca 35 cc) (.slice pa 0 pc), .int .i64 0]) ∧ StrsAt w' (.slice ca 35 cc) C ∧ StrsAt w' (.slice pa 0 pc) [] ∧ w.grownBy w' none := by
  obtain ⟨he, hb, hn, hh⟩ := attOk_iff.1 ho
  have hl : (str (sigB 0 C [])).size = 562 := by rw [str_size, sigB_len 0 C [] hC h1 (fun t ht => by cases ht)]; rfl
  have hd := decA_fine e b n h (str (sigB 0 C [])) he (by omega) (by omega) hh (by omega)
  have hg := decG_fine 0 C [] (by decide) hC (by decide) h1 (fun t ht => by cases ht)
  have hgo := decG_ok 0 C [] (by decide) (by decide)
  have herr : (decA (str (attB e b n h (str (sigB 0 C []))))).err = 0 := by
    rw [hd]
    unfold DecA.err
    rw [if_neg (not_not_intro done_nil)]
    show (if (decG (str (sigB 0 C []))).err ≠ 0 then _ else _) = _
    rw [hg, if_neg (not_not_intro hgo)]
    show (if attOk e b n h = true then (0 : Int) else 10) = 0
    rw [if_pos ho]
  have := adecode_any (str (attB e b n h (str (sigB 0 C [])))) (by rw [str_size, attB_len _ _ _ _ _ hh, hl]; decide) w
  rw [herr, hd] at this
  have this : Calls _ _ _ _ (AttAns w ⟨e, b, n, h, str (sigB 0 C []), ⟨str [], 0⟩⟩ (decG (str (sigB 0 C []))) 0) := this
  rw [hg] at this
  refine this.mono ?_
  rintro r w' ⟨ca, cc, pa, pc, rfl, q, g⟩
  obtain ⟨q1, q2⟩ := q rfl
  rw [if_pos rfl]
  exact ⟨ca, cc, pa, pc, rfl, q1, q2, g⟩
def noughtsL22 : List UInt8 := [0, 0, 0, 0, 0, 0, 0, 0, 0, 0, 0, 0, 0, 0, 0, 0]
/-- what signed answers, the numbers as they stand in the code -/
def SgnAns (w : World) (e b n : Int) (h O R : ByteArray) (C : List ByteArray) (r : Ending) (w' : World) : Prop :=
  ∃ ca cc pa pc, r = .returned (.tuple #[.agg #[.int .u64 e, .int .i64 b, .string h, .int .i64 n, .int .i64 0, .slice ca 35 cc, .slice pa 0 pc], .agg #[.string O, .string R, .int .i64 0]]) ∧ StrsAt w' (.slice ca 35 cc) C ∧ StrsAt w' (.slice pa 0 pc) [] ∧ w.grownBy w' none
theorem signed_sp (seed : ByteArray) (hs : seed.size ≤ 1000) (e b n : Nat) (E B N : Int) (hE : (e : Int) = E) (hB : (b : Int) = B) (hN : (n : Int) = N) (h O R : ByteArray) (C : List ByteArray) (ho : attOk e b n h = true) (hO : openS seed = O) (hR : rootK seed 0 = R) (hC : chainsS seed 0 (amsgS e b n h) = C) (w : World) (hr : ShaReady w) :
    Calls Tryd.prog 17 #[.string seed, .agg #[.int .u64 E, .int .i64 B, .string h, .int .i64 N, .int .i64 0, .slice none 0 0, .slice none 0 0]] w (SgnAns w E B N h O R C) := by
  subst hE hB hN hO hR hC
  exact signed_any seed hs e b n h ho w hr
theorem verify_sp (seed : ByteArray) (e b n : Nat) (E B N : Int) (hE : (e : Int) = E) (hB : (b : Int) = B) (hN : (n : Int) = N) (h O R : ByteArray) (C : List ByteArray) (ho : attOk e b n h = true) (hO : openS seed = O) (hR : rootK seed 0 = R) (hC : chainsS seed 0 (amsgS e b n h) = C) (ca pa : Option Addr) (cc pc : Nat) (w : World) (hr : ShaReady w) (hc : StrsAt w (.slice ca 35 cc) C) (hp : StrsAt w (.slice pa 0 pc) []) :
    Calls Tryd.prog 54 #[.agg #[.int .u64 E, .int .i64 B, .string h, .int .i64 N, .int .i64 0, .slice ca 35 cc, .slice pa 0 pc], .agg #[.string O, .string R, .int .i64 0]] w fun r w' => r = .returned (.bool true) ∧ w.grownBy w' none := by
  subst hE hB hN hO hR hC
  exact averify_own seed e b n h ho ca pa cc pc w hr hc hp
/-- bytes of one, and back -/
theorem encode_sp (e b n : Nat) (E B N : Int) (hE : (e : Int) = E) (hB : (b : Int) = B) (hN : (n : Int) = N) (h T : ByteArray) (C : List ByteArray) (ho : attOk e b n h = true) (hC : C.length = 35) (h1 : ∀ t ∈ C, t.size = 16) (hT : str (attB e b n h (str (sigB 0 C []))) = T) (ca pa : Option Addr) (cc pc : Nat) (w : World) (hc : StrsAt w (.slice ca 35 cc) C) (hp : StrsAt w (.slice pa 0 pc) []) :
    Calls Tryd.prog 18 #[.agg #[.int .u64 E, .int .i64 B, .string h, .int .i64 N, .int .i64 0, .slice ca 35 cc, .slice pa 0 pc]] w fun r w' => r = .returned (.tuple #[.string T, .int .i64 0]) ∧ w.grownBy w' none := by
  subst hE hB hN hT
  exact aencode_fine e b h n ho 0 C [] ca pa cc pc 0 (by decide) hC rfl (by decide) h1 (fun t ht => by cases ht) w hc hp
theorem decode_sp (e b n : Nat) (E B N : Int) (hE : (e : Int) = E) (hB : (b : Int) = B) (hN : (n : Int) = N) (h T : ByteArray) (C : List ByteArray) (ho : attOk e b n h = true) (hC : C.length = 35) (h1 : ∀ t ∈ C, t.size = 16) (hT : str (attB e b n h (str (sigB 0 C []))) = T) (w : World) :
    Calls Tryd.prog 19 #[.string T] w fun r w' => ∃ ca cc pa pc, r = .returned (.tuple #[.agg #[.int .u64 E, .int .i64 B, .string h, .int .i64 N, .int .i64 0, .slice ca 35 cc, .slice pa 0 pc], .int .i64 0]) ∧ StrsAt w' (.slice ca 35 cc) C ∧ StrsAt w' (.slice pa 0 pc) [] ∧ w.grownBy w' none := by
  subst hE hB hN hT
  exact adecode_own e b n h ho C hC h1 w
end Go.Proofs.YtioahjdojgcfdaaDoor

namespace Go.Proofs.YtioahjdojgcfdaaDoor
open Go.RowKit
attribute [local irreducible] shaL

def seed22 (c : UInt8) : ByteArray := ⟨#[c]⟩
set_option maxRecDepth 100000 in
set_option maxHeartbeats 1600000 in
theorem att_speaks (w : World) (hr : ShaReady w) :
    Calls Tryd.prog 16 #[] w fun e w' => e = .returned (.bool true) ∧ w.grownBy w' none := by
  have HR := Lib.hid hr
  have ho : attOk 3 1 2 noughts22 = true := by decide
  have hO16 := openS_size (seed22 97)
  obtain ⟨O, hO⟩ : ∃ O, openS (seed22 97) = O := ⟨_, rfl⟩
  obtain ⟨R, hR⟩ : ∃ R, rootK (seed22 97) 0 = R := ⟨_, rfl⟩
  obtain ⟨C, hC⟩ : ∃ C, chainsS (seed22 97) 0 (amsgS 3 1 2 noughts22) = C := ⟨_, rfl⟩
  have hC35 : C.length = 35 := by rw [← hC]; exact chains_35 _ _ _
  have hC16 : ∀ t ∈ C, t.size = 16 := by rw [← hC]; exact chains_16 _ _ _
  obtain ⟨T, hT⟩ : ∃ T, str (attB 3 1 2 noughts22 (str (sigB 0 C []))) = T := ⟨_, rfl⟩
  have HSI := Lib.hid (signed_sp (seed22 97) (by show 1 ≤ 1000; decide) 3 1 2 3 1 2 rfl rfl rfl noughts22 O R C ho hO hR hC w hr)
  have HVE := Lib.hid (fun ca pa cc pc w' q1 q2 q3 => verify_sp (seed22 97) 3 1 2 3 1 2 rfl rfl rfl noughts22 O R C ho hO hR hC ca pa cc pc w' q1 q2 q3)
  have HEN := Lib.hid (fun ca pa cc pc w' q2 q3 => encode_sp 3 1 2 3 1 2 rfl rfl rfl noughts22 T C ho hC35 hC16 hT ca pa cc pc w' q2 q3)
  have HDE := Lib.hid (fun w' => decode_sp 3 1 2 3 1 2 rfl rfl rfl noughts22 T C ho hC35 hC16 hT w')
  unfold seed22 at HSI
  unfold noughts22 at HSI HVE HEN HDE
  clear hr ho hO hR hC hT hC35 hC16 hO16
  go_enter Tryd.func16, Tryd.ntmps16
  go_wp2_with fail
  refine HSI.out.mono ?_
  rintro r w1 ⟨ca, cc, pa, pc, rfl, hc, hp, g1⟩
  obtain ⟨XB, hXB⟩ : ∃ XB, w1.heap.size = XB := ⟨_, rfl⟩
  have ha := heap_alloc_at w1 (.cells #[.int .u64 3, .int .i64 1, .string ⟨#[0, 0, 0, 0, 0, 0, 0, 0, 0, 0, 0, 0, 0, 0, 0, 0]⟩, .int .i64 2, .int .i64 0, .slice ca 35 cc, .slice pa 0 pc] 48) XB hXB
  have hga := World.grownBy_alloc w1 (.cells #[.int .u64 3, .int .i64 1, .string ⟨#[0, 0, 0, 0, 0, 0, 0, 0, 0, 0, 0, 0, 0, 0, 0, 0]⟩, .int .i64 2, .int .i64 0, .slice ca 35 cc, .slice pa 0 pc] 48) none
  obtain ⟨Wa, hWa⟩ : ∃ Wa, w1.alloc (.cells #[.int .u64 3, .int .i64 1, .string ⟨#[0, 0, 0, 0, 0, 0, 0, 0, 0, 0, 0, 0, 0, 0, 0, 0]⟩, .int .i64 2, .int .i64 0, .slice ca 35 cc, .slice pa 0 pc] 48) = Wa := ⟨_, rfl⟩
  rw [hWa] at ha hga
  have hza : Wa.heap.size = XB + 1 := by rw [← hWa, World.size_alloc, hXB]
  have hp0 := heap_alloc_at Wa (.cells #[.string O, .string R, .int .i64 0] 50) (XB + 1) hza
  have hgp := World.grownBy_alloc Wa (.cells #[.string O, .string R, .int .i64 0] 50) none
  obtain ⟨Wb, hWb⟩ : ∃ Wb, Wa.alloc (.cells #[.string O, .string R, .int .i64 0] 50) = Wb := ⟨_, rfl⟩
  rw [hWb] at hp0 hgp
  have S2 := Lib.hid (And.intro (grownBy_trans g1 (grownBy_trans hga hgp)) (And.intro (hgp.heap ha (by simp)) hp0))
  have A2 := Lib.hid (And.intro (hc.grown (grownBy_trans hga hgp)) (hp.grown (grownBy_trans hga hgp)))
  have HW := Lib.hid (And.intro hWa (And.intro hWb (And.intro hXB hza)))
  clear g1 hc hp ha hga hWa hza hp0 hgp hWb hXB HSI
  obtain ⟨x0, x1, x2, x3, x4, x5, x6⟩ := cells7 S2.out.2.1
  go_wp2_with fail
  rw [HW.out.1, HW.out.2.1, HW.out.2.2.1]
  refine (HEN.out ca pa cc pc _ A2.out.1 A2.out.2).mono ?_
  rintro r w3 ⟨rfl, g3⟩
  have S3 := Lib.hid (And.intro (grownBy_trans S2.out.1 g3) (And.intro (g3.heap S2.out.2.1 (by simp)) (g3.heap S2.out.2.2 (by simp))))
  have A3 := Lib.hid (And.intro (A2.out.1.grown g3) (A2.out.2.grown g3))
  clear g3 S2 A2 HEN x0 x1 x2 x3 x4 x5 x6
  go_wp2_with fail
  refine (HDE.out _).mono ?_
  rintro r w4 ⟨ca2, cc2, pa2, pc2, rfl, hc2, hp2, g4⟩
  have gz := World.grownBy_alloc w4 (.cells #[.int .u64 3, .int .i64 1, .string ⟨#[0, 0, 0, 0, 0, 0, 0, 0, 0, 0, 0, 0, 0, 0, 0, 0]⟩, .int .i64 2, .int .i64 0, .slice ca2 35 cc2, .slice pa2 0 pc2] 48) none
  have hbz := heap_alloc_at w4 (.cells #[.int .u64 3, .int .i64 1, .string ⟨#[0, 0, 0, 0, 0, 0, 0, 0, 0, 0, 0, 0, 0, 0, 0, 0]⟩, .int .i64 2, .int .i64 0, .slice ca2 35 cc2, .slice pa2 0 pc2] 48) _ rfl
  have g34 := grownBy_trans g4 gz
  have S4 := Lib.hid (And.intro (grownBy_trans S3.out.1 g34) (And.intro (g34.heap S3.out.2.1 (by simp)) (And.intro (g34.heap S3.out.2.2 (by simp)) hbz)))
  have A4 := Lib.hid (And.intro (And.intro (A3.out.1.grown g34) (A3.out.2.grown g34)) (And.intro (hc2.grown gz) (hp2.grown gz)))
  obtain ⟨x0, x1, x2, x3, x4, x5, x6⟩ := cells7 S4.out.2.1
  obtain ⟨p0, p1, p2⟩ := sig_cells S4.out.2.2.1
  clear gz hbz g34 g4 hc2 hp2 S3 A3
  go_wp2_with fail
  have hR4 := HR.out.grown S4.out.1
  refine (HVE.out ca pa cc pc _ hR4 A4.out.1.1 A4.out.1.2).mono ?_
  rintro r w5 ⟨rfl, g5⟩
  have S5 := Lib.hid (And.intro (grownBy_trans S4.out.1 g5) (And.intro (g5.heap S4.out.2.2.1 (by simp)) (g5.heap S4.out.2.2.2 (by simp))))
  have A5 := Lib.hid (And.intro (A4.out.2.1.grown g5) (A4.out.2.2.grown g5))
  clear g5 x0 x1 x2 x3 x4 x5 x6 p0 p1 p2 hR4 S4 A4
  obtain ⟨x0, x1, x2, x3, x4, x5, x6⟩ := cells7 S5.out.2.2
  obtain ⟨p0, p1, p2⟩ := sig_cells S5.out.2.1
  go_wp2_with fail
  have hR5 := HR.out.grown S5.out.1
  refine (HVE.out ca2 pa2 cc2 pc2 _ hR5 A5.out.1 A5.out.2).mono ?_
  rintro r w6 ⟨rfl, g6⟩
  have S6 := Lib.hid (And.intro (grownBy_trans S5.out.1 g6) (g6.heap S5.out.2.2 (by simp)))
  clear g6 x0 x1 x2 x3 x4 x5 x6 p0 p1 p2 hR5
  obtain ⟨x0, x1, x2, x3, x4, x5, x6⟩ := cells7 S6.out.2
  go_wp2_with fail
  go_ret
  exact ⟨rfl, S6.out.1⟩
end Go.Proofs.YtioahjdojgcfdaaDoor

namespace Go.Proofs.YtioahjdojgcfdaaDoor
open Go.RowKit
attribute [local irreducible] shaL

theorem adecode_bad (J : ByteArray) (hJ : J.size ≤ 1000000000) (er : Int) (he : (decA J).err = er) (h0 : er ≠ 0) (w : World) :
    Calls Tryd.prog 19 #[.string J] w fun r w' => r = .returned (.tuple #[.agg #[.int .u64 0, .int .i64 0, .string ⟨#[]⟩, .int .i64 0, .int .i64 0, .slice none 0 0, .slice none 0 0], .int .i64 er]) ∧ w.grownBy w' none := by
  subst he
  refine (adecode_any J hJ w).mono ?_
  rintro r w' ⟨ca, cc, pa, pc, rfl, _, g⟩
  rw [if_neg h0]
  exact ⟨rfl, g⟩
theorem decA_cut (e b n : Nat) (h g : ByteArray) (ho : attOk e b n h = true) (hg : g.size ≤ 4096) (k : Nat) (hk : k < (attB e b n h g).length) : (decA (str ((attB e b n h g).take k))).err = 3 := by
  obtain ⟨he, hb, hn, hh⟩ := attOk_iff.1 ho
  have := decA_less e b n h g k he (by omega) (by omega) hh hg hk
  unfold DecA.err
  rw [this]
  rfl
theorem decA_long (e b n : Nat) (h g : ByteArray) (ho : attOk e b n h = true) (hg : g.size ≤ 4096) : (decA (str (attB e b n h g ++ [120]))).err = 2 := by
  obtain ⟨he, hb, hn, hh⟩ := attOk_iff.1 ho
  have := decA_more e b n h g [120] he (by omega) (by omega) hh hg
  unfold DecA.err
  rw [this]
  rfl
/-- what is decoded is written as it was -/
theorem aback_any (J : ByteArray) (he : (decA J).err = 0) (d : DecA) (hd : decA J = d) (g : DecG) (hg : decG d.t = g) (ca pa : Option Addr) (cc pc M : Nat) (hM : min g.n 6 = M) (w : World) (hc : StrsAt w (.slice ca 35 cc) g.C) (hp : StrsAt w (.slice pa M pc) g.P) :
    Calls Tryd.prog 18 #[.agg #[.int .u64 d.e, .int .i64 d.b, .string d.h, .int .i64 d.n, .int .i64 g.i, .slice ca 35 cc, .slice pa M pc]] w fun r w' => r = .returned (.tuple #[.string J, .int .i64 0]) ∧ w.grownBy w' none := by
  obtain ⟨ho, hge, _, hj⟩ := decA_back J he
  rw [hd] at ho hge hj
  have hb := decG_back d.t hge
  rw [hg] at hb
  obtain ⟨b1, b2, b3, b4, b5, b6, b7⟩ := hb
  have hMn : M = g.n := by omega
  have := aencode_fine d.e d.b d.h d.n ho g.i g.C g.P ca pa cc pc M b1 b3 (by omega) (by omega) b5 b6 w hc hp
  rw [← b7, ← hj] at this
  exact this
theorem conv_cells (L : List UInt8) (N : Nat) (hL : L.length = N) (g C : Nat) (W3 : World) (hc : ∀ j (hj : j < L.length), W3.cell? ((⟨g, 0, none⟩ : Addr).add j) = some (.int .u8 (L[j]'hj).toNat)) :
    (convert 57 9 (.slice (some ⟨g, 0, none⟩) N C)).run Tryd.prog W3 = .ok (.string (str L)) W3 := by
  subst hL
  exact run_convert_bytes_back W3 57 9 5 ⟨g, 0, none⟩ C L Tryd.underlying57 Tryd.underlying5 Tryd.underlying9 hc
theorem flip_cells (k : ByteArray) (w : World) (g q : Nat) (hg : w.heap.size = g) (u : UInt8) : ∀ W3 : World, W3.heap = ((Lib.bytesWorld w 5 k).setCell ⟨g, q, none⟩ (.int .u8 u.toNat)).heap →
    ∀ j (hj : j < (k.data.toList.set q u).length), W3.cell? ((⟨g, 0, none⟩ : Addr).add j) = some (.int .u8 ((k.data.toList.set q u)[j]'hj).toNat) := by
  intro W3 hW j hj
  subst hg
  have hb := Lib.bytesWorld_at_new w 5 k
  have hl : j < k.data.toList.length := by rw [List.length_set] at hj; exact hj
  have hj2 : j < k.size := by rw [Array.length_toList] at hl; exact hl
  have hc := Lib.bytesWorld_cell w 5 k j hj2
  rw [cell_of hb] at hc
  have hs := cell_of (heap_setCell hb q (.int .u8 u.toNat)) j
  have hW3 : W3.cell? ⟨w.heap.size, j, none⟩ = ((Lib.bytesWorld w 5 k).setCell ⟨w.heap.size, q, none⟩ (.int .u8 u.toNat)).cell? ⟨w.heap.size, j, none⟩ := by unfold World.cell?; rw [hW]
  rw [show (⟨w.heap.size, 0, none⟩ : Addr).add j = ⟨w.heap.size, j, none⟩ from (by unfold Addr.add; split <;> simp_all), hW3, hs, Array.getElem?_setIfInBounds]
  have hsz : j < (Lib.bytesCells w 5 k).size := by
    rcases Nat.lt_or_ge j (Lib.bytesCells w 5 k).size with h | h
    · exact h
    · rw [Array.getElem?_eq_none h] at hc; cases hc
  by_cases e : q = j
  · subst e
    simp [hsz]
  · rw [if_neg e, hc, List.getElem_set_ne e]
    simp [List.getD, List.getElem?_eq_getElem hl]
theorem cells_grown {w w' : World} {g : Nat} {L : List UInt8} (g1 : w.grownBy w' none) (h : ∀ j (hj : j < L.length), w.cell? ((⟨g, 0, none⟩ : Addr).add j) = some (.int .u8 (L[j]'hj).toNat)) : ∀ j (hj : j < L.length), w'.cell? ((⟨g, 0, none⟩ : Addr).add j) = some (.int .u8 (L[j]'hj).toNat) :=
  fun j hj => g1.cell (h j hj) (by simp)
end Go.Proofs.YtioahjdojgcfdaaDoor
