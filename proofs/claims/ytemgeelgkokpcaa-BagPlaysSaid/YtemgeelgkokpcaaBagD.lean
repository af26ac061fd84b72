/- The walks of a bag's For, Take. -/
import Derived.Test.YtemgeelgkokpcaaBagC
namespace Go.Proofs.Ytemgeelgkokpcaa
open Go.RowKit

theorem grown_rowB {a b c : World} {row : Option Nat} (h : a.grownBy b none) (k : b.grownBy c row) (hn : ∀ g, row = some g → a.heap.size ≤ g) : a.grownBy c none :=
  ⟨k.os.trans h.os, k.tape.trans h.tape, k.output.trans h.output, Nat.le_trans h.size k.size, fun i hi _ => (k.block i (Nat.lt_of_lt_of_le hi h.size) (fun e => by have := hn i e.symm; omega)).trans (h.block i hi (by simp))⟩
/-- a row of letters -/
def LetsAt (w : World) (v : Value) (L : List LetS) : Prop :=
  ∃ a cap, v = .slice a L.length cap ∧ ∀ i (h : i < L.length), ∃ g, a = some ⟨g, 0, none⟩ ∧ w.cell? ⟨g, i * 4, none⟩ = some (.int .i64 L[i].t) ∧ w.cell? ⟨g, i * 4 + 1, none⟩ = some (.int .i64 L[i].f) ∧ w.cell? ⟨g, i * 4 + 2, none⟩ = some (.int .i64 L[i].k) ∧ w.cell? ⟨g, i * 4 + 3, none⟩ = some (.string L[i].b)
theorem LetsAt.grown {w w' : World} {v : Value} {L : List LetS} (h : LetsAt w v L) (k : w.grownBy w' none) : LetsAt w' v L := by
  obtain ⟨a, cap, rfl, hc⟩ := h
  refine ⟨a, cap, rfl, fun i hi => ?_⟩
  obtain ⟨g, ha, c0, c1, c2, c3⟩ := hc i hi
  exact ⟨g, ha, k.cell c0 (by simp), k.cell c1 (by simp), k.cell c2 (by simp), k.cell c3 (by simp)⟩
theorem LetsAt.at_ {w : World} {a : Option Addr} {n cap : Nat} {L : List LetS} (h : LetsAt w (.slice a n cap) L) (i : Nat) (x : LetS) (hx : L[i]? = some x) : ∃ g, a = some ⟨g, 0, none⟩ ∧ w.cell? ⟨g, i * 4, none⟩ = some (.int .i64 x.t) ∧ w.cell? ⟨g, i * 4 + 1, none⟩ = some (.int .i64 x.f) ∧ w.cell? ⟨g, i * 4 + 2, none⟩ = some (.int .i64 x.k) ∧ w.cell? ⟨g, i * 4 + 3, none⟩ = some (.string x.b) := by
  obtain ⟨a', cap', e, hc⟩ := h
  cases e
  obtain ⟨hi, rfl⟩ := List.getElem?_eq_some_iff.1 hx
  exact hc i hi
theorem LetsAt.len {w : World} {a : Option Addr} {n cap : Nat} {L : List LetS} (h : LetsAt w (.slice a n cap) L) : L.length = n := by
  obtain ⟨_, _, e, _⟩ := h
  injection e with _ e _
  exact e.symm
theorem lets_own {w : World} {B : Nat} {v : Value} {L : List LetS} (h : w.ownsRow B 30 4 v L.length (letsV L)) : LetsAt w v L := by
  rcases h.2 with ⟨rfl, h0⟩ | ⟨g, cap, cur, rfl, hB, hg, h1, h2, h3, h4⟩
  · exact ⟨none, 0, by rw [h0], fun i hi => by omega⟩
  · have hc : ∀ i j, i < L.length → j < 4 → w.cell? ⟨g, i * 4 + j, none⟩ = (letsV L)[i * 4 + j]? := by
      intro i j hi hj
      rw [← h4, List.getElem?_take, if_pos (by omega), cell_of hg]
      simp
    refine ⟨some ⟨g, 0, none⟩, cap, rfl, fun i hi => ⟨g, rfl, ?_, ?_, ?_, ?_⟩⟩
    · exact (hc i 0 hi (by decide)).trans (letsV_at L i 0 hi (by decide))
    · exact (hc i 1 hi (by decide)).trans (letsV_at L i 1 hi (by decide))
    · exact (hc i 2 hi (by decide)).trans (letsV_at L i 2 hi (by decide))
    · exact (hc i 3 hi (by decide)).trans (letsV_at L i 3 hi (by decide))
set_option maxRecDepth 100000 in
set_option maxHeartbeats 1600000 in
theorem for1_any (y : LetS) (z : Int) (bx : Nat) (w : World) (hx : w.heap[bx]? = some (.cells #[.int .i64 z] 3 (0, 0))) :
    Calls Try.prog 16 #[y.val, .pointer (some ⟨bx, 0, none⟩)] w fun e w' => e = .returned (.bool (decide (y.t = z))) ∧ w.grownBy w' none := by
  obtain ⟨t, f, k, b⟩ := y
  have hg0 := World.grownBy_alloc w (.cells #[.int .i64 t, .int .i64 f, .int .i64 k, .string b] 30) none
  have hb0 := heap_alloc_at w (.cells #[.int .i64 t, .int .i64 f, .int .i64 k, .string b] 30) _ rfl
  obtain ⟨W0, hW0⟩ : ∃ W0, w.alloc (.cells #[.int .i64 t, .int .i64 f, .int .i64 k, .string b] 30) = W0 := ⟨_, rfl⟩
  rw [hW0] at hg0 hb0
  obtain ⟨y0, y1, y2, y3⟩ := cells4B hb0
  have x0 : W0.cell? ⟨bx, 0, none⟩ = some (.int .i64 z) := by rw [cell_of (hg0.heap hx (by simp))]; rfl
  have HG := Lib.hid hg0
  have HW := Lib.hid hW0
  unfold LetS.val LetS.cells
  clear hg0 hb0 hW0 hx
  go_enter Try.func16, Try.ntmps16
  go_wp2_with (rw [HW.out])
  go_ret
  exact ⟨rfl, HG.out⟩
theorem forL_at {L : List LetS} {z : Int} {k : Nat} (hk : k < L.length) (h : ∀ j (hj : j < L.length), j < k → L[j].t ≠ z) (he : L[k].t = z) : forL L z = (k : Int) := by
  unfold forL
  have : L.findIdx? (fun x => decide (x.t = z)) = some k := List.findIdx?_eq_some_iff_getElem.2 ⟨hk, by simpa using he, fun j hj => by simpa using h j (by omega) hj⟩
  rw [this]
theorem forL_none {L : List LetS} {z : Int} (h : ∀ j (hj : j < L.length), L[j].t ≠ z) : forL L z = -1 := by
  unfold forL
  have : L.findIdx? (fun x => decide (x.t = z)) = none := List.findIdx?_eq_none_iff.2 (fun x hx => by
    obtain ⟨j, hj, rfl⟩ := List.getElem_of_mem hx
    simpa using h j hj)
  rw [this]
set_option maxRecDepth 100000 in
set_option maxHeartbeats 1600000 in
theorem bindex_any (z : Int) (bx : Nat) (a : Option Addr) (n c : Nat) (L : List LetS) (w : World) (hx : w.heap[bx]? = some (.cells #[.int .i64 z] 3 (0, 0))) (hv : LetsAt w (.slice a n c) L) (hn : n ≤ 1000) :
    Calls Try.prog 15 #[.slice a n c, .func (Fn.func 16) #[] #[.pointer (some ⟨bx, 0, none⟩)]] w fun e w' => e = .returned (.int .i64 (forL L z)) ∧ w.grownBy w' none := by
  have hln := hv.len
  have HV := Lib.hid hv
  have HX := Lib.hid hx
  have HLN := Lib.hid hln
  clear hv hx hln
  go_enter Try.func15, Try.ntmps15
  go_wp2_with fail
  go_loopw [5, 8] (fun _ iv wr => ∃ k : Nat, k ≤ n ∧ iv = .int .i64 k ∧ Hid (∀ j (hj : j < L.length), j < k → L[j].t ≠ z) ∧ Hid (w.grownBy wr none)) (fun _ iv _ => n - (intOf iv).toNat)
  case atStart => exact ⟨0, Nat.zero_le _, rfl, Lib.hid (fun j hj h => by omega), World.grownBy.refl _ _⟩
  case round =>
    obtain ⟨k, hk, rfl, HK, HG⟩ := hrel
    by_cases hlt : k < n
    · have d1 : (k : Int) < (n : Int) := by omega
      have d0 : (0 : Int) ≤ (k : Int) := by omega
      have hkl : k < L.length := by have := HLN.out; omega
      obtain ⟨y, hy⟩ : ∃ y, L[k]? = some y := ⟨_, List.getElem?_eq_getElem hkl⟩
      have hye : L[k] = y := (List.getElem?_eq_some_iff.1 hy).2
      obtain ⟨g, rfl, c0, c1, c2, c3⟩ := HV.out.at_ k y hy
      have c0 := HG.out.cell c0 (by simp)
      have c1 := HG.out.cell c1 (by simp)
      have c2 := HG.out.cell c2 (by simp)
      have c3 := HG.out.cell c3 (by simp)
      have HF := Lib.hid (for1_any y z bx wr (HG.out.heap HX.out (by simp)))
      unfold LetS.val LetS.cells at HF
      have HYE : Hid (∃ h : k < L.length, L[k] = y) := Lib.hid ⟨hkl, hye⟩
      obtain ⟨q, hq⟩ : ∃ q, decide (y.t = z) = q := ⟨_, rfl⟩
      rw [hq] at HF
      have HQ := Lib.hid hq
      clear hq hy hye hkl
      cases q
      · go_wp2_with fail
        refine HF.out.mono ?_
        rintro e w3 ⟨rfl, g3⟩
        have HG3 := Lib.hid (grownBy_trans HG.out g3)
        clear g3
        go_wp2_with fail
        go_roundw
        case rel => exact ⟨k + 1, by omega, by go_num, Lib.hid (fun j hj h => by
          rcases Nat.lt_or_ge j k with h1 | h1
          · exact HK.out j hj h1
          · obtain rfl : j = k := by omega
            obtain ⟨_, he⟩ := HYE.out
            rw [he]
            exact of_decide_eq_false HQ.out), HG3⟩
        case measure => simp [intOf]; omega
      · go_wp2_with fail
        refine HF.out.mono ?_
        rintro e w3 ⟨rfl, g3⟩
        have HG3 := Lib.hid (grownBy_trans HG.out g3)
        clear g3
        go_wp2_with fail
        go_ret
        refine ⟨?_, HG3.out⟩
        obtain ⟨hkl, he⟩ := HYE.out
        rw [forL_at hkl HK.out (by rw [he]; exact of_decide_eq_true HQ.out)]; rfl
    · have hkn : k = n := by omega
      have d1 : ¬ (k : Int) < (n : Int) := by omega
      have hfin : forL L z = -1 := forL_none (fun j hj => HK.out j hj (by have := HLN.out; omega))
      have HFI := Lib.hid hfin
      clear hfin hkn
      go_wp2_with fail
      go_ret
      exact ⟨by rw [HFI.out]; rfl, HG.out⟩
set_option maxRecDepth 100000 in
set_option maxHeartbeats 1600000 in
theorem bfor_k (z : Int) (n0 bb : Nat) (X : List Nat) (L : List LetS) (w : World) (hB : KBag n0 X w bb L) (hl : L.length ≤ 256) :
    Calls Try.prog 10 #[.pointer (some ⟨bb, 0, none⟩), .int .i64 z] w fun e w' => e = .returned (.int .i64 (forL L z)) ∧ w.grownBy w' none := by
  obtain ⟨v, hA, _, _⟩ := hB
  obtain ⟨a, c, rfl⟩ := hA.form
  have hg0 := World.grownBy_alloc w (.cells #[.int .i64 z] 3) none
  have hb0 := heap_alloc_at w (.cells #[.int .i64 z] 3) _ rfl
  have HC := Lib.hid (bindex_any z w.heap.size a L.length c L (w.alloc (.cells #[.int .i64 z] 3)) hb0 ((lets_own hA.o).grown hg0) (by omega))
  have c0 : (w.alloc (.cells #[.int .i64 z] 3)).cell? ⟨bb, 0, none⟩ = some (.slice a L.length c) := by rw [cell_of (hg0.heap hA.h (by simp))]; rfl
  have HG := Lib.hid hg0
  obtain ⟨W0, hW0⟩ : ∃ W0, w.alloc (.cells #[.int .i64 z] 3) = W0 := ⟨_, rfl⟩
  rw [hW0] at HC c0 HG
  have HW := Lib.hid hW0
  clear hg0 hb0 hA hW0
  go_enter Try.func10, Try.ntmps10
  go_wp2_with (rw [HW.out])
  refine HC.out.mono ?_
  rintro e w1 ⟨rfl, g1⟩
  have HG1 := Lib.hid (grownBy_trans HG.out g1)
  clear g1
  go_wp2_with fail
  go_ret
  exact ⟨rfl, HG1.out⟩
theorem results_btake {n : Nat} {v0 v1 v2 v3 : Value} {z : Bool} {tmps : Array Value} {w : World} (h6 : tmps[4]? = some (.pointer (some ⟨n, 0, none⟩))) (h7 : tmps[5]? = some (.bool z)) (hb : w.heap[n]? = some (.cells #[v0, v1, v2, v3] 30 (0, 0))) :
    (results Try.f6 tmps).run Try.prog w = .ok (.tuple #[.agg #[v0, v1, v2, v3], .bool z]) w := by
  obtain ⟨c0, c1, c2, c3⟩ := cells4B hb
  simp [results, Try.results6, go_sem, h6, h7, c0, c1, c2, c3]
theorem heap4B {w : World} {n : Nat} {t : TypeId} {u0 u1 u2 u3 : Value} (h : w.heap[n]? = some (.cells #[u0, u1, u2, u3] t (0, 0))) (v0 v1 v2 v3 : Value) :
    ((((w.setCell ⟨n, 0, none⟩ v0).setCell ⟨n, 1, none⟩ v1).setCell ⟨n, 2, none⟩ v2).setCell ⟨n, 3, none⟩ v3).heap[n]? = some (.cells #[v0, v1, v2, v3] t (0, 0)) :=
  (heap_setCell (heap_setCell (heap_setCell (heap_setCell h 0 v0) 1 v1) 2 v2) 3 v3).trans rfl
theorem grown4B (w : World) (n : Nat) (v0 v1 v2 v3 : Value) : w.grownBy ((((w.setCell ⟨n, 0, none⟩ v0).setCell ⟨n, 1, none⟩ v1).setCell ⟨n, 2, none⟩ v2).setCell ⟨n, 3, none⟩ v3) (some n) :=
  grownBy_setCell (grownBy_setCell (grownBy_setCell (grownBy_setCell (World.grownBy.refl w _) 0 _) 1 _) 2 _) 3 _
def letZ : LetS := ⟨0, 0, 0, ⟨#[]⟩⟩
set_option maxRecDepth 100000 in
set_option maxHeartbeats 1600000 in
theorem btake_none (i : Int) (n0 bb : Nat) (X : List Nat) (w : World) (hB : KBag n0 X w bb []) :
    Calls Try.prog 6 #[.pointer (some ⟨bb, 0, none⟩), .int .i64 i] w fun e w' => e = .returned (.tuple #[letZ.val, .bool false]) ∧ w.grownBy w' none := by
  obtain ⟨m, hm⟩ : ∃ m, w.heap.size = m := ⟨_, rfl⟩
  have hb0 := heap_alloc_at w (.cells #[.int .i64 0, .int .i64 0, .int .i64 0, .string ⟨#[]⟩] 30) m hm
  have hg0 := World.grownBy_alloc w (.cells #[.int .i64 0, .int .i64 0, .int .i64 0, .string ⟨#[]⟩] 30) none
  obtain ⟨W0, hW0⟩ : ∃ W0, w.alloc (.cells #[.int .i64 0, .int .i64 0, .int .i64 0, .string ⟨#[]⟩] 30) = W0 := ⟨_, rfl⟩
  rw [hW0] at hb0 hg0
  have HLE := Lib.hid (blen_k (hB.go hg0))
  have HW := Lib.hid (And.intro hW0 hm)
  have uf := fun j => free_of hb0 j
  have hfin : ∀ v0 v1 v2 v3, w.grownBy ((((W0.setCell ⟨m, 0, none⟩ v0).setCell ⟨m, 1, none⟩ v1).setCell ⟨m, 2, none⟩ v2).setCell ⟨m, 3, none⟩ v3) none := fun v0 v1 v2 v3 => grown_rowB hg0 (grown4B W0 m v0 v1 v2 v3) (fun y e => by cases e; omega)
  obtain ⟨u0, u1, u2, u3⟩ := cells4B hb0
  have HFIN := Lib.hid (And.intro hfin hb0)
  rw [List.length_nil] at HLE
  clear hb0 hg0 hW0 hm hB hfin
  go_enter Try.func6, Try.ntmps6
  go_wp2_with (rw [HW.out.1, HW.out.2])
  refine HLE.out.mono ?_
  rintro e w1 ⟨rfl, rfl⟩
  go_wp2_with fail
  refine bodyPost_ret (results_btake (n := m) (v0 := .int .i64 0) (v1 := .int .i64 0) (v2 := .int .i64 0) (v3 := .string ⟨#[]⟩) rfl rfl (heap4B HFIN.out.2 _ _ _ _)) rfl ?_
  exact ⟨rfl, HFIN.out.1 _ _ _ _⟩
end Go.Proofs.Ytemgeelgkokpcaa
