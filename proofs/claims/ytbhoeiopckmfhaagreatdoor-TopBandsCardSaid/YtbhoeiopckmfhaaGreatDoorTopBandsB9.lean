/- The walks of xmss.Sign, hasPlace, Verify. · The walks of xmss.Sign of an index that may not be, and of hasPlace. · What a signer holds in memory; the walks of nextOf, Next, Public, reserve. · The walks of a signer's reserve and Sign. · The walk of a signer's Sign. · A key's own signatures are verified: plain words. · Arguments opened: arrays of bytes, slices of integers. No walk. -/
import Derived.Test.YtbhoeiopckmfhaaGreatDoorTopBandsB8
import Derived.Deep.RegionHeld3
import Derived.Test.YtbhoeiopckmfhaaGreatDoorTopBandsB7
import Derived.Test.YtbhoeiopckmfhaaGreatDoorTopBandsB5
import Derived.Test.YtbhoeiopckmfhaaGreatDoorTopBandsB2
import Derived.Test.YtbhoeiopckmfhaaGreatDoorTopBandsB1
import Derived.OpenShut
import Derived.WideKeyArr2
import Derived.ChangeSlices
namespace Go.Proofs.YtbhoeiopckmfhaaGreatDoor
open Go.RowKit
attribute [local irreducible] shaL

def sigV (i : Nat) (c p : Value) : Value := .agg #[.int .i64 i, c, p]
def chainsS (seed : ByteArray) (i : Nat) (m : ByteArray) : List ByteArray := sigS seed i (digs (digestS (openS seed) i m).data.toList) 35
theorem StrsAt.hold {w : World} {v : Value} {L : List ByteArray} (hv : StrsAt w v L) (h0 : 0 < L.length) : ∀ g o n c, v = .slice (some ⟨g, o, none⟩) n c → g < w.heap.size := by
  rintro g o n c rfl
  exact hv.lt h0
theorem sign_keep {w a c : World} {b : Nat} {x0 x2 x3 x4 : Value} (h : w.grownBy a none) (g : a.grownBy c none) (k0 : w.cell? ⟨b, 0, none⟩ = some x0) (k2 : w.cell? ⟨b, 2, none⟩ = some x2) (k3 : w.cell? ⟨b, 3, none⟩ = some x3) (k4 : w.cell? ⟨b, 4, none⟩ = some x4) :
    w.grownBy c none ∧ c.cell? ⟨b, 0, none⟩ = some x0 ∧ c.cell? ⟨b, 2, none⟩ = some x2 ∧ c.cell? ⟨b, 3, none⟩ = some x3 ∧ c.cell? ⟨b, 4, none⟩ = some x4 :=
  have hg := grownBy_trans h g
  ⟨hg, hg.cell k0 (by simp), hg.cell k2 (by simp), hg.cell k3 (by simp), hg.cell k4 (by simp)⟩
set_option maxHeartbeats 1600000 in
set_option maxRecDepth 100000 in
theorem xsign_new (b : Nat) (seed m : ByteArray) (h i : Nat) (hh : h ≤ 6) (hi : i < 2 ^ h) (hs : seed.size ≤ 1000000000000) (hm : m.size ≤ 1000000000000) (w : World) (hk : KeyAt w b seed h) (hr : ShaReady w) :
    Calls Tryz.prog 95 #[.pointer (some ⟨b, 0, none⟩), .int .i64 i, .string m] w fun e w' => ∃ c p, e = .returned (.tuple #[sigV i c p, .int .i64 0]) ∧ StrsAt w' c (chainsS seed i m) ∧ StrsAt w' p (pathS h (leavesS seed h) i) ∧ (∀ x, c.ownBlock = some x → w.heap.size ≤ x) ∧ (∀ x, p.ownBlock = some x → w.heap.size ≤ x) ∧ w.grownBy w' none := by
  have HR := Lib.hid hr
  obtain ⟨N, hN⟩ : ∃ N, 2 ^ h = N := ⟨_, rfl⟩
  have HN := Lib.hid hN
  have hi6 : i < 64 := Nat.lt_of_lt_of_le hi (pow_le64 h hh)
  have HK := Lib.hid hk
  obtain ⟨a, cap, h1, h2⟩ := hk
  rw [hN] at h1 h2
  have HH := Lib.hid h1
  have HL := Lib.hid h2
  have hpath : Hid (∀ w0, w.grownBy w0 none → Calls Tryz.prog 139 #[.slice a N cap, .int .i64 i] w0 fun e w' => ∃ v', e = .returned (.tuple #[v', .int .i64 0]) ∧ w'.ownsRow w0.heap.size 9 1 v' h (strsV (pathS h (leavesS seed h) i)) ∧ w0.grownBy w' none) := fun w0 h0 =>
    path_ok _ (leavesS seed h) h i hh (leavesS_length seed h) hi (fun s hs => by rw [leavesS_sizes seed h s hs]; decide) w0 (h2.grown h0) ((h2.grown h0).hold (by rw [leavesS_length]; exact Nat.pow_pos (by decide))) (hr.grown h0)
  have hiN : i < N := by rw [← hN]; exact hi
  have hn1 : (i : Int) < (N : Int) := by omega
  have hdg : Hid (∀ w0, ShaReady w0 → Calls Tryz.prog 103 #[.agg #[.string (openS seed), .string (rootK seed h), .int .i64 h], .int .i64 i, .string m] w0 fun e w' => e = .returned (.string (digestS (openS seed) i m)) ∧ w0.grownBy w' none) := fun w0 h0 => digest_any (openS seed) (rootK seed h) m h i (by omega) (by rw [openS_size]; decide) hm w0 h0
  have hsg : Hid (∀ w0, w.grownBy w0 none → ShaReady w0 → Calls Tryz.prog 140 #[.string seed, .int .i64 i, .string (digestS (openS seed) i m)] w0 fun e w' => ∃ v, e = .returned (.tuple #[v, .int .i64 0]) ∧ StrsAt w' v (chainsS seed i m) ∧ (∀ x, v.ownBlock = some x → w.heap.size ≤ x) ∧ w0.grownBy w' none) := fun w0 k0 h0 => (wsign_new seed (digestS (openS seed) i m) i hs (digestS_size _ _ _) (by omega) w0 h0).mono (by
    rintro e w' ⟨v, rfl, h1, h2⟩
    have hL := sigS_length seed i (digs (digestS (openS seed) i m).data.toList) 35
    exact ⟨v, rfl, strs_row h1 hL, fun x e => Nat.le_trans k0.size (h1.lt x e).1, h2⟩)
  generalize digestS (openS seed) i m = D at hdg hsg
  have HCL : Hid ((chainsS seed i m).length = 35) := sigS_length _ _ _ _
  generalize chainsS seed i m = C at hsg HCL ⊢
  generalize openS seed = O at hdg HH
  generalize rootK seed h = R at hdg HH
  generalize pathS h (leavesS seed h) i = P at hpath ⊢
  have c1 := cell_of HH.out 1
  simp at c1
  clear hr h1 h2 hN hi HL
  go_enter Tryz.func95, Tryz.ntmps95
  go_wp2_with fail
  have hg0 : Hid (w.grownBy (w.alloc (.cells #[.int .i64 0, .slice none 0 0, .slice none 0 0] 50)) none) := World.grownBy_alloc _ _ _
  have hzc : Hid ((w.alloc (.cells #[.int .i64 0, .slice none 0 0, .slice none 0 0] 50)).heap[w.heap.size]? = some (.cells #[.int .i64 0, .slice none 0 0, .slice none 0 0] 50 (0, 0))) := heap_alloc_at _ _ _ rfl
  have HWS : Hid (w.heap.size < (w.alloc (.cells #[.int .i64 0, .slice none 0 0, .slice none 0 0] 50)).heap.size) := by show w.heap.size < (w.heap.push _).size; rw [Array.size_push]; exact Nat.lt_succ_self _
  have hcount := Lib.hid (count_any b seed h N HN.out _ (HK.out.grown hg0.out))
  generalize w.alloc (.cells #[.int .i64 0, .slice none 0 0, .slice none 0 0] 50) = wz at hg0 hzc hcount HWS ⊢
  have c1z := hg0.out.cell c1 (by simp)
  refine hcount.out.mono ?_
  rintro e w1 ⟨rfl, rfl⟩
  go_wp2_with fail
  refine (hpath.out _ hg0.out).mono ?_
  rintro e w2 ⟨v2, rfl, ho2, g2⟩
  obtain ⟨pa, pc, rfl⟩ := slice_own' ho2
  have HP2 := Lib.hid (strs_own ho2)
  have HPB := Lib.hid ho2.lt
  have G2 := Lib.hid (grownBy_trans hg0.out g2)
  have HZ2 : Hid (w2.heap[w.heap.size]? = some (.cells #[.int .i64 0, .slice none 0 0, .slice none 0 0] 50 (0, 0))) := (g2.block _ (Array.getElem?_eq_some_iff.1 hzc.out).1 (by simp)).trans hzc.out
  have hk2 := (G2.out.block _ (Array.getElem?_eq_some_iff.1 HH.out).1 (by simp)).trans HH.out
  have k0 := cell_of hk2 0
  have k2 := cell_of hk2 2
  have k3 := cell_of hk2 3
  have k4 := cell_of hk2 4
  simp at k0 k2 k3 k4
  have HR2 := Lib.hid (HR.out.grown G2.out)
  clear g2 ho2 hpath hcount hzc hg0 hk2 c1 c1z
  go_wp2_with fail
  go_region_held3 (fun w' => w2.grownBy w' none ∧ w'.cell? ⟨b, 0, none⟩ = some (.string seed) ∧ w'.cell? ⟨b, 2, none⟩ = some (.string O) ∧ w'.cell? ⟨b, 3, none⟩ = some (.string R) ∧ w'.cell? ⟨b, 4, none⟩ = some (.int .i64 h)) (first | exact ck | exact ⟨grownBy_drew (World.grownBy.refl _ _), k0, k2, k3, k4⟩)
    (first
      | (go_at_call 103; (with_reducible refine (hdg.out _ (HR2.out.grown (grownBy_drew (World.grownBy.refl _ _)))).mono ?_); rintro e w6 ⟨rfl, g6⟩; have ck := sign_keep (grownBy_drew (World.grownBy.refl w2 none)) g6 k0 k2 k3 k4)
      | (go_at_call 140; (with_reducible refine (hsg.out _ (grownBy_trans G2.out ck.1) (HR2.out.grown ck.1)).mono ?_); rintro e w7 ⟨v7, rfl, hs7, hn7, g7⟩; have ck := sign_keep ck.1 g7 k0 k2 k3 k4))
  obtain ⟨a7, cc7, rfl⟩ := hs7.form
  have HN7 := Lib.hid hn7
  have hg7 := Lib.hid ck.1
  have hz7 := (hg7.out.block _ (Array.getElem?_eq_some_iff.1 HZ2.out).1 (by simp)).trans HZ2.out
  have z0 := cell_of hz7 0
  have z1 := cell_of hz7 1
  have z2 := cell_of hz7 2
  have f0 := free_of hz7 0
  have f1 := free_of hz7 1
  have f2 := free_of hz7 2
  simp at z0 z1 z2
  have HZ7 := Lib.hid hz7
  have HS7 := Lib.hid hs7
  have HP7 := Lib.hid (HP2.out.grown hg7.out)
  clear ck hs7 hn7 hz7 k0 k2 k3 k4
  go_wp2_with fail
  have hW := heap_setCell (heap_setCell (heap_setCell HZ7.out 0 (.int .i64 i)) 1 (.slice a7 C.length cc7)) 2 (.slice pa h pc)
  have hWg : w7.grownBy (((w7.setCell ⟨w.heap.size, 0, none⟩ (.int .i64 i)).setCell ⟨w.heap.size, 1, none⟩ (.slice a7 C.length cc7)).setCell ⟨w.heap.size, 2, none⟩ (.slice pa h pc)) (some w.heap.size) := grownBy_setCell (grownBy_setCell (grownBy_setCell (World.grownBy.refl _ _) 0 _) 1 _) 2 _
  generalize ((w7.setCell ⟨w.heap.size, 0, none⟩ (.int .i64 i)).setCell ⟨w.heap.size, 1, none⟩ (.slice a7 C.length cc7)).setCell ⟨w.heap.size, 2, none⟩ (.slice pa h pc) = wf at hW hWg ⊢
  have y0 := cell_of hW 0
  have y1 := cell_of hW 1
  have y2 := cell_of hW 2
  simp at y0 y1 y2
  refine bodyPost_ret (by simp [results, Tryz.results95, go_sem, y0, y1, y2]; try rfl) rfl ?_
  refine ⟨_, _, rfl, ?_, ?_, HN7.out, fun x e => Nat.le_trans (Nat.le_of_lt HWS.out) (HPB.out x e).1, ?_⟩
  · refine HS7.out.beside hWg ?_
    rintro g o rfl e
    cases e
    obtain ⟨g', o', e', hc⟩ := HS7.out.at_ 0 _ (List.getElem?_eq_getElem (by rw [HCL.out]; decide))
    cases e'
    rw [cell_of HZ7.out] at hc
    have hlt := (List.getElem?_eq_some_iff.1 (by simpa using hc : ([Value.int .i64 0, .slice none 0 0, .slice none 0 0] : List Value)[o + 0]? = some (.string _))).1
    have ho : o = 0 ∨ o = 1 ∨ o = 2 := by simp at hlt; omega
    rcases ho with rfl | rfl | rfl <;> simp at hc
  · refine HP7.out.beside hWg ?_
    rintro g o rfl e
    cases e
    have h1 := (HPB.out w.heap.size rfl).1
    have h2 := HWS.out
    exact absurd h1 (Nat.not_le_of_lt h2)
  · exact grown_row (grownBy_trans G2.out hg7.out) hWg (by intro g e; cases e; exact Nat.le_refl _)
theorem xsign_any (b : Nat) (seed m : ByteArray) (h i : Nat) (hh : h ≤ 6) (hi : i < 2 ^ h) (hs : seed.size ≤ 1000000000000) (hm : m.size ≤ 1000000000000) (w : World) (hk : KeyAt w b seed h) (hr : ShaReady w) :
    Calls Tryz.prog 95 #[.pointer (some ⟨b, 0, none⟩), .int .i64 i, .string m] w fun e w' => ∃ c p, e = .returned (.tuple #[sigV i c p, .int .i64 0]) ∧ StrsAt w' c (chainsS seed i m) ∧ StrsAt w' p (pathS h (leavesS seed h) i) ∧ w.grownBy w' none :=
  (xsign_new b seed m h i hh hi hs hm w hk hr).mono (by
    rintro e w' ⟨c, p, rfl, h1, h2, _, _, h3⟩
    exact ⟨c, p, rfl, h1, h2, h3⟩)
end Go.Proofs.YtbhoeiopckmfhaaGreatDoor

namespace Go.Proofs.YtbhoeiopckmfhaaGreatDoor
open Go.RowKit
attribute [local irreducible] shaL

def sigZ : Value := sigV 0 (.slice none 0 0) (.slice none 0 0)
set_option maxHeartbeats 800000 in
set_option maxRecDepth 100000 in
theorem xsign_spent (b : Nat) (seed m : ByteArray) (h : Nat) (i : Int) (hi : ((2 ^ h : Nat) : Int) ≤ i) (w : World) (hk : KeyAt w b seed h) :
    Calls Tryz.prog 95 #[.pointer (some ⟨b, 0, none⟩), .int .i64 i, .string m] w fun e w' => e = .returned (.tuple #[sigZ, .int .i64 11]) ∧ w.grownBy w' none := by
  obtain ⟨N, hN⟩ : ∃ N, 2 ^ h = N := ⟨_, rfl⟩
  rw [hN] at hi
  have HK := Lib.hid hk
  have HN := Lib.hid hN
  clear hk hN
  go_enter Tryz.func95, Tryz.ntmps95
  go_wp2_with fail
  refine (count_any b seed h N HN.out _ (HK.out.grown (World.grownBy_alloc _ _ _))).mono ?_
  rintro e w1 ⟨rfl, rfl⟩
  have hzc : (w.alloc (.cells #[.int .i64 0, .slice none 0 0, .slice none 0 0] 50)).heap[w.heap.size]? = some (.cells #[.int .i64 0, .slice none 0 0, .slice none 0 0] 50 (0, 0)) := heap_alloc_at _ _ _ rfl
  have hg0 : w.grownBy (w.alloc (.cells #[.int .i64 0, .slice none 0 0, .slice none 0 0] 50)) none := World.grownBy_alloc _ _ _
  have HG0 := Lib.hid hg0
  have HZ := Lib.hid hzc
  clear hzc hg0
  generalize w.alloc (.cells #[.int .i64 0, .slice none 0 0, .slice none 0 0] 50) = wz at *
  have z0 := cell_of HZ.out 0
  have z1 := cell_of HZ.out 1
  have z2 := cell_of HZ.out 2
  have f0 := free_of HZ.out 0
  have f1 := free_of HZ.out 1
  have f2 := free_of HZ.out 2
  simp at z0 z1 z2
  go_wp2_with fail
  have hW := heap_setCell (heap_setCell (heap_setCell HZ.out 0 (.int .i64 0)) 1 (.slice none 0 0)) 2 (.slice none 0 0)
  have hWg : w.grownBy (((wz.setCell ⟨w.heap.size, 0, none⟩ (.int .i64 0)).setCell ⟨w.heap.size, 1, none⟩ (.slice none 0 0)).setCell ⟨w.heap.size, 2, none⟩ (.slice none 0 0)) none := grownBy_setNew (grownBy_setNew (grownBy_setNew HG0.out (Nat.le_refl _) 0 _) (Nat.le_refl _) 1 _) (Nat.le_refl _) 2 _
  generalize ((wz.setCell ⟨w.heap.size, 0, none⟩ (.int .i64 0)).setCell ⟨w.heap.size, 1, none⟩ (.slice none 0 0)).setCell ⟨w.heap.size, 2, none⟩ (.slice none 0 0) = wf at hW hWg ⊢
  have y0 := cell_of hW 0
  have y1 := cell_of hW 1
  have y2 := cell_of hW 2
  simp at y0 y1 y2
  try simp only [Exit.inBlock, Exit.then]
  refine bodyPost_ret (by simp [results, Tryz.results95, go_sem, y0, y1, y2]; try rfl) rfl ?_
  exact ⟨rfl, hWg⟩

set_option maxHeartbeats 800000 in
set_option maxRecDepth 100000 in
theorem xsign_neg (b : Nat) (seed m : ByteArray) (h : Nat) (i : Int) (hh : h ≤ 6) (hi : i < 0) (w : World) (hk : KeyAt w b seed h) :
    Calls Tryz.prog 95 #[.pointer (some ⟨b, 0, none⟩), .int .i64 i, .string m] w fun e w' => e = .returned (.tuple #[sigZ, .int .i64 10]) ∧ w.grownBy w' none := by
  obtain ⟨N, hN⟩ : ∃ N, 2 ^ h = N := ⟨_, rfl⟩
  have HK := Lib.hid hk
  have HN := Lib.hid hN
  obtain ⟨a, cap, h1, h2⟩ := hk
  rw [hN] at h1 h2
  have hpath : Hid (∀ w0, w.grownBy w0 none → Calls Tryz.prog 139 #[.slice a N cap, .int .i64 i] w0 fun e w' => e = .returned (.tuple #[.slice none 0 0, .int .i64 10]) ∧ w0 = w') := fun w0 h0 =>
    path_out _ (leavesS seed h) i (by rw [leavesS_length]; exact treeB_pow h hh) (Or.inl hi) w0 (h2.grown h0)
  have c1 := cell_of h1 1
  simp at c1
  have hlt : i < (N : Int) := by omega
  clear h1 h2 hN
  go_enter Tryz.func95, Tryz.ntmps95
  go_wp2_with fail
  refine (count_any b seed h N HN.out _ (HK.out.grown (World.grownBy_alloc _ _ _))).mono ?_
  rintro e w1 ⟨rfl, rfl⟩
  have hzc : (w.alloc (.cells #[.int .i64 0, .slice none 0 0, .slice none 0 0] 50)).heap[w.heap.size]? = some (.cells #[.int .i64 0, .slice none 0 0, .slice none 0 0] 50 (0, 0)) := heap_alloc_at _ _ _ rfl
  have hg0 : w.grownBy (w.alloc (.cells #[.int .i64 0, .slice none 0 0, .slice none 0 0] 50)) none := World.grownBy_alloc _ _ _
  have HG0 := Lib.hid hg0
  have HZ := Lib.hid hzc
  have c1z := hg0.cell c1 (by simp)
  clear hzc hg0
  generalize w.alloc (.cells #[.int .i64 0, .slice none 0 0, .slice none 0 0] 50) = wz at *
  have z0 := cell_of HZ.out 0
  have z1 := cell_of HZ.out 1
  have z2 := cell_of HZ.out 2
  have f0 := free_of HZ.out 0
  have f1 := free_of HZ.out 1
  have f2 := free_of HZ.out 2
  simp at z0 z1 z2
  go_wp2_with fail
  refine (hpath.out _ HG0.out).mono ?_
  rintro e w2 ⟨rfl, rfl⟩
  go_wp2_with fail
  have hW := heap_setCell (heap_setCell (heap_setCell HZ.out 0 (.int .i64 0)) 1 (.slice none 0 0)) 2 (.slice none 0 0)
  have hWg : w.grownBy (((wz.setCell ⟨w.heap.size, 0, none⟩ (.int .i64 0)).setCell ⟨w.heap.size, 1, none⟩ (.slice none 0 0)).setCell ⟨w.heap.size, 2, none⟩ (.slice none 0 0)) none := grownBy_setNew (grownBy_setNew (grownBy_setNew HG0.out (Nat.le_refl _) 0 _) (Nat.le_refl _) 1 _) (Nat.le_refl _) 2 _
  generalize ((wz.setCell ⟨w.heap.size, 0, none⟩ (.int .i64 0)).setCell ⟨w.heap.size, 1, none⟩ (.slice none 0 0)).setCell ⟨w.heap.size, 2, none⟩ (.slice none 0 0) = wf at hW hWg ⊢
  have y0 := cell_of hW 0
  have y1 := cell_of hW 1
  have y2 := cell_of hW 2
  simp at y0 y1 y2
  try simp only [Exit.inBlock, Exit.then]
  refine bodyPost_ret (by simp [results, Tryz.results95, go_sem, y0, y1, y2]; try rfl) rfl ?_
  exact ⟨rfl, hWg⟩

set_option maxHeartbeats 800000 in
set_option maxRecDepth 100000 in
theorem hasPlace_any (o r : ByteArray) (h i : Nat) (hh : h ≤ 6) (hi : i < 2 ^ h) (ca : Option Addr) (cn cc : Nat) (pa : Option Addr) (pc : Nat) (w : World) :
    Calls Tryz.prog 101 #[pubV o r h, sigV i (.slice ca cn cc) (.slice pa h pc)] w fun e w' => e = .returned (.bool true) ∧ w.grownBy w' none := by
  unfold pubV sigV
  have h1 : (0 : Int) ≤ (h : Int) := by omega
  have h2 : (h : Int) < 64 := by omega
  have h0 : (0 : Int) ≤ (i : Int) := by omega
  have hq : (i : Int) / 2 ^ h = 0 := by
    have : (i : Int) < 2 ^ h := by exact_mod_cast hi
    exact Int.ediv_eq_zero_of_lt h0 this
  go_enter Tryz.func101, Tryz.ntmps101
  go_wp2_with fail
  go_ret
  exact ⟨rfl, grownBy_alloc' (World.grownBy_alloc _ _ _) _⟩

theorem climb_keep {w a c : World} {b : Nat} {x1 y0 y2 : Value} (h : w.grownBy a none) (g : a.grownBy c none) (k1 : w.cell? ⟨b, 1, none⟩ = some x1) (l0 : w.cell? ⟨b + 1, 0, none⟩ = some y0) (l2 : w.cell? ⟨b + 1, 2, none⟩ = some y2) :
    w.grownBy c none ∧ c.cell? ⟨b, 1, none⟩ = some x1 ∧ c.cell? ⟨b + 1, 0, none⟩ = some y0 ∧ c.cell? ⟨b + 1, 2, none⟩ = some y2 :=
  have hg := grownBy_trans h g
  ⟨hg, hg.cell k1 (by simp), hg.cell l0 (by simp), hg.cell l2 (by simp)⟩
theorem veri_keep {w a c : World} {b : Nat} {x0 x1 x2 y0 y1 : Value} (h : w.grownBy a none) (g : a.grownBy c none) (k0 : w.cell? ⟨b, 0, none⟩ = some x0) (k1 : w.cell? ⟨b, 1, none⟩ = some x1) (k2 : w.cell? ⟨b, 2, none⟩ = some x2) (l0 : w.cell? ⟨b + 1, 0, none⟩ = some y0) (l1 : w.cell? ⟨b + 1, 1, none⟩ = some y1) :
    w.grownBy c none ∧ c.cell? ⟨b, 0, none⟩ = some x0 ∧ c.cell? ⟨b, 1, none⟩ = some x1 ∧ c.cell? ⟨b, 2, none⟩ = some x2 ∧ c.cell? ⟨b + 1, 0, none⟩ = some y0 ∧ c.cell? ⟨b + 1, 1, none⟩ = some y1 :=
  have hg := grownBy_trans h g
  ⟨hg, hg.cell k0 (by simp), hg.cell k1 (by simp), hg.cell k2 (by simp), hg.cell l0 (by simp), hg.cell l1 (by simp)⟩
set_option maxHeartbeats 1600000 in
set_option maxRecDepth 100000 in
theorem verify_any (o r m : ByteArray) (h i : Nat) (C P : List ByteArray) (ca : Option Addr) (cc : Nat) (pa : Option Addr) (pc : Nat) (res : Bool) (hh : h ≤ 6) (hi : i < 2 ^ h) (ho : o.size = 16) (hm : m.size ≤ 1000000000000)
    (hC : C.length = 35) (hC16 : ∀ s ∈ C, s.size = 16) (hP : P.length = h) (hP16 : ∀ s ∈ P, s.size ≤ 1000000000000) (hres : ((climbS (publicOfS o i (recS o i (digs (digestS o i m).data.toList) C 35)) i P).toList == r.toList) = res)
    (w : World) (hc : StrsAt w (.slice ca 35 cc) C) (hp : StrsAt w (.slice pa h pc) P) (hr : ShaReady w) :
    Calls Tryz.prog 50 #[pubV o r h, .string m, sigV i (.slice ca 35 cc) (.slice pa h pc)] w fun e w' => e = .returned (.bool res) ∧ w.grownBy w' none := by
  have HR := Lib.hid hr
  have hi6 : i < 64 := Nat.lt_of_lt_of_le hi (pow_le64 h hh)
  have hpl : Hid (∀ w0, Calls Tryz.prog 101 #[.agg #[.string o, .string r, .int .i64 h], .agg #[.int .i64 i, .slice ca 35 cc, .slice pa h pc]] w0 fun e w' => e = .returned (.bool true) ∧ w0.grownBy w' none) := fun w0 => hasPlace_any o r h i hh hi ca 35 cc pa pc w0
  have hdg : Hid (∀ w0, ShaReady w0 → Calls Tryz.prog 103 #[.agg #[.string o, .string r, .int .i64 h], .int .i64 i, .string m] w0 fun e w' => e = .returned (.string (digestS o i m)) ∧ w0.grownBy w' none) := fun w0 h0 => digest_any o r m h i (by omega) (by rw [ho]; decide) hm w0 h0
  have hrc : Hid (∀ w0, w.grownBy w0 none → ShaReady w0 → Calls Tryz.prog 102 #[.string o, .int .i64 i, .string (digestS o i m), .slice ca 35 cc] w0 fun e w' => e = .returned (.tuple #[.string (publicOfS o i (recS o i (digs (digestS o i m).data.toList) C 35)), .int .i64 0]) ∧ w0.grownBy w' none) := fun w0 h0 hr0 =>
    wrecover_any o (digestS o i m) i _ C (by rw [ho]; decide) (digestS_size _ _ _) (by omega) hC hC16 w0 (hc.grown h0) hr0
  have hcl : Hid (∀ w0, w.grownBy w0 none → ShaReady w0 → Calls Tryz.prog 104 #[.string (publicOfS o i (recS o i (digs (digestS o i m).data.toList) C 35)), .int .i64 i, .slice pa h pc] w0 fun e w' => e = .returned (.string (climbS (publicOfS o i (recS o i (digs (digestS o i m).data.toList) C 35)) i P)) ∧ w0.grownBy w' none) := fun w0 h0 hr0 =>
    climb_any _ i _ P (by omega) (by rw [hP]; omega) (by rw [show (publicOfS o i (recS o i (digs (digestS o i m).data.toList) C 35)).size = 16 from tagS_size _ _]; decide) hP16 w0 (hp.grown h0) hr0
  unfold pubV sigV
  generalize climbS (publicOfS o i (recS o i (digs (digestS o i m).data.toList) C 35)) i P = CL at hcl hres
  generalize publicOfS o i (recS o i (digs (digestS o i m).data.toList) C 35) = LF at hrc hcl
  generalize digestS o i m = D at hdg hrc
  clear hr hC hC16 hP hP16 hc hp
  go_enter Tryz.func50, Tryz.ntmps50
  go_wp2_with fail
  have hca : ((w.alloc (.cells #[.string o, .string r, .int .i64 h] 64)).alloc (.cells #[.int .i64 i, .slice ca 35 cc, .slice pa h pc] 50)).heap[w.heap.size]? = some (.cells #[.string o, .string r, .int .i64 h] 64 (0, 0)) := by
    rw [Below.heap_alloc _ _ _ (by show w.heap.size < (w.heap.push _).size; rw [Array.size_push]; exact Nat.lt_succ_self _)]
    exact heap_alloc_at _ _ _ rfl
  have hcb : ((w.alloc (.cells #[.string o, .string r, .int .i64 h] 64)).alloc (.cells #[.int .i64 i, .slice ca 35 cc, .slice pa h pc] 50)).heap[w.heap.size + 1]? = some (.cells #[.int .i64 i, .slice ca 35 cc, .slice pa h pc] 50 (0, 0)) := heap_alloc_at _ _ _ (by show (w.heap.push _).size = _; rw [Array.size_push])
  have hg0 : w.grownBy ((w.alloc (.cells #[.string o, .string r, .int .i64 h] 64)).alloc (.cells #[.int .i64 i, .slice ca 35 cc, .slice pa h pc] 50)) none := grownBy_alloc' (World.grownBy_alloc _ _ _) _
  have HCA := Lib.hid hca
  have HCB := Lib.hid hcb
  have HG0 := Lib.hid hg0
  clear hca hcb hg0
  generalize (w.alloc (.cells #[.string o, .string r, .int .i64 h] 64)).alloc (.cells #[.int .i64 i, .slice ca 35 cc, .slice pa h pc] 50) = wz at *
  refine (hpl.out wz).mono ?_
  rintro e w2 ⟨rfl, g2⟩
  have hca2 := (g2.block _ (Array.getElem?_eq_some_iff.1 HCA.out).1 (by simp)).trans HCA.out
  have hcb2 := (g2.block _ (Array.getElem?_eq_some_iff.1 HCB.out).1 (by simp)).trans HCB.out
  have G2 := Lib.hid (grownBy_trans HG0.out g2)
  have HR2 := Lib.hid (HR.out.grown G2.out)
  have p0 := cell_of hca2 0
  have p1 := cell_of hca2 1
  have p2 := cell_of hca2 2
  have s0 := cell_of hcb2 0
  have s1 := cell_of hcb2 1
  have s2 := cell_of hcb2 2
  simp at p0 p1 p2 s0 s1 s2
  clear g2 hpl hca2 hcb2 HCA HCB HG0
  generalize w.heap.size = B at *
  go_wp2_with fail
  go_region_held3 (fun w' => w2.grownBy w' none ∧ w'.cell? ⟨B, 0, none⟩ = some (.string o) ∧ w'.cell? ⟨B, 1, none⟩ = some (.string r) ∧ w'.cell? ⟨B, 2, none⟩ = some (.int .i64 h) ∧ w'.cell? ⟨B + 1, 0, none⟩ = some (.int .i64 i) ∧ w'.cell? ⟨B + 1, 1, none⟩ = some (.slice ca 35 cc)) (first | exact ck | exact ⟨grownBy_drew (World.grownBy.refl _ _), p0, p1, p2, s0, s1⟩)
    (first
      | (go_at_call 103; (with_reducible refine (hdg.out _ (HR2.out.grown (grownBy_drew (World.grownBy.refl _ _)))).mono ?_); rintro e w6 ⟨rfl, g6⟩; have ck := veri_keep (grownBy_drew (World.grownBy.refl w2 none)) g6 p0 p1 p2 s0 s1)
      | (go_at_call 102; (with_reducible refine (hrc.out _ (grownBy_trans G2.out ck.1) (HR2.out.grown ck.1)).mono ?_); rintro e w7 ⟨rfl, g7⟩; have ck := veri_keep ck.1 g7 p0 p1 p2 s0 s1))
  obtain ⟨gw, q0, q1, q2, t0, t1⟩ := ck
  have t2 := gw.cell s2 (by simp)
  have G7 := Lib.hid (grownBy_trans G2.out gw)
  have HR7 := Lib.hid (HR.out.grown G7.out)
  clear p0 p1 p2 s0 s1 s2 q0 q2 t1 gw hdg hrc HR2 G2
  go_wp2_with fail
  go_region_held3 (fun w' => w7.grownBy w' none ∧ w'.cell? ⟨B, 1, none⟩ = some (.string r) ∧ w'.cell? ⟨B + 1, 0, none⟩ = some (.int .i64 i) ∧ w'.cell? ⟨B + 1, 2, none⟩ = some (.slice pa h pc)) (first | exact ck | exact ⟨grownBy_drew (World.grownBy.refl _ _), q1, t0, t2⟩)
    (first
      | (go_at_call 104; (with_reducible refine (hcl.out _ (grownBy_trans G7.out (grownBy_drew (World.grownBy.refl _ _))) (HR7.out.grown (grownBy_drew (World.grownBy.refl _ _)))).mono ?_); rintro e w8 ⟨rfl, g8⟩; have ck := climb_keep (grownBy_drew (World.grownBy.refl w7 none)) g8 q1 t0 t2))
  have G8 := Lib.hid (grownBy_trans G7.out ck.1)
  clear ck
  go_wp2_with fail
  go_ret
  exact ⟨rfl, G8.out⟩
end Go.Proofs.YtbhoeiopckmfhaaGreatDoor

namespace Go.Proofs.YtbhoeiopckmfhaaGreatDoor
open Go.RowKit
attribute [local irreducible] shaL

theorem KeyAt.blk {w : World} {b : Nat} {seed : ByteArray} {h : Nat} (k : KeyAt w b seed h) : ∃ lg, KeyBlk w b seed h lg ∧ lg < w.heap.size := by
  obtain ⟨a, cap, h1, h2⟩ := k
  have hp : 0 < (leavesS seed h).length := by rw [leavesS_length]; exact Nat.pow_pos (by decide)
  obtain ⟨g, o, rfl, hc⟩ := h2.at_ 0 _ (List.getElem?_eq_getElem hp)
  exact ⟨g, ⟨o, cap, h1, h2⟩, cell_lt hc⟩
theorem KeyBlk.lt {w : World} {b : Nat} {seed : ByteArray} {h lg : Nat} (k : KeyBlk w b seed h lg) : b < w.heap.size ∧ lg < w.heap.size := by
  obtain ⟨lo, cap, h1, h2⟩ := k
  have hp : 0 < (leavesS seed h).length := by rw [leavesS_length]; exact Nat.pow_pos (by decide)
  obtain ⟨g, o, e, hc⟩ := h2.at_ 0 _ (List.getElem?_eq_getElem hp)
  cases e
  exact ⟨(Array.getElem?_eq_some_iff.1 h1).1, cell_lt hc⟩
theorem KeyBlk.turn {S : Nat → Prop} {w w' : World} {b : Nat} {seed : ByteArray} {h lg : Nat} (k : KeyBlk w b seed h lg) (t : Turn S w w') (hb : ¬ S b) (hl : ¬ S lg) : KeyBlk w' b seed h lg := by
  have hlt := k.lt
  obtain ⟨lo, cap, h1, a, c, e, hc⟩ := k
  refine ⟨lo, cap, t.heap h1 hb, a, c, e, fun i hi => ?_⟩
  obtain ⟨g, o, e2, h3⟩ := hc i hi
  refine ⟨g, o, e2, ?_⟩
  injection e with e1 _ _
  rw [e2] at e1
  cases e1
  rw [t.cell hlt.2 hl]
  exact h3
/-- block sg is a signer -/
structure SigMem (n0 : Nat) (X : List Nat) (w : World) (sg kb lg g b : Nat) (seed : ByteArray) (h : Nat) (B : BookS) (D : DiskS) (next : Nat) : Prop where
  blk : w.heap[sg]? = some (.cells #[.pointer (some ⟨kb, 0, none⟩), .pointer (some ⟨g, 0, none⟩), .int .i64 next] 160 (0, 0))
  key : KeyBlk w kb seed h lg
  book : KBook n0 (sg :: kb :: lg :: X) w g b B D
  own : n0 ≤ sg ∧ sg ∉ X ∧ sg ≠ kb ∧ sg ≠ lg

theorem snext_nil (w : World) : Calls Tryz.prog 44 #[.pointer none] w fun e w' => e = .returned (.int .i64 0) ∧ w = w' := by
  go_enter Tryz.func44, Tryz.ntmps44
  go_wp2_with fail
  go_ret
  exact ⟨rfl, rfl⟩
theorem snext_any (w : World) (sg : Nat) (a b : Value) (next : Nat) (h : w.heap[sg]? = some (.cells #[a, b, .int .i64 next] 160 (0, 0))) : Calls Tryz.prog 44 #[.pointer (some ⟨sg, 0, none⟩)] w fun e w' => e = .returned (.int .i64 next) ∧ w = w' := by
  have c2 := cell_of h 2
  simp at c2
  clear h
  go_enter Tryz.func44, Tryz.ntmps44
  go_wp2_with fail
  go_ret
  exact ⟨rfl, rfl⟩

def nextE (L : List ByteArray) : Int := match L.getLast? with
  | none => 0
  | some s => if s.size = 2 then 0 else 4
def nextN (L : List ByteArray) : Nat := match L.getLast? with
  | none => 0
  | some s => if s.size = 2 then val s.data.toList else 0
theorem num2 (s : ByteArray) (h : s.size = 2) : ((⟨s, 0⟩ : RSt).num 2).1 = val s.data.toList ∧ ((⟨s, 0⟩ : RSt).num 2).2.done = 0 := by
  unfold RSt.num
  rw [if_pos ⟨by decide, by decide⟩]
  unfold RSt.fixed
  rw [if_neg (by simp), if_neg (by decide), if_neg (by show ¬ ((s.size : Nat) : Int) < 2; omega)]
  constructor
  · show val (s.extract 0 2).data.toList = val s.data.toList
    rw [ByteArray.data_extract]
    congr 1
    have : s.data.size = 2 := h
    simp [← this]
    exact List.take_of_length_le (Nat.le_of_eq rfl)
  · show (⟨s.extract 2 s.size, 0⟩ : RSt).done = 0
    unfold RSt.done
    rw [if_neg]
    rintro ⟨_, h2⟩
    exact h2 (by show (s.extract 2 s.size).size = 0; rw [ByteArray.size_extract]; omega)
theorem num2_not (s : ByteArray) (h : s.size ≠ 2) : ((⟨s, 0⟩ : RSt).num 2).2.done ≠ 0 := by
  unfold RSt.num
  rw [if_pos ⟨by decide, by decide⟩]
  unfold RSt.fixed
  rw [if_neg (by simp), if_neg (by decide)]
  by_cases h2 : s.size < 2
  · rw [if_pos (by show ((s.size : Nat) : Int) < 2; omega)]
    show ((⟨s, 0⟩ : RSt).fail 3).done ≠ 0
    unfold RSt.fail RSt.done
    rw [if_pos rfl]
    show ¬ (if (3 : Int) = 0 ∧ s.size ≠ 0 then (2 : Int) else 3) = 0
    rw [if_neg (by rintro ⟨h, _⟩; cases h)]
    decide
  · rw [if_neg (by show ¬ ((s.size : Nat) : Int) < 2; omega)]
    show (⟨s.extract 2 s.size, 0⟩ : RSt).done ≠ 0
    unfold RSt.done
    rw [if_pos ⟨rfl, by show (s.extract 2 s.size).size ≠ 0; rw [ByteArray.size_extract]; omega⟩]
    decide

set_option maxRecDepth 100000 in
set_option maxHeartbeats 1600000 in
theorem nextOf_any (w : World) (v : Value) (L : List ByteArray) (hv : StrsAt w v L) (hl : L.length ≤ 1024) (hs : ∀ s ∈ L, s.size ≤ 100000) :
    Calls Tryz.prog 81 #[v] w fun e w' => e = .returned (.tuple #[.int .i64 (nextN L), .int .i64 (nextE L)]) ∧ w.grownBy w' none := by
  obtain ⟨a, c, rfl⟩ := hv.form
  by_cases h0 : L = []
  · subst h0
    go_enter Tryz.func81, Tryz.ntmps81
    go_wp2_with fail
    go_returns
    exact ⟨rfl, World.grownBy.refl _ _⟩
  · have hl1 : 1 ≤ L.length := by
      cases L with
      | nil => exact absurd rfl h0
      | cons a b => simp
    obtain ⟨s, hsl⟩ : ∃ s, L[L.length - 1]? = some s := ⟨_, List.getElem?_eq_getElem (by omega)⟩
    have hgl : L.getLast? = some s := by rw [List.getLast?_eq_getElem?]; exact hsl
    obtain ⟨g, o, rfl, hc⟩ := hv.at_ _ s hsl
    have hsz := hs s (List.mem_of_getElem? hsl)
    have hN : nextN L = if s.size = 2 then val s.data.toList else 0 := by unfold nextN; rw [hgl]
    have hE : nextE L = if s.size = 2 then 0 else 4 := by unfold nextE; rw [hgl]
    obtain ⟨NN, hNN⟩ : ∃ NN, nextN L = NN := ⟨_, rfl⟩
    obtain ⟨EE, hEE⟩ : ∃ EE, nextE L = EE := ⟨_, rfl⟩
    rw [hNN, hEE]
    have HNE := Lib.hid (And.intro (hNN.symm.trans hN) (hEE.symm.trans hE))
    clear hNN hEE
    have e1 : ((L.length : Int) == 0) = false := by simp; omega
    have e2 : (L.length : Int) - 1 = ((L.length - 1 : Nat) : Int) := by omega
    obtain ⟨k, hk⟩ : ∃ k, L.length - 1 = k := ⟨_, rfl⟩
    rw [hk] at e2 hc
    have e3 : (k : Int) < (L.length : Int) := by omega
    have e4 : (0 : Int) ≤ (k : Int) := by omega
    have e5 : (L.length : Int) ≤ 1024 := by omega
    have HC := Lib.hid hc
    have HSZ := Lib.hid hsz
    clear hv hs h0 hsl hgl hN hE hsz hk
    go_enter Tryz.func81, Tryz.ntmps81
    go_wp2_with fail
    refine (read_any s w).mono ?_
    rintro e w1 ⟨rfl, hrd, g1⟩
    have HRS : Hid (RsAt w1 (some ⟨w.heap.size, 0, none⟩) (some ⟨s, 0⟩)) := ⟨_, rfl, hrd⟩
    have HG1 := Lib.hid g1
    clear hrd g1
    go_wp2_with fail
    refine (rnum_any 2 w1 _ _ HRS.out (by rintro x ⟨⟩; show s.size ≤ _; unfold maxLen; have := HSZ.out; omega)).mono ?_
    rintro e w2 ⟨rfl, hrs, g2⟩
    have HR2 := Lib.hid hrs
    have HG2 := Lib.hid (grown_row HG1.out g2 (by intro x e; have : w.heap.size = x := by simpa [prow] using e
                                                  omega))
    clear hrs g2
    have HEN := Lib.hid (end_any w2 _ _ HR2.out)
    by_cases h2 : s.size = 2
    · have H2 := Lib.hid h2
      obtain ⟨n1, n2⟩ := num2 s h2
      have hz : ((Option.map (fun s => (RSt.num s 2).1) (some (⟨s, 0⟩ : RSt))).getD 0) = val s.data.toList := n1
      have hz2 : ((Option.map (fun s => RSt.done s) (Option.map (fun s => (RSt.num s 2).2) (some (⟨s, 0⟩ : RSt)))).getD 1) = 0 := n2
      rw [hz]
      rw [hz2] at HEN
      have hvl : val s.data.toList < 65536 := by
        have := val_lt s.data.toList
        rw [show s.data.toList.length = 2 from h2] at this
        exact this
      have hwr := wrap_i64_nat (val s.data.toList) (by omega)
      obtain ⟨V, hV⟩ : ∃ V, val s.data.toList = V := ⟨_, rfl⟩
      rw [hV] at hvl hwr ⊢
      have HVV := Lib.hid hV
      clear hV
      clear n1 n2 hz hz2 h2
      go_wp2_with fail
      refine HEN.out.mono ?_
      rintro e w3 ⟨rfl, rfl⟩
      go_wp2_with fail
      go_returns
      exact ⟨by rw [HNE.out.1, HNE.out.2, if_pos H2.out, if_pos H2.out, HVV.out]; rfl, HG2.out⟩
    · have H2 := Lib.hid h2
      have n2 := num2_not s h2
      have hvb := val_lt ((⟨s, 0⟩ : RSt).fixed 2).1.data.toList
      have hfz := fixed_size (⟨s, 0⟩ : RSt) 2
      obtain ⟨V, hV⟩ : ∃ V, ((Option.map (fun s => (RSt.num s 2).1) (some (⟨s, 0⟩ : RSt))).getD 0) = V := ⟨_, rfl⟩
      have hVb : V < 65536 := by
        rw [← hV]
        show ((⟨s, 0⟩ : RSt).num 2).1 < 65536
        unfold RSt.num
        rw [if_pos ⟨by decide, by decide⟩]
        have : ((⟨s, 0⟩ : RSt).fixed 2).1.data.toList.length ≤ 2 := hfz
        have := Nat.pow_le_pow_right (n := 256) (by decide) this
        show val ((⟨s, 0⟩ : RSt).fixed 2).1.data.toList < 65536
        omega
      rw [hV]
      obtain ⟨E, hE⟩ : ∃ E, ((Option.map (fun s => RSt.done s) (Option.map (fun s => (RSt.num s 2).2) (some (⟨s, 0⟩ : RSt)))).getD 1) = E := ⟨_, rfl⟩
      have hE0 : E ≠ 0 := by rw [← hE]; exact n2
      rw [hE] at HEN
      have hwr := wrap_i64_nat V (by omega)
      have hEb : (E != 0) = true := by simpa using hE0
      clear n2 h2 hvb hfz hV hE hE0
      go_wp2_with fail
      refine HEN.out.mono ?_
      rintro e w3 ⟨rfl, rfl⟩
      go_wp2_with fail
      go_returns
      exact ⟨by rw [HNE.out.1, HNE.out.2, if_neg H2.out, if_neg H2.out]; rfl, HG2.out⟩
end Go.Proofs.YtbhoeiopckmfhaaGreatDoor

namespace Go.Proofs.YtbhoeiopckmfhaaGreatDoor
open Go.RowKit
attribute [local irreducible] shaL

/-- an index, as a record -/
def idxS (n : Nat) : ByteArray := str (be n 2)
theorem idxS_size (n : Nat) : (idxS n).size = 2 := by unfold idxS; rw [str_size, be_length]
def reserveS (B : BookS) (D : DiskS) (n : Nat) : Int × BookS × DiskS := if (putS B D (idxS n)).1 = 9 then compactS B D (idxS n) else putS B D (idxS n)
theorem writes_err : ∀ (L : List ByteArray) (D : DiskS) (i : Nat), (writesS D i L).1 = 0 ∨ (writesS D i L).1 = 8
  | [], D, i => by rw [writesS]; split; exact .inr rfl; exact .inl rfl
  | s :: r, D, i => by
    rw [writesS]
    split
    · exact .inr rfl
    · exact writes_err r _ _
theorem lay_err (B : BookS) (D : DiskS) (p t : Nat) (L : List ByteArray) (u : Nat) (s : ByteArray) : (layS B D p t L u s).1 = 0 ∨ (layS B D p t L u s).1 = 8 := by
  unfold layS
  rcases writes_err (nextS t L.length s) D (B.first + p * B.size + u) with h | h
  · rw [if_pos h]
    exact .inl rfl
  · rw [if_neg (by rw [h]; decide)]
    exact .inr h
theorem put_full (B : BookS) (D : DiskS) (s : ByteArray) (h : (putS B D s).1 = 9) : putS B D s = (9, B, D) := by
  unfold putS at h ⊢
  by_cases ht : takesI B s ≠ 0
  · rw [if_pos ht] at h ⊢
    unfold takesI at h
    simp only at h
    split at h
    · cases h
    · split at h
      · cases h
      · cases h
  · rw [if_neg ht] at h ⊢
    split
    · rfl
    · rename_i hl
      rw [if_neg hl] at h
      rcases lay_err B D B.place (max B.turn 1) B.recs B.used s with h1 | h1
      · rw [h1] at h; cases h
      · rw [h1] at h; cases h

theorem sha_turn {S : Nat → Prop} {w w' : World} (h : ShaReady w) (t : Turn S w w') (hs : ¬ S 0) (hr : ¬ S 1) : ShaReady w' :=
  ⟨fun j v hv => by
    have h0 := h.s j v hv
    rw [t.cell h.lt.1 hs]
    exact h0, fun i hi => by
    rw [t.cell h.lt.2 hr]
    exact h.r i hi⟩
set_option maxRecDepth 100000 in
set_option maxHeartbeats 3200000 in
theorem sreserve_any (n0 N : Nat) (Y : List Nat) (w : World) (sg g b : Nat) (kv nv : Value) (B : BookS) (D : DiskS) (hS : w.heap[sg]? = some (.cells #[kv, .pointer (some ⟨g, 0, none⟩), nv] 160 (0, 0))) (hsY : sg ∈ Y) (hK : KBook n0 Y w g b B D) (hY : ∀ x ∈ Y, x < w.heap.size) (hn0 : n0 ≤ w.heap.size) (ho : BookOK N B) (hnl : D.last.length = N) (hon : D.on = true)
    (hwl : D.wait.length ≤ 100000000) (hf : D.fuse ≤ 9223372036854775807) (hk : D.keep.length ≤ 9223372036854775807) (hr : ShaReady w) (hsX : n0 ≤ 0 → False) (hrX : n0 ≤ 1 → False) (n : Nat) (hn : n ≤ 65535) :
    Calls Tryz.prog 94 #[.pointer (some ⟨sg, 0, none⟩), .int .i64 n] w fun e w' => e = .returned (.int .i64 (reserveS B D n).1) ∧ KBook n0 Y w' g b (reserveS B D n).2.1 (reserveS B D n).2.2 ∧ Turn (rest n0 Y) w w' := by
  have HPUT : Hid (∀ w', w.grownBy w' none → Calls Tryz.prog 92 #[.pointer (some ⟨g, 0, none⟩), .string (idxS n)] w' fun e w'' =>
      e = .returned (.int .i64 (putS B D (idxS n)).1) ∧ KBook n0 Y w'' g b (putS B D (idxS n)).2.1 (putS B D (idxS n)).2.2 ∧ Turn (rest n0 Y) w' w'') :=
    fun w' h => bput_any n0 N Y w' g b B D (hK.grown h) (fun x hx => Nat.lt_of_lt_of_le (hY x hx) h.size) (Nat.le_trans hn0 h.size) ho hnl hon hwl hf hk (idxS n) (by rw [idxS_size]; decide) (hr.grown h) hsX hrX
  have HCOM : Hid (∀ w', KBook n0 Y w' g b B D → w.heap.size ≤ w'.heap.size → ShaReady w' → Calls Tryz.prog 138 #[.pointer (some ⟨g, 0, none⟩), .string (idxS n)] w' fun e w'' =>
      e = .returned (.int .i64 (compactS B D (idxS n)).1) ∧ KBook n0 Y w'' g b (compactS B D (idxS n)).2.1 (compactS B D (idxS n)).2.2 ∧ Turn (rest n0 Y) w' w'') :=
    fun w' h hs hr' => bcompact_any n0 N Y w' g b B D h (fun x hx => Nat.lt_of_lt_of_le (hY x hx) hs) (Nat.le_trans hn0 hs) ho hnl hon hwl hf hk (idxS n) (by rw [idxS_size]; decide) hr' hsX hrX
  have HFULL := Lib.hid (put_full B D (idxS n))
  have hRS : reserveS B D n = if (putS B D (idxS n)).1 = 9 then compactS B D (idxS n) else putS B D (idxS n) := rfl
  have hidx : str (flat [str (be n 2)]) = idxS n := by simp [flat, str, idxS]
  have HS := Lib.hid (And.intro hS (And.intro hsY hY))
  have HR := Lib.hid (And.intro hr (And.intro hsX hrX))
  have HN0 := Lib.hid hn0
  have HIZ := Lib.hid (idxS_size n)
  generalize idxS n = S at HPUT HCOM HFULL hRS hidx HIZ
  obtain ⟨P, hP⟩ : ∃ P, putS B D S = P := ⟨_, rfl⟩
  rw [hP] at HPUT HFULL hRS
  obtain ⟨C, hC⟩ : ∃ C, compactS B D S = C := ⟨_, rfl⟩
  rw [hC] at HCOM hRS
  have HRS := Lib.hid hRS
  have un := wrap_u64 n (by omega)
  have hsl : sg < w.heap.size := hY sg hsY
  have HSL := Lib.hid hsl
  clear hS hsY hK hY ho hnl hon hwl hf hk hr hsX hrX hRS hP hC hn0
  go_enter Tryz.func94, Tryz.ntmps94
  have hw0 := wfresh w
  go_wp2_with fail
  obtain ⟨w1, hW1⟩ : ∃ w1, w.alloc (.cells #[.pointer none, .int .i64 0, .int .i64 0] 179) = w1 := ⟨_, rfl⟩
  rw [hW1] at hw0 ⊢
  have hg1 : w.grownBy w1 none := by rw [← hW1]; exact World.grownBy_alloc _ _ _
  refine (wnum_at n 2 (by decide) (by decide) (by omega) (by omega) w1 w.heap.size [] hw0 (by decide)).mono ?_
  rintro e w2 ⟨rfl, h2, g2⟩
  have HG2 := Lib.hid (grown_row hg1 g2 (by intro x e; cases e; exact Nat.le_refl _))
  have hz2 : (str (be n 2)).size = 2 := by rw [str_size, be_length]
  have hby := bytes_ok w2 w.heap.size _ h2 (by rw [total_cons, hz2]; decide)
  rw [hidx] at hby
  have HBY := Lib.hid hby
  clear hby h2 g2 hw0 hg1 hW1 hz2 hidx
  go_wp2_with fail
  refine HBY.out.mono ?_
  rintro e w3 ⟨rfl, g3⟩
  have HG3 := Lib.hid (grownBy_trans HG2.out g3)
  have hs3 := HG3.out.heap HS.out.1 (by simp)
  have c1 := cell_of hs3 1
  simp at c1
  clear hs3 g3 HBY HG2
  go_wp2_with fail
  refine (HPUT.out _ HG3.out).mono ?_
  rintro e w4 ⟨rfl, hK4, t4⟩
  have HT4 := Lib.hid t4
  have HK4 := Lib.hid hK4
  have hs4 : w4.heap[sg]? = _ := t4.inX HS.out.2.1 (HG3.out.heap HS.out.1 (by simp))
  have d1 := cell_of hs4 1
  simp at d1
  clear hK4 t4 hs4 c1 HPUT
  by_cases h9 : P.1 = 9
  · have e9 : (P.1 == 9) = true := by simpa using h9
    have hrs := HRS.out
    rw [if_pos h9] at hrs
    have hfu := HFULL.out h9
    have hk4 := HK4.out
    rw [hfu] at hk4
    have hr4 : ShaReady w4 := by
      have h3 := HR.out.1.grown HG3.out
      have hl3 := h3.lt
      exact sha_turn h3 HT4.out (fun q => HR.out.2.1 q.1) (fun q => HR.out.2.2 q.1)
    have HCC := Lib.hid (HCOM.out w4 hk4 (Nat.le_trans HG3.out.size HT4.out.size) hr4)
    have HX := Lib.hid hrs
    clear hrs hfu hk4 hr4 h9 HCOM
    go_wp2_with fail
    refine HCC.out.mono ?_
    rintro e w5 ⟨rfl, hK5, t5⟩
    go_wp2_with fail
    go_ret
    exact ⟨by rw [HX.out]; rfl, by rw [HX.out]; exact hK5, (Turn.of_grown HG3.out).then (HT4.out.then t5)⟩
  · have e9 : (P.1 == 9) = false := by simpa using h9
    have hrs := HRS.out
    rw [if_neg h9] at hrs
    have HX := Lib.hid hrs
    clear hrs h9
    go_wp2_with fail
    go_ret
    exact ⟨by rw [HX.out]; rfl, by rw [HX.out]; exact HK4.out, (Turn.of_grown HG3.out).then HT4.out⟩
end Go.Proofs.YtbhoeiopckmfhaaGreatDoor

namespace Go.Proofs.YtbhoeiopckmfhaaGreatDoor
open Go.RowKit
attribute [local irreducible] shaL

/-- a book lies on where only blocks beside it turn -/
theorem KBook.beside {n0 : Nat} {X : List Nat} {S : Nat → Prop} {w w' : World} {g b : Nat} {B : BookS} {D : DiskS} (h : KBook n0 X w g b B D) (k : Turn S w w') (hS : ∀ i, i < w.heap.size → S i → i ∈ X) : KBook n0 X w' g b B D := by
  obtain ⟨rv, hm, h1, h2, h3, h4⟩ := h
  have hl := hm.lt
  refine ⟨rv, hm.turned k (fun q => h2 (hS _ hl.1 q)) (fun x e q => (h3 x e).2.1 (hS x (hl.2 x e) q)), h1, h2, h3, h4.turn k (fun i hi q => ?_)⟩
  exact List.mem_append_right _ (List.mem_cons_of_mem _ (hS i hi q))

set_option maxRecDepth 100000 in
set_option maxHeartbeats 1600000 in
theorem ssign_spent (n0 : Nat) (X : List Nat) (w : World) (sg kb lg g b : Nat) (seed m : ByteArray) (h N : Nat) (B : BookS) (D : DiskS) (next : Nat) (hM : SigMem n0 X w sg kb lg g b seed h B D next) (hN : 2 ^ h = N) (hs : N ≤ next) :
    Calls Tryz.prog 47 #[.pointer (some ⟨sg, 0, none⟩), .string m] w fun e w' => e = .returned (.tuple #[sigZ, .int .i64 11]) ∧ w.grownBy w' none := by
  have HB := Lib.hid hM.blk
  have HK := Lib.hid hM.key
  have HN := Lib.hid hN
  have c0 := cell_of HB.out 0
  have c2 := cell_of HB.out 2
  simp at c0 c2
  have hge : (N : Int) ≤ (next : Int) := by omega
  clear hM hN hs
  go_enter Tryz.func47, Tryz.ntmps47
  go_wp2_with fail
  have hg0 : w.grownBy (w.alloc (.cells #[.int .i64 0, .slice none 0 0, .slice none 0 0] 50)) none := World.grownBy_alloc _ _ _
  have hzc : (w.alloc (.cells #[.int .i64 0, .slice none 0 0, .slice none 0 0] 50)).heap[w.heap.size]? = some (.cells #[.int .i64 0, .slice none 0 0, .slice none 0 0] 50 (0, 0)) := heap_alloc_at _ _ _ rfl
  generalize w.alloc (.cells #[.int .i64 0, .slice none 0 0, .slice none 0 0] 50) = wz at hg0 hzc ⊢
  have HG0 := Lib.hid hg0
  have HZ := Lib.hid hzc
  have c0 := hg0.cell c0 (by simp)
  have c2 := hg0.cell c2 (by simp)
  have hcount : Hid (∀ w', wz.grownBy w' none → Calls Tryz.prog 93 #[.pointer (some ⟨kb, 0, none⟩)] w' fun e w'' => e = .returned (.int .i64 N) ∧ w' = w'') := fun w' k => count_any kb seed h N HN.out w' (HK.out.at_.grown (grownBy_trans HG0.out k))
  clear hg0 hzc
  go_region_held3 (fun w' => w'.cell? ⟨sg, 0, none⟩ = some (.pointer (some ⟨kb, 0, none⟩)) ∧ w'.cell? ⟨sg, 2, none⟩ = some (.int .i64 next)) (first | exact ck | exact ⟨c0, c2⟩)
    ((go_at_call 93; (with_reducible refine (hcount.out _ (grownBy_drew (World.grownBy.refl _ _))).mono ?_); rintro e w6 ⟨rfl, rfl⟩; have ck := And.intro c0 c2))
  have z0 := cell_of HZ.out 0
  have z1 := cell_of HZ.out 1
  have z2 := cell_of HZ.out 2
  have f0 := free_of HZ.out 0
  have f1 := free_of HZ.out 1
  have f2 := free_of HZ.out 2
  simp at z0 z1 z2
  go_wp2_with fail
  have hW := heap_setCell (heap_setCell (heap_setCell HZ.out 0 (.int .i64 0)) 1 (.slice none 0 0)) 2 (.slice none 0 0)
  have hWg : w.grownBy (((wz.setCell ⟨w.heap.size, 0, none⟩ (.int .i64 0)).setCell ⟨w.heap.size, 1, none⟩ (.slice none 0 0)).setCell ⟨w.heap.size, 2, none⟩ (.slice none 0 0)) none := grownBy_setNew (grownBy_setNew (grownBy_setNew HG0.out (Nat.le_refl _) 0 _) (Nat.le_refl _) 1 _) (Nat.le_refl _) 2 _
  generalize ((wz.setCell ⟨w.heap.size, 0, none⟩ (.int .i64 0)).setCell ⟨w.heap.size, 1, none⟩ (.slice none 0 0)).setCell ⟨w.heap.size, 2, none⟩ (.slice none 0 0) = wf at hW hWg ⊢
  have y0 : wf.drew.cell? ⟨w.heap.size, 0, none⟩ = _ := cell_of hW 0
  have y1 : wf.drew.cell? ⟨w.heap.size, 1, none⟩ = _ := cell_of hW 1
  have y2 : wf.drew.cell? ⟨w.heap.size, 2, none⟩ = _ := cell_of hW 2
  simp at y0 y1 y2
  refine bodyPost_ret (by simp [results, Tryz.results47, go_sem, y0, y1, y2]; try rfl) rfl ?_
  exact ⟨rfl, grownBy_drew hWg⟩

/-- other blocks of the caller's own, new ones among them -/
theorem KBook.more {n0 : Nat} {X Y : List Nat} {w w' : World} {g b : Nat} {B : BookS} {D : DiskS} (h : KBook n0 X w g b B D) (k : w.grownBy w' none) (hY : ∀ i ∈ Y, i ∈ X ∨ w.heap.size ≤ i) : KBook n0 Y w' g b B D := by
  obtain ⟨rv, hm, h1, h2, h3, h4⟩ := h
  have hl := hm.lt
  refine ⟨rv, hm.grown k, h1, fun q => ?_, fun x e => ⟨(h3 x e).1, fun q => ?_, (h3 x e).2.2⟩, h4.more k (fun i hi => ?_)⟩
  · rcases hY g q with q | q
    · exact h2 q
    · have := hl.1; omega
  · rcases hY x q with q | q
    · exact (h3 x e).2.1 q
    · have := hl.2 x e; omega
  · simp only [List.mem_append, List.mem_cons] at hi ⊢
    rcases hi with hi | hi | hi
    · exact .inl (.inl hi)
    · exact .inl (.inr (.inl hi))
    · rcases hY i hi with q | q
      · exact .inl (.inr (.inr q))
      · exact .inr q

theorem turn_set3 (w : World) (k : Nat) (a b c : Value) : Turn (fun i => i = k) w (((w.setCell ⟨k, 0, none⟩ a).setCell ⟨k, 1, none⟩ b).setCell ⟨k, 2, none⟩ c) :=
  Turn.setCell (Turn.setCell (Turn.setCell (Turn.refl (fun i => i = k) w) (fun _ => rfl) 0 a) (fun _ => rfl) 1 b) (fun _ => rfl) 2 c
theorem turn_set1 (w : World) (k o : Nat) (a : Value) : Turn (fun i => i = k) w (w.setCell ⟨k, o, none⟩ a) := Turn.setCell (Turn.refl (fun i => i = k) w) (fun _ => rfl) o a
/-- texts do not lie in a block that holds none -/
theorem StrsAt.off {w w' : World} {v : Value} {L : List ByteArray} {k : Nat} {t : TypeId} {q : Nat × Nat} (h : StrsAt w v L) (hb : w.heap[k]? = some (.cells #[.int .i64 0, .slice none 0 0, .slice none 0 0] t q)) (r : Turn (fun i => i = k) w w') : StrsAt w' v L := by
  obtain ⟨a, c, e, hc⟩ := h
  refine ⟨a, c, e, fun i hi => ?_⟩
  obtain ⟨g, o, e2, h3⟩ := hc i hi
  refine ⟨g, o, e2, ?_⟩
  by_cases hg : g = k
  · subst hg
    exfalso
    have h4 := (cell_of hb (o + i)).symm.trans h3
    have ho : o + i = 0 ∨ o + i = 1 ∨ o + i = 2 := by
      have hlt := (List.getElem?_eq_some_iff.1 (by simpa using h4 : ([Value.int .i64 0, .slice none 0 0, .slice none 0 0] : List Value)[o + i]? = some (.string _))).1
      simp at hlt; omega
    rcases ho with ho | ho | ho <;> rw [ho] at h4 <;> simp at h4
  · rw [r.cell (cell_lt h3) hg]
    exact h3
set_option maxRecDepth 100000 in
set_option maxHeartbeats 3200000 in
/-- Sign, and where its texts lie -/
theorem ssign_full (n0 M : Nat) (X : List Nat) (w : World) (sg kb lg g b : Nat) (seed m : ByteArray) (h : Nat) (B : BookS) (D : DiskS) (next : Nat) (hM : SigMem n0 X w sg kb lg g b seed h B D next) (hh : h ≤ 6) (hs : next < 2 ^ h)
    (hX : ∀ x ∈ X, x < w.heap.size) (hn0 : n0 ≤ w.heap.size) (ho : BookOK M B) (hnl : D.last.length = M) (hon : D.on = true)
    (hwl : D.wait.length ≤ 100000000) (hf : D.fuse ≤ 9223372036854775807) (hk : D.keep.length ≤ 9223372036854775807) (hr : ShaReady w) (hsX : n0 ≤ 0 → False) (hrX : n0 ≤ 1 → False)
    (hss : seed.size ≤ 1000000000000) (hms : m.size ≤ 1000000000000) :
    Calls Tryz.prog 47 #[.pointer (some ⟨sg, 0, none⟩), .string m] w fun e w' => Turn (rest n0 X) w w' ∧
      (((reserveS B D (next + 1)).1 ≠ 0 ∧ e = .returned (.tuple #[sigZ, .int .i64 (reserveS B D (next + 1)).1]) ∧ SigMem n0 X w' sg kb lg g b seed h (reserveS B D (next + 1)).2.1 (reserveS B D (next + 1)).2.2 next)
      ∨ ((reserveS B D (next + 1)).1 = 0 ∧ ∃ c p, e = .returned (.tuple #[sigV next c p, .int .i64 0]) ∧ StrsAt w' c (chainsS seed next m) ∧ StrsAt w' p (pathS h (leavesS seed h) next) ∧ SigMem n0 (ownB c ++ ownB p ++ X) w' sg kb lg g b seed h (reserveS B D (next + 1)).2.1 (reserveS B D (next + 1)).2.2 (next + 1) ∧ (∀ i, i ∈ ownB c → w.heap.size ≤ i) ∧ (∀ i, i ∈ ownB p → w.heap.size ≤ i))) := by
  obtain ⟨N, hN⟩ : ∃ N, 2 ^ h = N := ⟨_, rfl⟩
  have hN64 : N ≤ 64 := by rw [← hN]; exact pow_le64 h hh
  have hlt : next < N := by omega
  have HB := Lib.hid hM.blk
  have HK := Lib.hid hM.key
  have HBK := Lib.hid hM.book
  have HO := Lib.hid hM.own
  have HN := Lib.hid hN
  have hsz : sg < w.heap.size ∧ kb < w.heap.size ∧ lg < w.heap.size := ⟨(Array.getElem?_eq_some_iff.1 hM.blk).1, hM.key.lt.1, hM.key.lt.2⟩
  have HSZ := Lib.hid hsz
  obtain ⟨Y, hY⟩ : ∃ Y, w.heap.size :: sg :: kb :: lg :: X = Y := ⟨_, rfl⟩
  have HY : Hid (w.heap.size ∈ Y ∧ sg ∈ Y ∧ kb ∈ Y ∧ lg ∈ Y ∧ (∀ x ∈ X, x ∈ Y) ∧ (∀ x ∈ Y, x = w.heap.size ∨ x ∈ sg :: kb :: lg :: X)) := by
    subst hY
    exact Lib.hid ⟨by simp, by simp, by simp, by simp, fun x hx => by simp [hx], fun x hx => by simpa using hx⟩
  have HRES : Hid (∀ wz w', w.grownBy wz none → wz.heap[w.heap.size]? = some (.cells #[.int .i64 0, .slice none 0 0, .slice none 0 0] 50 (0, 0)) → wz.grownBy w' none → Calls Tryz.prog 94 #[.pointer (some ⟨sg, 0, none⟩), .int .i64 ((next + 1 : Nat) : Int)] w' fun e w'' => e = .returned (.int .i64 (reserveS B D (next + 1)).1) ∧ KBook n0 Y w'' g b (reserveS B D (next + 1)).2.1 (reserveS B D (next + 1)).2.2 ∧ Turn (rest n0 Y) w' w'') := Lib.hid (fun wz w' k1 kz k2 => by
    have k := grownBy_trans k1 k2
    refine sreserve_any n0 M Y w' sg g b _ _ B D (k.heap HB.out (by simp)) HY.out.2.1 (HBK.out.more k (fun i hi => ?_)) (fun x hx => ?_) (Nat.le_trans hn0 k.size) ho hnl hon hwl hf hk (hr.grown k) hsX hrX (next + 1) (by omega)
    · rcases HY.out.2.2.2.2.2 i hi with q | q
      · exact .inr (by omega)
      · exact .inl q
    · rcases HY.out.2.2.2.2.2 x hx with q | q
      · subst q
        exact Nat.lt_of_lt_of_le (Array.getElem?_eq_some_iff.1 kz).1 k2.size
      · simp only [List.mem_cons] at q
        rcases q with rfl | rfl | rfl | q
        · exact Nat.lt_of_lt_of_le hsz.1 k.size
        · exact Nat.lt_of_lt_of_le hsz.2.1 k.size
        · exact Nat.lt_of_lt_of_le hsz.2.2 k.size
        · exact Nat.lt_of_lt_of_le (hX x q) k.size)
  have HSH := Lib.hid (And.intro hr (And.intro hsX hrX))
  have HXW := Lib.hid (And.intro hX hn0)
  have HSS := Lib.hid (And.intro hss hms)
  have HHH := Lib.hid (And.intro hh hs)
  generalize reserveS B D (next + 1) = R at HRES ⊢
  have c0 := cell_of HB.out 0
  have c2 := cell_of HB.out 2
  simp at c0 c2
  have hge : ¬ (N : Int) ≤ (next : Int) := by omega
  have hplus : (next : Int) + 1 = ((next + 1 : Nat) : Int) := by omega
  obtain ⟨n1, hn1⟩ : ∃ n1, next + 1 = n1 := ⟨_, rfl⟩
  rw [hn1] at HRES hplus ⊢
  have hn1s : n1 ≤ 64 := by omega
  clear hM hN hs hh hX hn0 ho hnl hon hwl hf hk hr hsX hrX hss hms hsz hY
  go_enter Tryz.func47, Tryz.ntmps47
  go_wp2_with fail
  have hg0 : w.grownBy (w.alloc (.cells #[.int .i64 0, .slice none 0 0, .slice none 0 0] 50)) none := World.grownBy_alloc _ _ _
  have hzc : (w.alloc (.cells #[.int .i64 0, .slice none 0 0, .slice none 0 0] 50)).heap[w.heap.size]? = some (.cells #[.int .i64 0, .slice none 0 0, .slice none 0 0] 50 (0, 0)) := heap_alloc_at _ _ _ rfl
  generalize w.alloc (.cells #[.int .i64 0, .slice none 0 0, .slice none 0 0] 50) = wz at hg0 hzc ⊢
  have HG0 := Lib.hid hg0
  have HZ := Lib.hid hzc
  have c0 := hg0.cell c0 (by simp)
  have c2 := hg0.cell c2 (by simp)
  have hcount : Hid (∀ w', wz.grownBy w' none → Calls Tryz.prog 93 #[.pointer (some ⟨kb, 0, none⟩)] w' fun e w'' => e = .returned (.int .i64 N) ∧ w' = w'') := fun w' k => count_any kb seed h N HN.out w' (HK.out.at_.grown (grownBy_trans HG0.out k))
  clear hg0 hzc
  go_region_held3 (fun w' => w'.cell? ⟨sg, 0, none⟩ = some (.pointer (some ⟨kb, 0, none⟩)) ∧ w'.cell? ⟨sg, 2, none⟩ = some (.int .i64 next)) (first | exact ck | exact ⟨c0, c2⟩)
    ((go_at_call 93; (with_reducible refine (hcount.out _ (grownBy_drew (World.grownBy.refl _ _))).mono ?_); rintro e w6 ⟨rfl, rfl⟩; have ck := And.intro c0 c2))
  go_wp2_with fail
  refine (HRES.out wz _ HG0.out HZ.out (grownBy_drew (World.grownBy.refl _ _))).mono ?_
  rintro e w5 ⟨rfl, hK5, t5⟩
  have t5' : Turn (rest n0 Y) w w5 := (Turn.of_grown (grownBy_trans HG0.out (grownBy_drew (World.grownBy.refl _ _)))).then t5
  have T5 := Lib.hid t5'
  have hz5 : w5.heap[w.heap.size]? = _ := t5.inX HY.out.1 HZ.out
  have hb5 : w5.heap[sg]? = _ := t5'.inX HY.out.2.1 HB.out
  have HZ5 := Lib.hid hz5
  have HB5 := Lib.hid hb5
  have HK5 := Lib.hid (HK.out.turn t5' (fun q => q.2 HY.out.2.2.1) (fun q => q.2 HY.out.2.2.2.1))
  have HBK5 := Lib.hid hK5
  have z0 := cell_of hz5 0
  have z1 := cell_of hz5 1
  have z2 := cell_of hz5 2
  have f0 := free_of hz5 0
  have f1 := free_of hz5 1
  have f2 := free_of hz5 2
  have d0 := cell_of hb5 0
  have d2 := cell_of hb5 2
  have g2 := free_of hb5 2
  simp at z0 z1 z2 d0 d2
  have HSW : Hid (w.heap.size ≠ sg ∧ w.heap.size ≠ kb ∧ w.heap.size ≠ lg) := Lib.hid (by have := HSZ.out; omega)
  clear t5 t5' hz5 hb5 hK5 hcount HRES c0 c2 HZ
  by_cases hR0 : R.1 = 0
  · have e1 : (R.1 == 0) = true := by simpa using hR0
    have e2 : (R.1 != 0) = false := by simpa using hR0
    have HR0 := Lib.hid hR0
    clear hR0
    go_wp2_with fail
    have h6 : Turn (fun i => i = sg) w5 (w5.setCell ⟨sg, 2, none⟩ (.int .i64 n1)) := turn_set1 _ _ _ _
    have hb6 : (w5.setCell ⟨sg, 2, none⟩ (.int .i64 n1)).heap[sg]? = _ := heap_setCell HB5.out 2 (.int .i64 n1)
    have hk6 := HK5.out.turn h6 (fun q => HO.out.2.2.1 q.symm) (fun q => HO.out.2.2.2 q.symm)
    have hz6 := h6.heap HZ5.out (fun q => HSW.out.1 q)
    have hbk6 := HBK5.out.beside h6 (fun i _ q => by rw [q]; exact HY.out.2.1)
    have hr6 : ShaReady (w5.setCell ⟨sg, 2, none⟩ (.int .i64 n1)) := sha_turn (sha_turn HSH.out.1 T5.out (fun q => HSH.out.2.1 q.1) (fun q => HSH.out.2.2 q.1)) h6 (fun q => HSH.out.2.1 (by rw [q]; exact HO.out.1)) (fun q => HSH.out.2.2 (by rw [q]; exact HO.out.1))
    have T6 := Lib.hid ((rest_mono HY.out.2.2.2.2.1 T5.out).trans h6 (fun i _ q => by rw [q]; exact ⟨HO.out.1, HO.out.2.1⟩))
    generalize w5.setCell ⟨sg, 2, none⟩ (.int .i64 n1) = w6 at *
    refine (xsign_new kb seed m h next HHH.out.1 HHH.out.2 HSS.out.1 HSS.out.2 w6 hk6.at_ hr6).mono ?_
    rintro e w7 ⟨c, p, rfl, hc7, hp7, hcn, hpn, k7⟩
    obtain ⟨ca, cc, rfl⟩ := hc7.form
    obtain ⟨pa, pc, rfl⟩ := hp7.form
    have hz7 := k7.heap hz6 (by simp)
    have z0 := cell_of hz7 0
    have z1 := cell_of hz7 1
    have z2 := cell_of hz7 2
    have f0 := free_of hz7 0
    have f1 := free_of hz7 1
    have f2 := free_of hz7 2
    simp at z0 z1 z2
    have HC7 := Lib.hid hc7
    have HP7 := Lib.hid hp7
    have HZ7 := Lib.hid hz7
    have HK7 := Lib.hid k7
    have HB6 := Lib.hid hb6
    have HKK6 := Lib.hid hk6
    have HBK6 := Lib.hid hbk6
    have hbk7 : KBook n0 (ownB (.slice ca (chainsS seed next m).length cc) ++ ownB (.slice pa (pathS h (leavesS seed h) next).length pc) ++ Y) w7 g b R.2.1 R.2.2 := hbk6.more k7 (fun i hi => by
      simp only [List.mem_append] at hi
      rcases hi with (hi | hi) | hi
      · exact .inr (hcn i (ownB_mem.1 hi))
      · exact .inr (hpn i (ownB_mem.1 hi))
      · exact .inl hi)
    have hXL : (∀ i, i ∈ ownB (.slice ca (chainsS seed next m).length cc) → w6.heap.size ≤ i) ∧ (∀ i, i ∈ ownB (.slice pa (pathS h (leavesS seed h) next).length pc) → w6.heap.size ≤ i) := ⟨fun i hi => hcn i (ownB_mem.1 hi), fun i hi => hpn i (ownB_mem.1 hi)⟩
    have HXL := Lib.hid hXL
    have HBK7 := Lib.hid hbk7
    have HSG6 : Hid (sg < w6.heap.size) := Lib.hid (Array.getElem?_eq_some_iff.1 hb6).1
    clear hc7 hp7 hz7 k7 hb6 hk6 hbk6 hz6 hr6 h6 hbk7 hXL hcn hpn
    generalize (chainsS seed next m).length = cn at *
    generalize (pathS h (leavesS seed h) next).length = pn at *
    unfold sigV
    go_wp2_with fail
    have hW := heap_setCell (heap_setCell (heap_setCell HZ7.out 0 (.int .i64 next)) 1 (.slice ca cn cc)) 2 (.slice pa pn pc)
    have hWg := turn_set3 w7 w.heap.size (.int .i64 next) (.slice ca cn cc) (.slice pa pn pc)
    generalize ((w7.setCell ⟨w.heap.size, 0, none⟩ (.int .i64 next)).setCell ⟨w.heap.size, 1, none⟩ (.slice ca cn cc)).setCell ⟨w.heap.size, 2, none⟩ (.slice pa pn pc) = wf at hW hWg ⊢
    have y0 := cell_of hW 0
    have y1 := cell_of hW 1
    have y2 := cell_of hW 2
    simp at y0 y1 y2
    refine bodyPost_ret (by simp [results, Tryz.results47, go_sem, y0, y1, y2]; try rfl) rfl ?_
    have hgo : Turn (fun i => i = w.heap.size) w6 wf := (Turn.of_grown HK7.out).then hWg
    refine ⟨T6.out.trans hgo (fun i hi q => absurd hi (by rw [q]; exact Nat.lt_irrefl _)), .inr ⟨HR0.out, _, _, rfl, HC7.out.off HZ7.out hWg, HP7.out.off HZ7.out hWg, ⟨hgo.heap HB6.out (fun q => HSW.out.1 q.symm), HKK6.out.turn hgo (fun q => HSW.out.2.1 q.symm) (fun q => HSW.out.2.2 q.symm), ?_, ?_⟩, fun i hi => Nat.le_trans T6.out.size (HXL.out.1 i hi), fun i hi => Nat.le_trans T6.out.size (HXL.out.2 i hi)⟩⟩
    · refine (HBK7.out.beside hWg (fun i _ q => by rw [q]; exact List.mem_append_right _ HY.out.1)).more (World.grownBy.refl _ _) (fun i hi => .inl ?_)
      simp only [List.mem_cons, List.mem_append] at hi ⊢
      rcases hi with rfl | rfl | rfl | q | q
      · exact .inr HY.out.2.1
      · exact .inr HY.out.2.2.1
      · exact .inr HY.out.2.2.2.1
      · exact .inl q
      · exact .inr (HY.out.2.2.2.2.1 i q)
    · refine ⟨HO.out.1, fun q => ?_, HO.out.2.2⟩
      simp only [List.mem_append] at q
      rcases q with (q | q) | q
      · exact absurd (HXL.out.1 _ q) (Nat.not_le_of_lt HSG6.out)
      · exact absurd (HXL.out.2 _ q) (Nat.not_le_of_lt HSG6.out)
      · exact HO.out.2.1 q
  · have e1 : (R.1 == 0) = false := by simpa using hR0
    have e2 : (R.1 != 0) = true := by simpa using hR0
    have HR0 := Lib.hid hR0
    clear hR0
    go_wp2_with fail
    have hW := heap_setCell (heap_setCell (heap_setCell HZ5.out 0 (.int .i64 0)) 1 (.slice none 0 0)) 2 (.slice none 0 0)
    have hWg : Turn (fun i => i = w.heap.size) w5 (((w5.setCell ⟨w.heap.size, 0, none⟩ (.int .i64 0)).setCell ⟨w.heap.size, 1, none⟩ (.slice none 0 0)).setCell ⟨w.heap.size, 2, none⟩ (.slice none 0 0)) := turn_set3 _ _ _ _ _
    generalize ((w5.setCell ⟨w.heap.size, 0, none⟩ (.int .i64 0)).setCell ⟨w.heap.size, 1, none⟩ (.slice none 0 0)).setCell ⟨w.heap.size, 2, none⟩ (.slice none 0 0) = wf at hW hWg ⊢
    have y0 := cell_of hW 0
    have y1 := cell_of hW 1
    have y2 := cell_of hW 2
    simp at y0 y1 y2
    refine bodyPost_ret (by simp [results, Tryz.results47, go_sem, y0, y1, y2]; try rfl) rfl ?_
    refine ⟨(rest_mono HY.out.2.2.2.2.1 T5.out).trans hWg (fun i hi q => absurd hi (by rw [q]; exact Nat.lt_irrefl _)), .inl ⟨HR0.out, rfl, ⟨hWg.heap HB5.out (fun q => HSW.out.1 q.symm), HK5.out.turn hWg (fun q => HSW.out.2.1 q.symm) (fun q => HSW.out.2.2 q.symm), ?_, HO.out⟩⟩⟩
    exact (HBK5.out.beside hWg (fun i _ q => by rw [q]; exact HY.out.1)).more (World.grownBy.refl _ _) (fun i hi => .inl (by
      simp only [List.mem_cons] at hi
      rcases hi with rfl | rfl | rfl | q
      · exact HY.out.2.1
      · exact HY.out.2.2.1
      · exact HY.out.2.2.2.1
      · exact HY.out.2.2.2.2.1 i q))
theorem ssign_any (n0 M : Nat) (X : List Nat) (w : World) (sg kb lg g b : Nat) (seed m : ByteArray) (h : Nat) (B : BookS) (D : DiskS) (next : Nat) (hM : SigMem n0 X w sg kb lg g b seed h B D next) (hh : h ≤ 6) (hs : next < 2 ^ h)
    (hX : ∀ x ∈ X, x < w.heap.size) (hn0 : n0 ≤ w.heap.size) (ho : BookOK M B) (hnl : D.last.length = M) (hon : D.on = true)
    (hwl : D.wait.length ≤ 100000000) (hf : D.fuse ≤ 9223372036854775807) (hk : D.keep.length ≤ 9223372036854775807) (hr : ShaReady w) (hsX : n0 ≤ 0 → False) (hrX : n0 ≤ 1 → False)
    (hss : seed.size ≤ 1000000000000) (hms : m.size ≤ 1000000000000) :
    Calls Tryz.prog 47 #[.pointer (some ⟨sg, 0, none⟩), .string m] w fun e w' => Turn (rest n0 X) w w' ∧
      (((reserveS B D (next + 1)).1 ≠ 0 ∧ e = .returned (.tuple #[sigZ, .int .i64 (reserveS B D (next + 1)).1]) ∧ SigMem n0 X w' sg kb lg g b seed h (reserveS B D (next + 1)).2.1 (reserveS B D (next + 1)).2.2 next)
      ∨ ((reserveS B D (next + 1)).1 = 0 ∧ ∃ c p, e = .returned (.tuple #[sigV next c p, .int .i64 0]) ∧ StrsAt w' c (chainsS seed next m) ∧ StrsAt w' p (pathS h (leavesS seed h) next) ∧ SigMem n0 (ownB c ++ ownB p ++ X) w' sg kb lg g b seed h (reserveS B D (next + 1)).2.1 (reserveS B D (next + 1)).2.2 (next + 1))) :=
  (ssign_full n0 M X w sg kb lg g b seed m h B D next hM hh hs hX hn0 ho hnl hon hwl hf hk hr hsX hrX hss hms).mono (by
    rintro e w' ⟨t, q | ⟨q, c, p, r1, r2, r3, r4, _⟩⟩
    · exact ⟨t, .inl q⟩
    · exact ⟨t, .inr ⟨q, c, p, r1, r2, r3, r4⟩⟩)
end Go.Proofs.YtbhoeiopckmfhaaGreatDoor

namespace Go.Proofs.YtbhoeiopckmfhaaGreatDoor
open Go.RowKit
attribute [local irreducible] shaL

theorem rec_pub (seed : ByteArray) (leaf : Nat) (d : List UInt8) (h : d.length = 16) : publicOfS (openS seed) leaf (recS (openS seed) leaf (digs d) (sigS seed leaf (digs d) 35) 35) = publicS seed leaf := by
  rw [rec_sig seed leaf (digs d) (digs_bd d h) 35 (by rw [digs_length]; omega) 35 (Nat.le_refl _)]
  rfl
theorem leavesS_at (seed : ByteArray) (h i : Nat) (hi : i < 2 ^ h) : (leavesS seed h)[i]? = some (publicS seed i) := by simp [leavesS, hi]
/-- P8.2: a key's signature climbs to its root -/
theorem sign_climbs (seed m : ByteArray) (h i : Nat) (hi : i < 2 ^ h) : climbS (publicOfS (openS seed) i (recS (openS seed) i (digs (digestS (openS seed) i m).data.toList) (chainsS seed i m) 35)) i (pathS h (leavesS seed h) i) = rootK seed h := by
  unfold chainsS
  have e := rec_pub seed i (digestS (openS seed) i m).data.toList (digestS_size _ _ _)
  rw [e]
  exact climb_path h _ i _ (leavesS_length seed h) (leavesS_at seed h i hi)
theorem chains_16 (seed m : ByteArray) (i : Nat) : ∀ s ∈ chainsS seed i m, s.size = 16 := sigS_all _ _ _ _
theorem chains_35 (seed m : ByteArray) (i : Nat) : (chainsS seed i m).length = 35 := sigS_length _ _ _ _
theorem path_small (seed : ByteArray) (h i : Nat) : ∀ s ∈ pathS h (leavesS seed h) i, s.size ≤ 1000000000000 := pathS_sizes _ _ _ _ (by decide) (fun s hs => by rw [leavesS_sizes seed h s hs]; decide)
end Go.Proofs.YtbhoeiopckmfhaaGreatDoor

namespace Go.Proofs.YtbhoeiopckmfhaaGreatDoor
open Go.RowKit Go.ChangeShapes Go.WideShapes

theorem cell_plain' {w : World} {a : Addr} {n : Nat} {v : Value} (h : w.cell? (a.add n) = some v) : w.cell? ⟨a.block, a.off + n, none⟩ = some v := by
  have hs := World.cell?_spot h
  obtain ⟨b, o, sp⟩ := a
  by_cases hn : n = 0
  · subst hn
    have : sp = none := by simpa [Addr.add] using hs
    subst this
    simpa [Addr.add] using h
  · simpa [Addr.add, hn] using h

section
variable {H : Type} {enc : TypeId × Value → H} {P : Program} {w : World} {base : Nat} {spare : Nat → Bool} {held : Bool}
def byteOf : Value → UInt8 | .int _ n => UInt8.ofNat n.toNat | _ => 0
/-- an array of bytes -/
theorem open_byte_array {r : Reach} {b0 : Nat} {t e : TypeId} {n : Nat} {v : Value} {d : DataW H} {p : List MemPlace} (hu : P.underlying t = some (.array n e)) (he : P.underlying e = some (.int .u8)) (hce : P.cellsOf e = 1) (hct : P.cellsOf t = n)
    (hval : Value.okWide P w r b0 t v) (h : DataW.Trod enc P w base spare held t v d p) : ∃ l : List UInt8, l.length = n ∧ v = .agg (bytesV l).toArray := by
  simp only [Value.okWide, hu] at hval
  obtain ⟨cs, rfl, hsz, -⟩ := hval
  obtain ⟨fuel, hf⟩ := h
  obtain ⟨xs, m, rfl, hx, hcl, hxl, hat⟩ := DataW.trod_array hu hf
  have hcs : cs.toList.length = n := by rw [← hct]; simpa using hsz
  refine ⟨cs.toList.map byteOf, by simpa using hcs, ?_⟩
  congr 1
  apply Array.toList_inj.1
  apply List.ext_getElem (by simp [bytesV])
  intro i h1 h2
  have hi : i < n := by omega
  have h3 := hat i hi
  have hxi : xs[i]? = some (xs[i]'(by omega)) := List.getElem?_eq_getElem (by omega)
  have h4 : ((Value.agg cs).cells.toList.drop (i * P.cellsOf e)).take (P.cellsOf e) = [cs.toList[i]] := by
    rw [hce, Nat.mul_one]
    show (cs.toList.drop i).take 1 = _
    rw [List.drop_eq_getElem_cons (by omega)]
    rfl
  rw [h4, hxi] at h3
  obtain ⟨a, ea, -, wa⟩ := DataW.trod_int he h3
  simp only [List.cons.injEq, and_true] at ea
  have hb : 0 ≤ a ∧ a ≤ 255 := by simpa [Lit.wf, IntKind.min, IntKind.max, IntKind.signed, IntKind.bits] using wa
  simp only [bytesV, List.getElem_map, List.getElem_toArray, ea, byteOf]
  congr 1
  simp
  omega
/-- a slice of integers: nil, or cells -/
theorem open_int_slice {t e : TypeId} {a0 : Option Addr} {len cap : Nat} {d : DataW H} {p : List MemPlace} (ht : P.underlying t = some (.slice e)) (he : P.underlying e = some (.int .i64)) (hc : P.cellsOf e = 1)
    (h : DataW.Trod enc P w base spare held t (.slice a0 len cap) d p) : ∃ L : List Int, L.length = len ∧ IntsAt w (.slice a0 len cap) L ∧ len ≤ cap ∧ cap ≤ maxLen ∧ ∀ x ∈ L, -9223372036854775808 ≤ x ∧ x ≤ 9223372036854775807 := by
  obtain ⟨fuel, hf⟩ := h
  rcases open_ints ht he hc hf with ⟨hcs, hx⟩ | ⟨a, len', cap', zs, hcs, _, hl, hm, hz, hx, hcell, hws⟩
  · have hv : Value.slice a0 len cap = .slice none 0 0 := by simpa [Value.cells] using hcs
    cases hv
    exact ⟨[], rfl, IntsAt.nil _ _ _, Nat.le_refl _, by unfold maxLen; omega, by simp⟩
  · have hv : Value.slice a0 len cap = .slice (some a) len' cap' := by simpa [Value.cells] using hcs
    cases hv
    have hls : len ≤ zs.length := by rw [hz]; split <;> omega
    have hlen : (zs.take len).length = len := by simp; omega
    refine ⟨zs.take len, hlen, ⟨some a, cap, by rw [hlen], fun i hi => ?_⟩, hl, hm, fun x hx => ?_⟩
    · have hc' := hcell i (by omega)
      have h00 := World.cell?_spot (hcell 0 (by omega))
      obtain ⟨g, o, sp⟩ := a
      obtain rfl : sp = none := by simpa [Addr.add] using h00
      refine ⟨g, o, rfl, ?_⟩
      rw [cell_plain' hc', List.getElem_take, List.getD_eq_getElem?_getD, List.getElem?_eq_getElem (by omega)]
      rfl
    · have := hws x (List.mem_of_mem_take hx)
      simpa [Lit.wf, IntKind.min, IntKind.max, IntKind.signed, IntKind.bits] using this
/-- an array of integers -/
theorem open_int_array {r : Reach} {b0 : Nat} {t e : TypeId} {n : Nat} {k : IntKind} {v : Value} {d : DataW H} {p : List MemPlace} (hu : P.underlying t = some (.array n e)) (he : P.underlying e = some (.int k)) (hce : P.cellsOf e = 1) (hct : P.cellsOf t = n)
    (hval : Value.okWide P w r b0 t v) (h : DataW.Trod enc P w base spare held t v d p) : ∃ l : List Int, l.length = n ∧ (∀ x ∈ l, (Lit.int k x).wf = true) ∧ v = .agg (l.map (Value.int k)).toArray := by
  simp only [Value.okWide, hu] at hval
  obtain ⟨cs, rfl, hsz, -⟩ := hval
  obtain ⟨fuel, hf⟩ := h
  obtain ⟨xs, m, rfl, hx, hcl, hxl, hat⟩ := DataW.trod_array hu hf
  have hcs : cs.toList.length = n := by rw [← hct]; simpa using hsz
  have each : ∀ i (hi : i < n), ∃ a, cs.toList[i]'(by omega) = .int k a ∧ (Lit.int k a).wf = true := by
    intro i hi
    have h3 := hat i hi
    have hxi : xs[i]? = some (xs[i]'(by omega)) := List.getElem?_eq_getElem (by omega)
    have h4 : ((Value.agg cs).cells.toList.drop (i * P.cellsOf e)).take (P.cellsOf e) = [cs.toList[i]'(by omega)] := by
      rw [hce, Nat.mul_one]
      show (cs.toList.drop i).take 1 = _
      rw [List.drop_eq_getElem_cons (by omega)]
      rfl
    rw [h4, hxi] at h3
    obtain ⟨a, ea, -, wa⟩ := DataW.trod_int he h3
    simp only [List.cons.injEq, and_true] at ea
    exact ⟨a, ea, wa⟩
  refine ⟨cs.toList.map intOf, by simpa using hcs, ?_, ?_⟩
  · intro x hx
    obtain ⟨v, hv, rfl⟩ := List.mem_map.1 hx
    obtain ⟨i, hi, rfl⟩ := List.getElem_of_mem hv
    obtain ⟨a, ea, wa⟩ := each i (by omega)
    rw [ea]
    exact wa
  · congr 1
    apply Array.toList_inj.1
    apply List.ext_getElem (by simp)
    intro i h1 h2
    obtain ⟨a, ea, wa⟩ := each i (by omega)
    simp only [List.getElem_map, ea, intOf]
end
end Go.Proofs.YtbhoeiopckmfhaaGreatDoor
