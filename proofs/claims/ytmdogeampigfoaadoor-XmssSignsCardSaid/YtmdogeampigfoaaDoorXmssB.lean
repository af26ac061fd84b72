/- The walks of xmss.Sign, hasPlace, Verify. -/
import Derived.Test.YtmdogeampigfoaaDoorXmssA
import Derived.Test.YtmdogeampigfoaaDoorMerkSpeaks
import Derived.Deep.RegionHeld3
namespace Go.Proofs.YtmdogeampigfoaaDoor
open Go.RowKit
attribute [local irreducible] shaL

def sigV (i : Nat) (c p : Value) : Value := .agg #[.int .i64 i, c, p]
def chainsS (seed : ByteArray) (i : Nat) (m : ByteArray) : List ByteArray := sigS seed i (digs (digestS (openS seed) i m).data.toList) 35
theorem StrsAt.hold {w : World} {v : Value} {L : List ByteArray} (hv : StrsAt w v L) (h0 : 0 < L.length) : ∀ g o n c, v = .slice (some ⟨g, o, none⟩) n c → g < w.heap.size := by
  rintro g o n c rfl
  exact hv.lt h0
theorem sign_keep {w a c : World} {b : Nat} {x0 x2 x3 x4 : Value} (h : w.grownBy a none) (g : a.grownBy c none) (k0 : w.cell? ⟨b, 0, none⟩ = some x0) (k2 : w.cell? ⟨b, 2, none⟩ = some x2) (k3 : w.cell? ⟨b, 3, none⟩ = some x3) (k4 : w.cell? ⟨b, 4, none⟩ = some x4) :
    w.grownBy c none ∧ c.cell? ⟨b, 0, none⟩ = some x0 ∧ c.cell? ⟨b, 2, none⟩ = some x2 ∧ c.cell? ⟨b, 3, none⟩ = some x3 ∧ c.cell? ⟨b, 4, none⟩ = some x4 :=
  have hg := grownBy_trans h g
  ⟨hg, hg.cell k0 (by simp), hg.cell k2 (by simp), hg.cell k3 (by simp), hg.cell k4 (by simp)⟩
set_option maxHeartbeats 1600000 in
set_option maxRecDepth 100000 in
theorem xsign_any (b : Nat) (seed m : ByteArray) (h i : Nat) (hh : h ≤ 6) (hi : i < 2 ^ h) (hs : seed.size ≤ 1000000000000) (hm : m.size ≤ 1000000000000) (w : World) (hk : KeyAt w b seed h) (hr : ShaReady w) :
    Calls Tryd.prog 17 #[.pointer (some ⟨b, 0, none⟩), .int .i64 i, .string m] w fun e w' => ∃ c p, e = .returned (.tuple #[sigV i c p, .int .i64 0]) ∧ StrsAt w' c (chainsS seed i m) ∧ StrsAt w' p (pathS h (leavesS seed h) i) ∧ w.grownBy w' none := by
  have HR := Lib.hid hr
  obtain ⟨N, hN⟩ : ∃ N, 2 ^ h = N := ⟨_, rfl⟩
  have HN := Lib.hid hN
  have hi6 : i < 64 := Nat.lt_of_lt_of_le hi (pow_le64 h hh)
  have HK := Lib.hid hk
  obtain ⟨a, cap, h1, h2⟩ := hk
  rw [hN] at h1 h2
  have HH := Lib.hid h1
  have HL := Lib.hid h2
  have hpath : Hid (∀ w0, w.grownBy w0 none → Calls Tryd.prog 9 #[.slice a N cap, .int .i64 i] w0 fun e w' => ∃ v', e = .returned (.tuple #[v', .int .i64 0]) ∧ w'.ownsRow w0.heap.size 9 1 v' h (strsV (pathS h (leavesS seed h) i)) ∧ w0.grownBy w' none) := fun w0 h0 =>
    path_ok _ (leavesS seed h) h i hh (leavesS_length seed h) hi (fun s hs => by rw [leavesS_sizes seed h s hs]; decide) w0 (h2.grown h0) ((h2.grown h0).hold (by rw [leavesS_length]; exact Nat.pow_pos (by decide))) (hr.grown h0)
  have hiN : i < N := by rw [← hN]; exact hi
  have hn1 : (i : Int) < (N : Int) := by omega
  have hdg : Hid (∀ w0, ShaReady w0 → Calls Tryd.prog 31 #[.agg #[.string (openS seed), .string (rootK seed h), .int .i64 h], .int .i64 i, .string m] w0 fun e w' => e = .returned (.string (digestS (openS seed) i m)) ∧ w0.grownBy w' none) := fun w0 h0 => digest_any (openS seed) (rootK seed h) m h i (by omega) (by rw [openS_size]; decide) hm w0 h0
  have hsg : Hid (∀ w0, ShaReady w0 → Calls Tryd.prog 30 #[.string seed, .int .i64 i, .string (digestS (openS seed) i m)] w0 fun e w' => ∃ v, e = .returned (.tuple #[v, .int .i64 0]) ∧ StrsAt w' v (chainsS seed i m) ∧ w0.grownBy w' none) := fun w0 h0 => wsign_any seed (digestS (openS seed) i m) i hs (digestS_size _ _ _) (by omega) w0 h0
  generalize digestS (openS seed) i m = D at hdg hsg
  have HCL : Hid ((chainsS seed i m).length = 35) := sigS_length _ _ _ _
  generalize chainsS seed i m = C at hsg HCL ⊢
  generalize openS seed = O at hdg HH
  generalize rootK seed h = R at hdg HH
  generalize pathS h (leavesS seed h) i = P at hpath ⊢
  have c1 := cell_of HH.out 1
  simp at c1
  clear hr h1 h2 hN hi HL
  go_enter Tryd.func17, Tryd.ntmps17
  go_wp2_with fail
  have hg0 : Hid (w.grownBy (w.alloc (.cells #[.int .i64 0, .slice none 0 0, .slice none 0 0] 44)) none) := World.grownBy_alloc _ _ _
  have hzc : Hid ((w.alloc (.cells #[.int .i64 0, .slice none 0 0, .slice none 0 0] 44)).heap[w.heap.size]? = some (.cells #[.int .i64 0, .slice none 0 0, .slice none 0 0] 44 (0, 0))) := heap_alloc_at _ _ _ rfl
  have HWS : Hid (w.heap.size < (w.alloc (.cells #[.int .i64 0, .slice none 0 0, .slice none 0 0] 44)).heap.size) := by show w.heap.size < (w.heap.push _).size; rw [Array.size_push]; exact Nat.lt_succ_self _
  have hcount := Lib.hid (count_any b seed h N HN.out _ (HK.out.grown hg0.out))
  generalize w.alloc (.cells #[.int .i64 0, .slice none 0 0, .slice none 0 0] 44) = wz at hg0 hzc hcount HWS ⊢
  have c1z := hg0.out.cell c1 (by simp)
  refine hcount.out.mono ?_
  rintro e w1 ⟨rfl, rfl⟩
  go_wp2_with fail
  refine (hpath.out _ hg0.out).mono ?_
  rintro e w2 ⟨v2, rfl, ho2, g2⟩
  obtain ⟨pa, pc, rfl⟩ := slice_own' ho2
  have HP2 := Lib.hid (strs_own ho2)
  have HPB := Lib.hid ho2.lt
  have G2 := Lib.hid (grownBy_trans hg0.out g2)
  have HZ2 : Hid (w2.heap[w.heap.size]? = some (.cells #[.int .i64 0, .slice none 0 0, .slice none 0 0] 44 (0, 0))) := (g2.block _ (Array.getElem?_eq_some_iff.1 hzc.out).1 (by simp)).trans hzc.out
  have hk2 := (G2.out.block _ (Array.getElem?_eq_some_iff.1 HH.out).1 (by simp)).trans HH.out
  have k0 := cell_of hk2 0
  have k2 := cell_of hk2 2
  have k3 := cell_of hk2 3
  have k4 := cell_of hk2 4
  simp at k0 k2 k3 k4
  have HR2 := Lib.hid (HR.out.grown G2.out)
  clear g2 ho2 hpath hcount hzc hg0 hk2 c1 c1z
  go_wp2_with fail
  go_region_held3 (fun w' => w2.grownBy w' none ∧ w'.cell? ⟨b, 0, none⟩ = some (.string seed) ∧ w'.cell? ⟨b, 2, none⟩ = some (.string O) ∧ w'.cell? ⟨b, 3, none⟩ = some (.string R) ∧ w'.cell? ⟨b, 4, none⟩ = some (.int .i64 h)) (first | exact ck | exact ⟨grownBy_drew (World.grownBy.refl _ _), k0, k2, k3, k4⟩)
    (first
      | (go_at_call 31; (with_reducible refine (hdg.out _ (HR2.out.grown (grownBy_drew (World.grownBy.refl _ _)))).mono ?_); rintro e w6 ⟨rfl, g6⟩; have ck := sign_keep (grownBy_drew (World.grownBy.refl w2 none)) g6 k0 k2 k3 k4)
      | (go_at_call 30; (with_reducible refine (hsg.out _ (HR2.out.grown ck.1)).mono ?_); rintro e w7 ⟨v7, rfl, hs7, g7⟩; have ck := sign_keep ck.1 g7 k0 k2 k3 k4))
  obtain ⟨a7, cc7, rfl⟩ := hs7.form
  have hg7 := Lib.hid ck.1
  have hz7 := (hg7.out.block _ (Array.getElem?_eq_some_iff.1 HZ2.out).1 (by simp)).trans HZ2.out
  have z0 := cell_of hz7 0
  have z1 := cell_of hz7 1
  have z2 := cell_of hz7 2
  have f0 := free_of hz7 0
  have f1 := free_of hz7 1
  have f2 := free_of hz7 2
  simp at z0 z1 z2
  have HZ7 := Lib.hid hz7
  have HS7 := Lib.hid hs7
  have HP7 := Lib.hid (HP2.out.grown hg7.out)
  clear ck hs7 hz7 k0 k2 k3 k4
  go_wp2_with fail
  have hW := heap_setCell (heap_setCell (heap_setCell HZ7.out 0 (.int .i64 i)) 1 (.slice a7 C.length cc7)) 2 (.slice pa h pc)
  have hWg : w7.grownBy (((w7.setCell ⟨w.heap.size, 0, none⟩ (.int .i64 i)).setCell ⟨w.heap.size, 1, none⟩ (.slice a7 C.length cc7)).setCell ⟨w.heap.size, 2, none⟩ (.slice pa h pc)) (some w.heap.size) := grownBy_setCell (grownBy_setCell (grownBy_setCell (World.grownBy.refl _ _) 0 _) 1 _) 2 _
  generalize ((w7.setCell ⟨w.heap.size, 0, none⟩ (.int .i64 i)).setCell ⟨w.heap.size, 1, none⟩ (.slice a7 C.length cc7)).setCell ⟨w.heap.size, 2, none⟩ (.slice pa h pc) = wf at hW hWg ⊢
  have y0 := cell_of hW 0
  have y1 := cell_of hW 1
  have y2 := cell_of hW 2
  simp at y0 y1 y2
  refine bodyPost_ret (by simp [results, Tryd.results17, go_sem, y0, y1, y2]; try rfl) rfl ?_
  refine ⟨_, _, rfl, ?_, ?_, ?_⟩
  · refine HS7.out.beside hWg ?_
    rintro g o rfl e
    cases e
    obtain ⟨g', o', e', hc⟩ := HS7.out.at_ 0 _ (List.getElem?_eq_getElem (by rw [HCL.out]; decide))
    cases e'
    rw [cell_of HZ7.out] at hc
    have hlt := (List.getElem?_eq_some_iff.1 (by simpa using hc : ([Value.int .i64 0, .slice none 0 0, .slice none 0 0] : List Value)[o + 0]? = some (.string _))).1
    have ho : o = 0 ∨ o = 1 ∨ o = 2 := by simp at hlt; omega
    rcases ho with rfl | rfl | rfl <;> simp at hc
  · refine HP7.out.beside hWg ?_
    rintro g o rfl e
    cases e
    have h1 := (HPB.out w.heap.size rfl).1
    have h2 := HWS.out
    exact absurd h1 (Nat.not_le_of_lt h2)
  · exact grown_row (grownBy_trans G2.out hg7.out) hWg (by intro g e; cases e; exact Nat.le_refl _)
end Go.Proofs.YtmdogeampigfoaaDoor
