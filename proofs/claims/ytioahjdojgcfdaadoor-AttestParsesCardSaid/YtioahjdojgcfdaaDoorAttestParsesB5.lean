/- The walks of xmss.Sign, hasPlace, Verify. · The walk of a signature's Encode. · A struct of nine cells: an update in memory. No walk. · The walk of an update's Encode. · The walks of an attestation's mayBe, place, Message. · The walks of an attestation's place, Message, Encode. · The walk of a Reader's Text. · The walks of xmss.Sign of an index that may not be, and of hasPlace. · A key's own signatures are verified: plain words. · The walk of policy's Sign. · Verify of what a key signed; a key's root has 16 bytes. · The walks of bits' loops. · Texts out of rows of bytes. No walk. -/
import Derived.Test.YtioahjdojgcfdaaDoorAttestParsesB4
import Derived.Deep.RegionHeld3
import Derived.Test.YtioahjdojgcfdaaDoorAttestParsesB3
import Derived.Handy
import Derived.Deep.DeepCutAuto
import Derived.Test.YtioahjdojgcfdaaDoorAttestParsesB2
import Derived.Test.YtioahjdojgcfdaaDoorAttestParsesB1
import Derived.Laws.IdiomStrings
namespace Go.Proofs.YtioahjdojgcfdaaDoor
open Go.RowKit
attribute [local irreducible] shaL

def sigV (i : Nat) (c p : Value) : Value := .agg #[.int .i64 i, c, p]
def chainsS (seed : ByteArray) (i : Nat) (m : ByteArray) : List ByteArray := sigS seed i (digs (digestS (openS seed) i m).data.toList) 35
theorem StrsAt.hold {w : World} {v : Value} {L : List ByteArray} (hv : StrsAt w v L) (h0 : 0 < L.length) : ∀ g o n c, v = .slice (some ⟨g, o, none⟩) n c → g < w.heap.size := by
  rintro g o n c rfl
  exact hv.lt h0
theorem sign_keep {w a c : World} {b : Nat} {x0 x2 x3 x4 : Value} (h : w.grownBy a none) (g : a.grownBy c none) (k0 : w.cell? ⟨b, 0, none⟩ = some x0) (k2 : w.cell? ⟨b, 2, none⟩ = some x2) (k3 : w.cell? ⟨b, 3, none⟩ = some x3) (k4 : w.cell? ⟨b, 4, none⟩ = some x4) :
    w.grownBy c none ∧ c.cell? ⟨b, 0, none⟩ = some x0 ∧ c.cell? ⟨b, 2, none⟩ = some x2 ∧ c.cell? ⟨b, 3, none⟩ = some x3 ∧ c.cell? ⟨b, 4, none⟩ = some x4 :=
  have hg := grownBy_trans h g
  ⟨hg, hg.cell k0 (by simp), hg.cell k2 (by simp), hg.cell k3 (by simp), hg.cell k4 (by simp)⟩
set_option maxHeartbeats 1600000 in
set_option maxRecDepth 100000 in
theorem xsign_new (b : Nat) (seed m : ByteArray) (h i : Nat) (hh : h ≤ 6) (hi : i < 2 ^ h) (hs : seed.size ≤ 1000000000000) (hm : m.size ≤ 1000000000000) (w : World) (hk : KeyAt w b seed h) (hr : ShaReady w) :
    Calls Tryd.prog 56 #[.pointer (some ⟨b, 0, none⟩), .int .i64 i, .string m] w fun e w' => ∃ c p, e = .returned (.tuple #[sigV i c p, .int .i64 0]) ∧ StrsAt w' c (chainsS seed i m) ∧ StrsAt w' p (pathS h (leavesS seed h) i) ∧ (∀ x, c.ownBlock = some x → w.heap.size ≤ x) ∧ (∀ x, p.ownBlock = some x → w.heap.size ≤ x) ∧ w.grownBy w' none := by
  have HR := Lib.hid hr
  obtain ⟨N, hN⟩ : ∃ N, 2 ^ h = N := ⟨_, rfl⟩
  have HN := Lib.hid hN
  have hi6 : i < 64 := Nat.lt_of_lt_of_le hi (pow_le64 h hh)
  have HK := Lib.hid hk
  obtain ⟨a, cap, h1, h2⟩ := hk
  rw [hN] at h1 h2
  have HH := Lib.hid h1
  have HL := Lib.hid h2
  have hpath : Hid (∀ w0, w.grownBy w0 none → Calls Tryd.prog 98 #[.slice a N cap, .int .i64 i] w0 fun e w' => ∃ v', e = .returned (.tuple #[v', .int .i64 0]) ∧ w'.ownsRow w0.heap.size 9 1 v' h (strsV (pathS h (leavesS seed h) i)) ∧ w0.grownBy w' none) := fun w0 h0 =>
    path_ok _ (leavesS seed h) h i hh (leavesS_length seed h) hi (fun s hs => by rw [leavesS_sizes seed h s hs]; decide) w0 (h2.grown h0) ((h2.grown h0).hold (by rw [leavesS_length]; exact Nat.pow_pos (by decide))) (hr.grown h0)
  have hiN : i < N := by rw [← hN]; exact hi
  have hn1 : (i : Int) < (N : Int) := by omega
  have hdg : Hid (∀ w0, ShaReady w0 → Calls Tryd.prog 100 #[.agg #[.string (openS seed), .string (rootK seed h), .int .i64 h], .int .i64 i, .string m] w0 fun e w' => e = .returned (.string (digestS (openS seed) i m)) ∧ w0.grownBy w' none) := fun w0 h0 => digest_any (openS seed) (rootK seed h) m h i (by omega) (by rw [openS_size]; decide) hm w0 h0
  have hsg : Hid (∀ w0, w.grownBy w0 none → ShaReady w0 → Calls Tryd.prog 99 #[.string seed, .int .i64 i, .string (digestS (openS seed) i m)] w0 fun e w' => ∃ v, e = .returned (.tuple #[v, .int .i64 0]) ∧ StrsAt w' v (chainsS seed i m) ∧ (∀ x, v.ownBlock = some x → w.heap.size ≤ x) ∧ w0.grownBy w' none) := fun w0 k0 h0 => (wsign_new seed (digestS (openS seed) i m) i hs (digestS_size _ _ _) (by omega) w0 h0).mono (by
    rintro e w' ⟨v, rfl, h1, h2⟩
    have hL := sigS_length seed i (digs (digestS (openS seed) i m).data.toList) 35
    exact ⟨v, rfl, strs_row h1 hL, fun x e => Nat.le_trans k0.size (h1.lt x e).1, h2⟩)
  generalize digestS (openS seed) i m = D at hdg hsg
  have HCL : Hid ((chainsS seed i m).length = 35) := sigS_length _ _ _ _
  generalize chainsS seed i m = C at hsg HCL ⊢
  generalize openS seed = O at hdg HH
  generalize rootK seed h = R at hdg HH
  generalize pathS h (leavesS seed h) i = P at hpath ⊢
  have c1 := cell_of HH.out 1
  simp at c1
  clear hr h1 h2 hN hi HL
  go_enter Tryd.func56, Tryd.ntmps56
  go_wp2_with fail
  have hg0 : Hid (w.grownBy (w.alloc (.cells #[.int .i64 0, .slice none 0 0, .slice none 0 0] 46)) none) := World.grownBy_alloc _ _ _
  have hzc : Hid ((w.alloc (.cells #[.int .i64 0, .slice none 0 0, .slice none 0 0] 46)).heap[w.heap.size]? = some (.cells #[.int .i64 0, .slice none 0 0, .slice none 0 0] 46 (0, 0))) := heap_alloc_at _ _ _ rfl
  have HWS : Hid (w.heap.size < (w.alloc (.cells #[.int .i64 0, .slice none 0 0, .slice none 0 0] 46)).heap.size) := by show w.heap.size < (w.heap.push _).size; rw [Array.size_push]; exact Nat.lt_succ_self _
  have hcount := Lib.hid (count_any b seed h N HN.out _ (HK.out.grown hg0.out))
  generalize w.alloc (.cells #[.int .i64 0, .slice none 0 0, .slice none 0 0] 46) = wz at hg0 hzc hcount HWS ⊢
  have c1z := hg0.out.cell c1 (by simp)
  refine hcount.out.mono ?_
  rintro e w1 ⟨rfl, rfl⟩
  go_wp2_with fail
  refine (hpath.out _ hg0.out).mono ?_
  rintro e w2 ⟨v2, rfl, ho2, g2⟩
  obtain ⟨pa, pc, rfl⟩ := slice_own' ho2
  have HP2 := Lib.hid (strs_own ho2)
  have HPB := Lib.hid ho2.lt
  have G2 := Lib.hid (grownBy_trans hg0.out g2)
  have HZ2 : Hid (w2.heap[w.heap.size]? = some (.cells #[.int .i64 0, .slice none 0 0, .slice none 0 0] 46 (0, 0))) := (g2.block _ (Array.getElem?_eq_some_iff.1 hzc.out).1 (by simp)).trans hzc.out
  have hk2 := (G2.out.block _ (Array.getElem?_eq_some_iff.1 HH.out).1 (by simp)).trans HH.out
  have k0 := cell_of hk2 0
  have k2 := cell_of hk2 2
  have k3 := cell_of hk2 3
  have k4 := cell_of hk2 4
  simp at k0 k2 k3 k4
  have HR2 := Lib.hid (HR.out.grown G2.out)
  clear g2 ho2 hpath hcount hzc hg0 hk2 c1 c1z
  go_wp2_with fail
  go_region_held3 (fun w' => w2.grownBy w' none ∧ w'.cell? ⟨b, 0, none⟩ = some (.string seed) ∧ w'.cell? ⟨b, 2, none⟩ = some (.string O) ∧ w'.cell? ⟨b, 3, none⟩ = some (.string R) ∧ w'.cell? ⟨b, 4, none⟩ = some (.int .i64 h)) (first | exact ck | exact ⟨grownBy_drew (World.grownBy.refl _ _), k0, k2, k3, k4⟩)
    (first
      | (go_at_call 100; (with_reducible refine (hdg.out _ (HR2.out.grown (grownBy_drew (World.grownBy.refl _ _)))).mono ?_); rintro e w6 ⟨rfl, g6⟩; have ck := sign_keep (grownBy_drew (World.grownBy.refl w2 none)) g6 k0 k2 k3 k4)
      | (go_at_call 99; (with_reducible refine (hsg.out _ (grownBy_trans G2.out ck.1) (HR2.out.grown ck.1)).mono ?_); rintro e w7 ⟨v7, rfl, hs7, hn7, g7⟩; have ck := sign_keep ck.1 g7 k0 k2 k3 k4))
  obtain ⟨a7, cc7, rfl⟩ := hs7.form
  have HN7 := Lib.hid hn7
  have hg7 := Lib.hid ck.1
  have hz7 := (hg7.out.block _ (Array.getElem?_eq_some_iff.1 HZ2.out).1 (by simp)).trans HZ2.out
  have z0 := cell_of hz7 0
  have z1 := cell_of hz7 1
  have z2 := cell_of hz7 2
  have f0 := free_of hz7 0
  have f1 := free_of hz7 1
  have f2 := free_of hz7 2
  simp at z0 z1 z2
  have HZ7 := Lib.hid hz7
  have HS7 := Lib.hid hs7
  have HP7 := Lib.hid (HP2.out.grown hg7.out)
  clear ck hs7 hn7 hz7 k0 k2 k3 k4
  go_wp2_with fail
  have hW := heap_setCell (heap_setCell (heap_setCell HZ7.out 0 (.int .i64 i)) 1 (.slice a7 C.length cc7)) 2 (.slice pa h pc)
  have hWg : w7.grownBy (((w7.setCell ⟨w.heap.size, 0, none⟩ (.int .i64 i)).setCell ⟨w.heap.size, 1, none⟩ (.slice a7 C.length cc7)).setCell ⟨w.heap.size, 2, none⟩ (.slice pa h pc)) (some w.heap.size) := grownBy_setCell (grownBy_setCell (grownBy_setCell (World.grownBy.refl _ _) 0 _) 1 _) 2 _
  generalize ((w7.setCell ⟨w.heap.size, 0, none⟩ (.int .i64 i)).setCell ⟨w.heap.size, 1, none⟩ (.slice a7 C.length cc7)).setCell ⟨w.heap.size, 2, none⟩ (.slice pa h pc) = wf at hW hWg ⊢
  have y0 := cell_of hW 0
  have y1 := cell_of hW 1
  have y2 := cell_of hW 2
  simp at y0 y1 y2
  refine bodyPost_ret (by simp [results, Tryd.results56, go_sem, y0, y1, y2]; try rfl) rfl ?_
  refine ⟨_, _, rfl, ?_, ?_, HN7.out, fun x e => Nat.le_trans (Nat.le_of_lt HWS.out) (HPB.out x e).1, ?_⟩
  · refine HS7.out.beside hWg ?_
    rintro g o rfl e
    cases e
    obtain ⟨g', o', e', hc⟩ := HS7.out.at_ 0 _ (List.getElem?_eq_getElem (by rw [HCL.out]; decide))
    cases e'
    rw [cell_of HZ7.out] at hc
    have hlt := (List.getElem?_eq_some_iff.1 (by simpa using hc : ([Value.int .i64 0, .slice none 0 0, .slice none 0 0] : List Value)[o + 0]? = some (.string _))).1
    have ho : o = 0 ∨ o = 1 ∨ o = 2 := by simp at hlt; omega
    rcases ho with rfl | rfl | rfl <;> simp at hc
  · refine HP7.out.beside hWg ?_
    rintro g o rfl e
    cases e
    have h1 := (HPB.out w.heap.size rfl).1
    have h2 := HWS.out
    exact absurd h1 (Nat.not_le_of_lt h2)
  · exact grown_row (grownBy_trans G2.out hg7.out) hWg (by intro g e; cases e; exact Nat.le_refl _)
theorem xsign_any (b : Nat) (seed m : ByteArray) (h i : Nat) (hh : h ≤ 6) (hi : i < 2 ^ h) (hs : seed.size ≤ 1000000000000) (hm : m.size ≤ 1000000000000) (w : World) (hk : KeyAt w b seed h) (hr : ShaReady w) :
    Calls Tryd.prog 56 #[.pointer (some ⟨b, 0, none⟩), .int .i64 i, .string m] w fun e w' => ∃ c p, e = .returned (.tuple #[sigV i c p, .int .i64 0]) ∧ StrsAt w' c (chainsS seed i m) ∧ StrsAt w' p (pathS h (leavesS seed h) i) ∧ w.grownBy w' none :=
  (xsign_new b seed m h i hh hi hs hm w hk hr).mono (by
    rintro e w' ⟨c, p, rfl, h1, h2, _, _, h3⟩
    exact ⟨c, p, rfl, h1, h2, h3⟩)
end Go.Proofs.YtioahjdojgcfdaaDoor

namespace Go.Proofs.YtioahjdojgcfdaaDoor
open Go.RowKit
attribute [local irreducible] shaL

theorem sig_cells {w : World} {b : Nat} {t : TypeId} {a0 a1 a2 : Value} (h : w.heap[b]? = some (.cells #[a0, a1, a2] t (0, 0))) : w.cell? ⟨b, 0, none⟩ = some a0 ∧ w.cell? ⟨b, 1, none⟩ = some a1 ∧ w.cell? ⟨b, 2, none⟩ = some a2 := by
  refine ⟨?_, ?_, ?_⟩ <;> rw [cell_of h] <;> rfl
theorem wr_num1 {w : World} {b : Nat} {ts : List ByteArray} (n : Nat) (hn : n < 256) (h : WrAt w b ⟨ts, 0⟩) (hr : total ts ≤ 100000000) :
    Calls Tryd.prog 83 #[.pointer (some ⟨b, 0, none⟩), .int .u64 n, .int .i64 1] w fun e w' => e = .returned (.pointer (some ⟨b, 0, none⟩)) ∧ WrAt w' b ⟨str (be n 1) :: ts, 0⟩ ∧ w.grownBy w' (some b) := by
  have := wr_numS (w := w) (st := ⟨ts, 0⟩) n (by omega) 1 h (by show total ts ≤ _; omega)
  rwa [wnum_ok ts n 1 ⟨by omega, by omega, by show n < 256; omega⟩] at this
set_option maxRecDepth 100000 in
set_option maxHeartbeats 1600000 in
theorem sencode_any (i : Nat) (C P : List ByteArray) (ca pa : Option Addr) (cc pc h : Nat) (hi : i ≤ 63) (hC : C.length = 35) (hP : P.length = h) (hh : h ≤ 6) (h1 : ∀ t ∈ C, t.size = 16) (h2 : ∀ t ∈ P, t.size = 16) (w : World) (hc : StrsAt w (.slice ca 35 cc) C) (hp : StrsAt w (.slice pa h pc) P) :
    Calls Tryd.prog 59 #[sigV i (.slice ca 35 cc) (.slice pa h pc)] w fun e w' => e = .returned (.tuple #[.string (str (sigB i C P)), .int .i64 0]) ∧ w.grownBy w' none := by
  unfold sigV
  have hb0 := heap_alloc_at w (.cells #[.int .i64 i, .slice ca 35 cc, .slice pa h pc] 46) _ rfl
  have hg0 : w.grownBy (w.alloc (.cells #[.int .i64 i, .slice ca 35 cc, .slice pa h pc] 46)) none := World.grownBy_alloc _ _ _
  obtain ⟨W0, hW0⟩ : ∃ W0, w.alloc (.cells #[.int .i64 i, .slice ca 35 cc, .slice pa h pc] 46) = W0 := ⟨_, rfl⟩
  rw [hW0] at hb0 hg0
  have hWB : WrAt (W0.alloc (.cells #[.pointer none, .int .i64 0, .int .i64 0] 114)) W0.heap.size ⟨[], 0⟩ := ⟨.pointer none, heap_alloc_at W0 _ _ rfl, rfl⟩
  have hg1 : W0.grownBy (W0.alloc (.cells #[.pointer none, .int .i64 0, .int .i64 0] 114)) none := World.grownBy_alloc _ _ _
  have hb1 := hg1.heap hb0 (by simp)
  obtain ⟨W1, hW1⟩ : ∃ W1, W0.alloc (.cells #[.pointer none, .int .i64 0, .int .i64 0] 114) = W1 := ⟨_, rfl⟩
  have hlt : w.heap.size < W0.heap.size := (Array.getElem?_eq_some_iff.1 hb0).1
  obtain ⟨XB, hXB⟩ : ∃ XB, w.heap.size = XB := ⟨_, rfl⟩
  obtain ⟨WB, hWBn⟩ : ∃ WB, W0.heap.size = WB := ⟨_, rfl⟩
  rw [hW1] at hWB hg1 hb1
  rw [hWBn] at hWB hlt
  rw [hXB] at hb0 hb1 hlt
  have hnew : ∀ g, some WB = some g → w.heap.size ≤ g := fun g e => by cases e; omega
  have hne2 : ∀ (w' w'' : World) (v : Array Value) (t : TypeId), w'.grownBy w'' (some WB) → w'.heap[XB]? = some (.cells v t (0, 0)) → w''.heap[XB]? = some (.cells v t (0, 0)) := fun w' w'' o u g h => g.heap h (fun e => by have := Option.some.inj e; omega)
  have hneC : ∀ g o, 0 < 35 → ca = some ⟨g, o, none⟩ → g ≠ WB := fun g o _ e => by
    subst e
    have := hc.lt (by omega)
    omega
  have hneP : ∀ g o, 0 < h → pa = some ⟨g, o, none⟩ → g ≠ WB := fun g o q e => by
    subst e
    have := hp.lt (by omega)
    omega
  have hend : str (flat (P.reverse ++ (str (be h 1) :: (C.reverse ++ [str (be i 1)])))) = str (sigB i C P) := by
    rw [flat_rev]
    show str ((flat (C.reverse ++ [str (be i 1)]) ++ (str (be h 1)).data.toList) ++ catS P) = _
    rw [flat_rev, str_data]
    show str ((((flat [] ++ (str (be i 1)).data.toList) ++ catS C) ++ be h 1) ++ catS P) = _
    rw [str_data]
    unfold sigB
    rw [hP]
    show str (((([] ++ be i 1) ++ catS C) ++ be h 1) ++ catS P) = _
    simp only [List.append_assoc, List.nil_append]
  have t1 : total [str (be i 1)] = 1 := by rw [total_cons, str_size, be_length]; rfl
  have t2 : total (C.reverse ++ [str (be i 1)]) = 561 := by rw [total_rev C _ h1, t1, hC]
  have t3 : total (str (be h 1) :: (C.reverse ++ [str (be i 1)])) = 562 := by rw [total_cons, str_size, be_length, t2]
  have t4 : total (P.reverse ++ (str (be h 1) :: (C.reverse ++ [str (be i 1)]))) = 16 * h + 562 := by rw [total_rev P _ h2, t3, hP]
  have c0 : IntKind.u64.wrap (i : Int) = (i : Int) := wrap_u64 i (by omega)
  have c1 : IntKind.u64.wrap (h : Int) = (h : Int) := wrap_u64 h (by omega)
  have d1 : ¬ (i : Int) < 0 := by omega
  have d2 : ¬ (i : Int) > 63 := by omega
  have d3 : ¬ (h : Int) > 6 := by omega
  have HG1 := Lib.hid (grownBy_trans hg0 hg1)
  have HB0 := Lib.hid hb0
  have HB1 := Lib.hid hb1
  have HW0 := Lib.hid hW0
  have HW1 := Lib.hid hW1
  have HXB := Lib.hid hXB
  have HWB := Lib.hid hWBn
  have HNEW := Lib.hid hnew
  have HNE := Lib.hid hne2
  have HEND := Lib.hid hend
  have HC := Lib.hid hc
  have HP := Lib.hid hp
  have F1 := Lib.hid (wr_num1 i (by omega) hWB (by show 0 ≤ _; omega))
  have F2 : Hid (∀ w', w.grownBy w' none → WrAt w' WB ⟨[str (be i 1)], 0⟩ → _) := Lib.hid fun w' g q => xwrite_any WB [str (be i 1)] C ca 35 cc hC (by omega) h1 (by rw [t1]; omega) w' (hc.grown g) q hneC
  have F3 : Hid (∀ w', WrAt w' WB ⟨C.reverse ++ [str (be i 1)], 0⟩ → _) := Lib.hid fun w' q => wr_num1 (w := w') h (by omega) q (by rw [t2]; omega)
  have F4 : Hid (∀ w', w.grownBy w' none → WrAt w' WB ⟨str (be h 1) :: (C.reverse ++ [str (be i 1)]), 0⟩ → _) := Lib.hid fun w' g q => xwrite_any WB _ P pa h pc hP (by omega) h2 (by rw [t3]; omega) w' (hp.grown g) q hneP
  have F5 : Hid (∀ w', WrAt w' WB ⟨P.reverse ++ (str (be h 1) :: (C.reverse ++ [str (be i 1)])), 0⟩ → _) := Lib.hid fun w' q => wr_bytesS (w := w') q (by show total (P.reverse ++ _) ≤ _; rw [t4]; omega)
  obtain ⟨x0, x1, x2⟩ := sig_cells hb0
  obtain ⟨y0, y1, y2⟩ := sig_cells hb1
  clear hb0 hb1 hg0 hg1 hW0 hW1 hWB hlt hXB hWBn hnew hne2 hneC hneP hend t1 t2 t3 t4 hc hp hi hC hP hh h1 h2
  go_enter Tryd.func59, Tryd.ntmps59
  go_wp2_with (first | rw [HW0.out, HXB.out] | rw [HW1.out, HWB.out])
  refine F1.out.mono ?_
  rintro e w2 ⟨rfl, hw2, g2⟩
  have W2 := Lib.hid hw2
  have G2 := Lib.hid (grown_row HG1.out g2 HNEW.out)
  have B2 := Lib.hid (HNE.out _ _ _ _ g2 HB1.out)
  clear hw2 g2 x0 x1 x2 y0 y1 y2
  obtain ⟨x0, x1, x2⟩ := sig_cells B2.out
  go_wp2_with fail
  refine (F2.out w2 G2.out W2.out).mono ?_
  rintro e w3 ⟨rfl, hw3, g3⟩
  have W3 := Lib.hid hw3
  have G3 := Lib.hid (grown_row G2.out g3 HNEW.out)
  have B3 := Lib.hid (HNE.out _ _ _ _ g3 B2.out)
  clear hw3 g3 x0 x1 x2
  obtain ⟨x0, x1, x2⟩ := sig_cells B3.out
  go_wp2_with fail
  refine (F3.out w3 W3.out).mono ?_
  rintro e w4 ⟨rfl, hw4, g4⟩
  have W4 := Lib.hid hw4
  have G4 := Lib.hid (grown_row G3.out g4 HNEW.out)
  have B4 := Lib.hid (HNE.out _ _ _ _ g4 B3.out)
  clear hw4 g4 x0 x1 x2
  obtain ⟨x0, x1, x2⟩ := sig_cells B4.out
  go_wp2_with fail
  refine (F4.out w4 G4.out W4.out).mono ?_
  rintro e w5 ⟨rfl, hw5, g5⟩
  have W5 := Lib.hid hw5
  have G5 := Lib.hid (grown_row G4.out g5 HNEW.out)
  clear hw5 g5 x0 x1 x2
  go_wp2_with fail
  refine (F5.out w5 W5.out).mono ?_
  rintro e w6 ⟨rfl, g6⟩
  have G6 := Lib.hid (grownBy_trans G5.out g6)
  clear g6
  go_wp2_with fail
  go_returns
  exact ⟨by rw [← HEND.out]; rfl, G6.out⟩
end Go.Proofs.YtioahjdojgcfdaaDoor

namespace Go.Proofs.YtioahjdojgcfdaaDoor
open Go.RowKit

def updL (l : ByteArray) (x : EntS) (i : Nat) (c p : Value) : List Value := [.string l, .int .u64 x.v, .string x.o, .string x.r, .int .i64 x.h, .string x.p, .int .i64 i, c, p]
/-- an update, as a value -/
def updV (l : ByteArray) (x : EntS) (i : Nat) (c p : Value) : Value := .agg #[.string l, .int .u64 x.v, .string x.o, .string x.r, .int .i64 x.h, .string x.p, .int .i64 i, c, p]
def updZ : Value := .agg #[.string ⟨#[]⟩, .int .u64 0, .string ⟨#[]⟩, .string ⟨#[]⟩, .int .i64 0, .string ⟨#[]⟩, .int .i64 0, .slice none 0 0, .slice none 0 0]
theorem cells9 {w : World} {b : Nat} {t : TypeId} {v0 v1 v2 v3 v4 v5 v6 v7 v8 : Value} (h : w.heap[b]? = some (.cells #[v0, v1, v2, v3, v4, v5, v6, v7, v8] t (0, 0))) :
    w.cell? ⟨b, 0, none⟩ = some v0 ∧ w.cell? ⟨b, 1, none⟩ = some v1 ∧ w.cell? ⟨b, 2, none⟩ = some v2 ∧ w.cell? ⟨b, 3, none⟩ = some v3 ∧ w.cell? ⟨b, 4, none⟩ = some v4 ∧ w.cell? ⟨b, 5, none⟩ = some v5 ∧ w.cell? ⟨b, 6, none⟩ = some v6 ∧ w.cell? ⟨b, 7, none⟩ = some v7 ∧ w.cell? ⟨b, 8, none⟩ = some v8 := by
  refine ⟨?_, ?_, ?_, ?_, ?_, ?_, ?_, ?_, ?_⟩ <;> rw [cell_of h] <;> rfl
theorem heap9 {w : World} {n : Nat} {t : TypeId} {u0 u1 u2 u3 u4 u5 u6 u7 u8 : Value} (h : w.heap[n]? = some (.cells #[u0, u1, u2, u3, u4, u5, u6, u7, u8] t (0, 0))) (v0 v1 v2 v3 v4 v5 v6 v7 v8 : Value) :
    (((((((((w.setCell ⟨n, 0, none⟩ v0).setCell ⟨n, 1, none⟩ v1).setCell ⟨n, 2, none⟩ v2).setCell ⟨n, 3, none⟩ v3).setCell ⟨n, 4, none⟩ v4).setCell ⟨n, 5, none⟩ v5).setCell ⟨n, 6, none⟩ v6).setCell ⟨n, 7, none⟩ v7).setCell ⟨n, 8, none⟩ v8).heap[n]? = some (.cells #[v0, v1, v2, v3, v4, v5, v6, v7, v8] t (0, 0)) := by
  have h1 : (((w.setCell ⟨n, 0, none⟩ v0).setCell ⟨n, 1, none⟩ v1).setCell ⟨n, 2, none⟩ v2).heap[n]? = some (.cells #[v0, v1, v2, u3, u4, u5, u6, u7, u8] t (0, 0)) := (heap_setCell (heap_setCell (heap_setCell h 0 v0) 1 v1) 2 v2).trans rfl
  generalize (((w.setCell ⟨n, 0, none⟩ v0).setCell ⟨n, 1, none⟩ v1).setCell ⟨n, 2, none⟩ v2) = wa at h1 ⊢
  have h2 : (((wa.setCell ⟨n, 3, none⟩ v3).setCell ⟨n, 4, none⟩ v4).setCell ⟨n, 5, none⟩ v5).heap[n]? = some (.cells #[v0, v1, v2, v3, v4, v5, u6, u7, u8] t (0, 0)) := (heap_setCell (heap_setCell (heap_setCell h1 3 v3) 4 v4) 5 v5).trans rfl
  generalize (((wa.setCell ⟨n, 3, none⟩ v3).setCell ⟨n, 4, none⟩ v4).setCell ⟨n, 5, none⟩ v5) = wb at h2 ⊢
  exact (heap_setCell (heap_setCell (heap_setCell h2 6 v6) 7 v7) 8 v8).trans rfl
theorem grown9 (w : World) (n : Nat) (v0 v1 v2 v3 v4 v5 v6 v7 v8 : Value) : w.grownBy (((((((((w.setCell ⟨n, 0, none⟩ v0).setCell ⟨n, 1, none⟩ v1).setCell ⟨n, 2, none⟩ v2).setCell ⟨n, 3, none⟩ v3).setCell ⟨n, 4, none⟩ v4).setCell ⟨n, 5, none⟩ v5).setCell ⟨n, 6, none⟩ v6).setCell ⟨n, 7, none⟩ v7).setCell ⟨n, 8, none⟩ v8) (some n) :=
  (grownBy_setCell (grownBy_setCell (grownBy_setCell (grownBy_setCell (grownBy_setCell (grownBy_setCell (grownBy_setCell (grownBy_setCell (grownBy_setCell (World.grownBy.refl w _) 0 _) 1 _) 2 _) 3 _) 4 _) 5 _) 6 _) 7 _) 8 _)
end Go.Proofs.YtioahjdojgcfdaaDoor

namespace Go.Proofs.YtioahjdojgcfdaaDoor
open Go.RowKit
attribute [local irreducible] shaL

theorem wr_textU {w : World} {b : Nat} {ts : List ByteArray} (t : ByteArray) (ht : t.size ≤ 4096) (h : WrAt w b ⟨ts, 0⟩) (hr : total ts ≤ 100000000) :
    Calls Tryd.prog 61 #[.pointer (some ⟨b, 0, none⟩), .string t] w fun e w' => e = .returned (.pointer (some ⟨b, 0, none⟩)) ∧ WrAt w' b ⟨t :: str (be t.size 2) :: ts, 0⟩ ∧ w.grownBy w' (some b) := by
  refine (wtext_any t (by unfold maxLen; omega) w (some ⟨b, 0, none⟩) (some ⟨ts, 0⟩) ⟨b, rfl, h⟩ (fun x e => by cases e; show 2 + t.size + total ts ≤ _; omega)).mono ?_
  rintro e w' ⟨rfl, hw, g⟩
  obtain ⟨b', e', hw⟩ := hw
  cases e'
  have e2 : (⟨ts, 0⟩ : WSt).text t = ⟨t :: str (be t.size 2) :: ts, 0⟩ := by
    unfold WSt.text
    rw [if_pos ht]
    rfl
  have hw : WrAt w' b ((⟨ts, 0⟩ : WSt).text t) := hw
  rw [e2] at hw
  exact ⟨rfl, hw, g⟩
theorem flat_textU (ts : List ByteArray) (t : ByteArray) : flat (t :: str (be t.size 2) :: ts) = flat ts ++ textU t := by
  show (flat ts ++ (str (be t.size 2)).data.toList) ++ t.data.toList = _
  rw [str_data, List.append_assoc]
  rfl
theorem total_textU (ts : List ByteArray) (t : ByteArray) (h : t.size ≤ 4096) : total (t :: str (be t.size 2) :: ts) ≤ 5000 + total ts := by
  rw [total_cons, total_cons, str_size, be_length]
  omega
end Go.Proofs.YtioahjdojgcfdaaDoor

namespace Go.Proofs.YtioahjdojgcfdaaDoor
open Go.RowKit
attribute [local irreducible] shaL

def attV (e : Nat) (b : Int) (h : ByteArray) (n : Int) (i : Int) (C P : Value) : Value := .agg #[.int .u64 e, .int .i64 b, .string h, .int .i64 n, .int .i64 i, C, P]
theorem cells7 {w : World} {b : Nat} {t : TypeId} {v0 v1 v2 v3 v4 v5 v6 : Value} (h : w.heap[b]? = some (.cells #[v0, v1, v2, v3, v4, v5, v6] t (0, 0))) :
    w.cell? ⟨b, 0, none⟩ = some v0 ∧ w.cell? ⟨b, 1, none⟩ = some v1 ∧ w.cell? ⟨b, 2, none⟩ = some v2 ∧ w.cell? ⟨b, 3, none⟩ = some v3 ∧ w.cell? ⟨b, 4, none⟩ = some v4 ∧ w.cell? ⟨b, 5, none⟩ = some v5 ∧ w.cell? ⟨b, 6, none⟩ = some v6 := by
  refine ⟨?_, ?_, ?_, ?_, ?_, ?_, ?_⟩ <;> rw [cell_of h] <;> rfl
set_option maxRecDepth 100000 in
set_option maxHeartbeats 3200000 in
theorem mayBe_any (e : Nat) (b : Int) (h : ByteArray) (n i : Int) (ca pa : Option Addr) (cn cc pn pc : Nat) (w : World) :
    Calls Tryd.prog 69 #[attV e b h n i (.slice ca cn cc) (.slice pa pn pc)] w fun r w' => r = .returned (.bool (attOk e b n h)) ∧ w.grownBy w' none := by
  unfold attV attOk
  have hb0 := heap_alloc_at w (.cells #[.int .u64 e, .int .i64 b, .string h, .int .i64 n, .int .i64 i, .slice ca cn cc, .slice pa pn pc] 48) _ rfl
  have hg0 : w.grownBy (w.alloc (.cells #[.int .u64 e, .int .i64 b, .string h, .int .i64 n, .int .i64 i, .slice ca cn cc, .slice pa pn pc] 48)) none := World.grownBy_alloc _ _ _
  obtain ⟨W0, hW0⟩ : ∃ W0, (w.alloc (.cells #[.int .u64 e, .int .i64 b, .string h, .int .i64 n, .int .i64 i, .slice ca cn cc, .slice pa pn pc] 48)) = W0 := ⟨_, rfl⟩
  rw [hW0] at hb0 hg0
  obtain ⟨x0, x1, x2, x3, x4, x5, x6⟩ := cells7 hb0
  have HG0 := Lib.hid hg0
  have HW0 := Lib.hid hW0
  clear hb0 hg0 hW0
  by_cases k0 : e ≤ 4294967295
  · by_cases k1 : 0 ≤ b
    · by_cases k2 : b ≤ 15
      · by_cases k3 : 0 ≤ n
        · by_cases k4 : n ≤ 63
          · by_cases k5 : h.size = 16
            · simp only [decide_eq_true k0, decide_eq_true k1, decide_eq_true k2, decide_eq_true k3, decide_eq_true k4, decide_eq_true k5, decide_true, Bool.and_true]
              have q0 : (e : Int) ≤ 4294967295 := by omega
              have q5 : (h.size : Int) = 16 := by omega
              have q6 : ((h.size : Int) == 16) = true := by simp [k5]
              go_enter Tryd.func69, Tryd.ntmps69
              go_wp2_with (rw [HW0.out])
              go_returns
              exact ⟨rfl, HG0.out⟩
            · rw [decide_eq_false k5]
              simp only [Bool.false_and, Bool.and_false]
              have q0 : (e : Int) ≤ 4294967295 := by omega
              have q5 : ¬ ((h.size : Int) = 16) := by omega
              have q6 : ((h.size : Int) == 16) = false := by rw [beq_eq_false_iff_ne]; omega
              go_enter Tryd.func69, Tryd.ntmps69
              go_wp2_with (rw [HW0.out])
              go_returns
              exact ⟨rfl, HG0.out⟩
          · rw [decide_eq_false k4]
            simp only [Bool.false_and, Bool.and_false]
            have q0 : (e : Int) ≤ 4294967295 := by omega
            go_enter Tryd.func69, Tryd.ntmps69
            go_wp2_with (rw [HW0.out])
            go_returns
            exact ⟨rfl, HG0.out⟩
        · rw [decide_eq_false k3]
          simp only [Bool.false_and, Bool.and_false]
          have q0 : (e : Int) ≤ 4294967295 := by omega
          go_enter Tryd.func69, Tryd.ntmps69
          go_wp2_with (rw [HW0.out])
          go_returns
          exact ⟨rfl, HG0.out⟩
      · rw [decide_eq_false k2]
        simp only [Bool.false_and, Bool.and_false]
        have q0 : (e : Int) ≤ 4294967295 := by omega
        go_enter Tryd.func69, Tryd.ntmps69
        go_wp2_with (rw [HW0.out])
        go_returns
        exact ⟨rfl, HG0.out⟩
    · rw [decide_eq_false k1]
      simp only [Bool.false_and, Bool.and_false]
      have q0 : (e : Int) ≤ 4294967295 := by omega
      go_enter Tryd.func69, Tryd.ntmps69
      go_wp2_with (rw [HW0.out])
      go_returns
      exact ⟨rfl, HG0.out⟩
  · rw [decide_eq_false k0]
    simp only [Bool.false_and, Bool.and_false]
    have q0 : ¬ ((e : Int) ≤ 4294967295) := by omega
    go_enter Tryd.func69, Tryd.ntmps69
    go_wp2_with (rw [HW0.out])
    go_returns
    exact ⟨rfl, HG0.out⟩
end Go.Proofs.YtioahjdojgcfdaaDoor

namespace Go.Proofs.YtioahjdojgcfdaaDoor
open Go.RowKit
attribute [local irreducible] shaL

set_option maxRecDepth 100000 in
set_option maxHeartbeats 1600000 in
theorem place_bad (e : Nat) (b : Int) (h : ByteArray) (n i : Int) (ca pa : Option Addr) (cn cc pn pc : Nat) (ho : attOk e b n h = false) (w : World) :
    Calls Tryd.prog 58 #[attV e b h n i (.slice ca cn cc) (.slice pa pn pc)] w fun r w' => r = .returned (.tuple #[.string ⟨#[]⟩, .int .i64 10]) ∧ w.grownBy w' none := by
  have HM := Lib.hid (fun w' => mayBe_any e b h n i ca pa cn cc pn pc w')
  rw [ho] at HM
  unfold attV at HM ⊢
  have hb0 := heap_alloc_at w (.cells #[.int .u64 e, .int .i64 b, .string h, .int .i64 n, .int .i64 i, .slice ca cn cc, .slice pa pn pc] 48) _ rfl
  have hg0 : w.grownBy (w.alloc (.cells #[.int .u64 e, .int .i64 b, .string h, .int .i64 n, .int .i64 i, .slice ca cn cc, .slice pa pn pc] 48)) none := World.grownBy_alloc _ _ _
  obtain ⟨W0, hW0⟩ : ∃ W0, w.alloc (.cells #[.int .u64 e, .int .i64 b, .string h, .int .i64 n, .int .i64 i, .slice ca cn cc, .slice pa pn pc] 48) = W0 := ⟨_, rfl⟩
  rw [hW0] at hb0 hg0
  obtain ⟨x0, x1, x2, x3, x4, x5, x6⟩ := cells7 hb0
  have HG0 := Lib.hid hg0
  have HW0 := Lib.hid hW0
  clear hb0 hg0 hW0 ho
  go_enter Tryd.func58, Tryd.ntmps58
  go_wp2_with (rw [HW0.out])
  refine (HM.out _).mono ?_
  rintro r w1 ⟨rfl, g1⟩
  have HG1 := Lib.hid (grownBy_trans HG0.out g1)
  clear g1 x0 x1 x2 x3 x4 x5 x6
  go_wp2_with fail
  go_returns
  exact ⟨rfl, HG1.out⟩
theorem wr_numK {w : World} {b : Nat} {ts : List ByteArray} (n k : Nat) (K : Int) (hK : (k : Int) = K) (hk : 1 ≤ k ∧ k ≤ 8) (hn : n < 256 ^ k) (hn2 : n ≤ 18446744073709551615) (h : WrAt w b ⟨ts, 0⟩) (hr : total ts ≤ 100000000) :
    Calls Tryd.prog 83 #[.pointer (some ⟨b, 0, none⟩), .int .u64 n, .int .i64 K] w fun e w' => e = .returned (.pointer (some ⟨b, 0, none⟩)) ∧ WrAt w' b ⟨str (be n k) :: ts, 0⟩ ∧ w.grownBy w' (some b) := by
  subst hK
  have := wr_numS (w := w) (st := ⟨ts, 0⟩) n hn2 k h (by show total ts ≤ _; omega)
  rwa [wnum_ok ts n k ⟨by omega, by omega, by simpa using hn⟩] at this
theorem wr_fixK {w : World} {b : Nat} {ts : List ByteArray} (t : ByteArray) (K : Int) (hK : (t.size : Int) = K) (h : WrAt w b ⟨ts, 0⟩) (hr : t.size + total ts ≤ 100000000) :
    Calls Tryd.prog 60 #[.pointer (some ⟨b, 0, none⟩), .string t, .int .i64 K] w fun e w' => e = .returned (.pointer (some ⟨b, 0, none⟩)) ∧ WrAt w' b ⟨t :: ts, 0⟩ ∧ w.grownBy w' (some b) := by
  have := wr_fixedS (w := w) (st := ⟨ts, 0⟩) t K h (by show t.size + total ts ≤ _; omega)
  rwa [wput_ok ts t K hK] at this
set_option maxRecDepth 100000 in
set_option maxHeartbeats 1600000 in
theorem place_fine (e b : Nat) (h : ByteArray) (n : Nat) (i : Int) (ca pa : Option Addr) (cn cc pn pc : Nat) (ho : attOk e b n h = true) (w : World) :
    Calls Tryd.prog 58 #[attV e b h n i (.slice ca cn cc) (.slice pa pn pc)] w fun r w' => r = .returned (.tuple #[.string (str (placeB e b n)), .int .i64 0]) ∧ w.grownBy w' none := by
  have HM := Lib.hid (fun w' => mayBe_any e b h n i ca pa cn cc pn pc w')
  rw [ho] at HM
  obtain ⟨he, hb, hn, hh⟩ := attOk_iff.1 ho
  unfold attV at HM ⊢
  obtain ⟨XB, hXB⟩ : ∃ XB, w.heap.size = XB := ⟨_, rfl⟩
  have hb0 := heap_alloc_at w (.cells #[.int .u64 e, .int .i64 b, .string h, .int .i64 n, .int .i64 i, .slice ca cn cc, .slice pa pn pc] 48) _ hXB
  have hg0 : w.grownBy (w.alloc (.cells #[.int .u64 e, .int .i64 b, .string h, .int .i64 n, .int .i64 i, .slice ca cn cc, .slice pa pn pc] 48)) none := World.grownBy_alloc _ _ _
  obtain ⟨W0, hW0⟩ : ∃ W0, w.alloc (.cells #[.int .u64 e, .int .i64 b, .string h, .int .i64 n, .int .i64 i, .slice ca cn cc, .slice pa pn pc] 48) = W0 := ⟨_, rfl⟩
  rw [hW0] at hb0 hg0
  obtain ⟨x0, x1, x2, x3, x4, x5, x6⟩ := cells7 hb0
  have HG0 := Lib.hid hg0
  have HB0 := Lib.hid hb0
  have HW0 := Lib.hid (And.intro hW0 hXB)
  clear hb0 hg0 hW0 hXB ho
  go_enter Tryd.func58, Tryd.ntmps58
  go_wp2_with (rw [HW0.out.1, HW0.out.2])
  refine (HM.out _).mono ?_
  rintro r w1 ⟨rfl, g1⟩
  have HG1 := Lib.hid (grownBy_trans HG0.out g1)
  have hb1 := g1.heap HB0.out (by simp)
  clear g1 x0 x1 x2 x3 x4 x5 x6 HM HB0 HG0
  have hWB : WrAt (w1.alloc (.cells #[.pointer none, .int .i64 0, .int .i64 0] 114)) w1.heap.size ⟨[], 0⟩ := ⟨.pointer none, heap_alloc_at w1 _ _ rfl, rfl⟩
  have hg1 : w1.grownBy (w1.alloc (.cells #[.pointer none, .int .i64 0, .int .i64 0] 114)) none := World.grownBy_alloc _ _ _
  have hb2 := hg1.heap hb1 (by simp)
  have hlt : XB < w1.heap.size := (Array.getElem?_eq_some_iff.1 hb1).1
  obtain ⟨WB, hWBn⟩ : ∃ WB, w1.heap.size = WB := ⟨_, rfl⟩
  obtain ⟨W1, hW1⟩ : ∃ W1, w1.alloc (.cells #[.pointer none, .int .i64 0, .int .i64 0] 114) = W1 := ⟨_, rfl⟩
  rw [hW1] at hWB hg1 hb2
  rw [hWBn] at hWB hlt
  have HG2 := Lib.hid (grownBy_trans HG1.out hg1)
  have HWBn := Lib.hid hWBn
  have HW1 := Lib.hid hW1
  have HWR := Lib.hid hWB
  obtain ⟨y0, y1, _, y3, _, _, _⟩ := cells7 hb2
  have HNE : Hid (∀ (w' w'' : World) (o : Nat) (u : Value), w'.grownBy w'' (some WB) → w'.cell? ⟨XB, o, none⟩ = some u → w''.cell? ⟨XB, o, none⟩ = some u) := Lib.hid (fun w' w'' o u g q => g.cell q (fun e => by simp at e; omega))
  have HNEW : Hid (∀ g, some WB = some g → w.heap.size ≤ g) := Lib.hid (fun g e => by cases e; have := HW0.out.2; omega)
  have HF1 := Lib.hid (fun (w' : World) (q : WrAt w' WB ⟨[], 0⟩) => wr_numK e 4 4 rfl (by decide) (by show e < 4294967296; omega) (by omega) q (by decide))
  have HF2 := Lib.hid (fun (w' : World) (q : WrAt w' WB ⟨[str (be e 4)], 0⟩) => wr_num1 b (by omega) q (by rw [total_cons, str_size, be_length]; decide))
  have HF3 := Lib.hid (fun (w' : World) (q : WrAt w' WB ⟨[str (be b 1), str (be e 4)], 0⟩) => wr_numK n 2 2 rfl (by decide) (by show n < 65536; omega) (by omega) q (by rw [total_cons, total_cons, str_size, str_size, be_length, be_length]; decide))
  have HF4 := Lib.hid (fun (w' : World) (q : WrAt w' WB ⟨[str (be n 2), str (be b 1), str (be e 4)], 0⟩) => wr_bytesS q (by show total [str (be n 2), str (be b 1), str (be e 4)] ≤ _; rw [total_cons, total_cons, total_cons, str_size, str_size, str_size, be_length, be_length, be_length]; decide))
  have HEND : Hid ((⟨[str (be n 2), str (be b 1), str (be e 4)], 0⟩ : WSt).ans = str (placeB e b n)) := Lib.hid (by
    show str (flat _) = _
    unfold placeB
    show str ((([] ++ (str (be e 4)).data.toList) ++ (str (be b 1)).data.toList) ++ (str (be n 2)).data.toList) = _
    rw [str_data, str_data, str_data, List.nil_append, List.append_assoc])
  have b0 : (0 : Int) ≤ (b : Int) := by omega
  have n0 : (0 : Int) ≤ (n : Int) := by omega
  have cb : IntKind.u64.wrap (b : Int) = (b : Int) := wrap_u64 b (by omega)
  have cn' : IntKind.u64.wrap (n : Int) = (n : Int) := wrap_u64 n (by omega)
  have b64 : b ≤ 15 := by omega
  have n64 : n ≤ 63 := by omega
  clear hWB hg1 hb1 hb2 hWBn hW1 hlt he hb hn hh HG1
  go_wp2_with (rw [HW1.out, HWBn.out])
  have hdw : WrAt W1.drew WB ⟨[], 0⟩ := HWR.out.grown (grownBy_drew (World.grownBy.refl _ _))
  go_region_held3 (fun w' => w'.cell? ⟨XB, 0, none⟩ = some (.int .u64 e) ∧ w'.cell? ⟨XB, 1, none⟩ = some (.int .i64 b) ∧ w'.cell? ⟨XB, 3, none⟩ = some (.int .i64 n)) (first | exact ck | exact ⟨y0, y1, y3⟩)
    (first
    | (go_at_call 83; (with_reducible refine (HF1.out _ hdw).mono ?_); rintro r w3 ⟨rfl, hw3, g3⟩; have ck := And.intro (HNE.out _ _ _ _ g3 y0) (And.intro (HNE.out _ _ _ _ g3 y1) (HNE.out _ _ _ _ g3 y3)))
    | (go_at_call 83; (with_reducible refine (HF2.out _ hw3).mono ?_); rintro r w4 ⟨rfl, hw4, g4⟩; have ck := And.intro (HNE.out _ _ _ _ g4 ck.1) (And.intro (HNE.out _ _ _ _ g4 ck.2.1) (HNE.out _ _ _ _ g4 ck.2.2)))
    | (go_at_call 83; (with_reducible refine (HF3.out _ hw4).mono ?_); rintro r w5 ⟨rfl, hw5, g5⟩; have ck := And.intro (HNE.out _ _ _ _ g5 ck.1) (And.intro (HNE.out _ _ _ _ g5 ck.2.1) (HNE.out _ _ _ _ g5 ck.2.2)))
    | (go_at_call 62; (with_reducible refine (HF4.out _ hw5).mono ?_); rintro r w6 ⟨rfl, g6⟩; have ck := And.intro (g6.cell ck.1 (by simp)) (And.intro (g6.cell ck.2.1 (by simp)) (g6.cell ck.2.2 (by simp)))))
  have HG6 := Lib.hid (grownBy_trans (grown_row (grown_row (grown_row (grownBy_drew HG2.out) g3 HNEW.out) g4 HNEW.out) g5 HNEW.out) g6)
  clear ck g3 g4 g5 g6 hw3 hw4 hw5
  go_wp2_with fail
  go_returns
  exact ⟨by rw [← HEND.out]; rfl, HG6.out⟩
set_option maxRecDepth 100000 in
set_option maxHeartbeats 1600000 in
theorem amsg_bad (e : Nat) (b : Int) (h : ByteArray) (n i : Int) (ca pa : Option Addr) (cn cc pn pc : Nat) (ho : attOk e b n h = false) (w : World) :
    Calls Tryd.prog 20 #[attV e b h n i (.slice ca cn cc) (.slice pa pn pc)] w fun r w' => r = .returned (.string ⟨#[]⟩) ∧ w.grownBy w' none := by
  have HM := Lib.hid (fun w' => place_bad e b h n i ca pa cn cc pn pc ho w')
  unfold attV at HM ⊢
  have hb0 := heap_alloc_at w (.cells #[.int .u64 e, .int .i64 b, .string h, .int .i64 n, .int .i64 i, .slice ca cn cc, .slice pa pn pc] 48) _ rfl
  have hg0 : w.grownBy (w.alloc (.cells #[.int .u64 e, .int .i64 b, .string h, .int .i64 n, .int .i64 i, .slice ca cn cc, .slice pa pn pc] 48)) none := World.grownBy_alloc _ _ _
  obtain ⟨W0, hW0⟩ : ∃ W0, w.alloc (.cells #[.int .u64 e, .int .i64 b, .string h, .int .i64 n, .int .i64 i, .slice ca cn cc, .slice pa pn pc] 48) = W0 := ⟨_, rfl⟩
  rw [hW0] at hb0 hg0
  obtain ⟨x0, x1, x2, x3, x4, x5, x6⟩ := cells7 hb0
  have HG0 := Lib.hid hg0
  have HW0 := Lib.hid hW0
  clear hb0 hg0 hW0 ho
  go_enter Tryd.func20, Tryd.ntmps20
  go_wp2_with (rw [HW0.out])
  refine (HM.out _).mono ?_
  rintro r w1 ⟨rfl, g1⟩
  have HG1 := Lib.hid (grownBy_trans HG0.out g1)
  clear g1 x0 x1 x2 x3 x4 x5 x6
  go_wp2_with fail
  go_returns
  exact ⟨rfl, HG1.out⟩
def amsgS (e b n : Nat) (h : ByteArray) : ByteArray := tagS 18 [str (placeB e b n), h]
set_option maxRecDepth 100000 in
set_option maxHeartbeats 1600000 in
theorem amsg_fine (e b : Nat) (h : ByteArray) (n : Nat) (i : Int) (ca pa : Option Addr) (cn cc pn pc : Nat) (ho : attOk e b n h = true) (w : World) (hr : ShaReady w) :
    Calls Tryd.prog 20 #[attV e b h n i (.slice ca cn cc) (.slice pa pn pc)] w fun r w' => r = .returned (.string (amsgS e b n h)) ∧ w.grownBy w' none := by
  have HM := Lib.hid (fun w' => place_fine e b h n i ca pa cn cc pn pc ho w')
  have hh : h.size = 16 := (attOk_iff.1 ho).2.2.2
  unfold amsgS
  have hz : (str (placeB e b n)).size = 7 := by rw [str_size, placeB_len]
  generalize str (placeB e b n) = z at HM hz ⊢
  unfold attV at HM ⊢
  have hb0 := heap_alloc_at w (.cells #[.int .u64 e, .int .i64 b, .string h, .int .i64 n, .int .i64 i, .slice ca cn cc, .slice pa pn pc] 48) _ rfl
  have hg0 : w.grownBy (w.alloc (.cells #[.int .u64 e, .int .i64 b, .string h, .int .i64 n, .int .i64 i, .slice ca cn cc, .slice pa pn pc] 48)) none := World.grownBy_alloc _ _ _
  obtain ⟨W0, hW0⟩ : ∃ W0, w.alloc (.cells #[.int .u64 e, .int .i64 b, .string h, .int .i64 n, .int .i64 i, .slice ca cn cc, .slice pa pn pc] 48) = W0 := ⟨_, rfl⟩
  rw [hW0] at hb0 hg0
  obtain ⟨x0, x1, x2, x3, x4, x5, x6⟩ := cells7 hb0
  have HG0 := Lib.hid hg0
  have HB0 := Lib.hid hb0
  have HW0 := Lib.hid hW0
  have HR := Lib.hid hr
  have HS := Lib.hid (And.intro hh hz)
  clear hb0 hg0 hW0 ho hr hh hz
  go_enter Tryd.func20, Tryd.ntmps20
  go_wp2_with (rw [HW0.out])
  refine (HM.out _).mono ?_
  rintro r w1 ⟨rfl, g1⟩
  have HG1 := Lib.hid (grownBy_trans HG0.out g1)
  have hb1 := g1.heap HB0.out (by simp)
  clear g1 x0 x1 x2 x3 x4 x5 x6
  obtain ⟨x0, x1, x2, x3, x4, x5, x6⟩ := cells7 hb1
  have HT := Lib.hid (tagged_new w1 18 [z, h] [.string z, .string h] 2 18 rfl rfl rfl (HR.out.grown HG1.out) (by simp) (by
    intro s hs
    rcases List.mem_cons.1 hs with rfl | hs
    · have := HS.out.2; omega
    · rw [List.mem_singleton.1 hs]; have := HS.out.1; omega))
  clear hb1
  go_wp2_with fail
  refine HT.out.mono ?_
  rintro r w2 ⟨rfl, g2⟩
  have HG2 := Lib.hid (grownBy_trans HG1.out g2)
  clear g2 x0 x1 x2 x3 x4 x5 x6
  go_wp2_with fail
  go_returns
  exact ⟨rfl, HG2.out⟩
set_option maxRecDepth 100000 in
set_option maxHeartbeats 3200000 in
theorem aencode_fine (e b : Nat) (h : ByteArray) (n : Nat) (ho : attOk e b n h = true) (i : Nat) (C P : List ByteArray) (ca pa : Option Addr) (cc pc k : Nat) (hi : i ≤ 63) (hC : C.length = 35) (hP : P.length = k) (hk : k ≤ 6) (h1 : ∀ t ∈ C, t.size = 16) (h2 : ∀ t ∈ P, t.size = 16) (w : World) (hc : StrsAt w (.slice ca 35 cc) C) (hp : StrsAt w (.slice pa k pc) P) :
    Calls Tryd.prog 18 #[attV e b h n i (.slice ca 35 cc) (.slice pa k pc)] w fun r w' => r = .returned (.tuple #[.string (str (attB e b n h (str (sigB i C P)))), .int .i64 0]) ∧ w.grownBy w' none := by
  have HM := Lib.hid (fun w' => place_fine e b h n i ca pa 35 cc k pc ho w')
  have HSE := Lib.hid (fun w' (g : w.grownBy w' none) => sencode_any i C P ca pa cc pc k hi hC hP hk h1 h2 w' (hc.grown g) (hp.grown g))
  have hn2 : (str (sigB i C P)).size ≤ 4096 := by rw [str_size, sigB_len i C P hC h1 h2]; omega
  have hh : h.size = 16 := (attOk_iff.1 ho).2.2.2
  generalize str (sigB i C P) = se at HSE hn2 ⊢
  have hz : (str (placeB e b n)).size = 7 := by rw [str_size, placeB_len]
  have hzd : (str (placeB e b n)).data.toList = placeB e b n := str_data _
  obtain ⟨z, hzz⟩ : ∃ z, str (placeB e b n) = z := ⟨_, rfl⟩
  rw [hzz] at HM hz hzd
  have HEND : Hid (str (flat (se :: str (be se.size 2) :: h :: z :: [])) = str (attB e b n h se)) := Lib.hid (by
    rw [flat_textU]
    unfold attB
    show str ((([] ++ z.data.toList) ++ h.data.toList) ++ textU se) = _
    rw [hzd]
    simp only [List.append_assoc, List.nil_append])
  unfold attV at HM ⊢
  unfold sigV at HSE
  clear hzz hzd hi hC hP hk h1 h2 hc hp
  obtain ⟨XB, hXB⟩ : ∃ XB, w.heap.size = XB := ⟨_, rfl⟩
  have hb0 := heap_alloc_at w (.cells #[.int .u64 e, .int .i64 b, .string h, .int .i64 n, .int .i64 i, .slice ca 35 cc, .slice pa k pc] 48) _ hXB
  have hg0 : w.grownBy (w.alloc (.cells #[.int .u64 e, .int .i64 b, .string h, .int .i64 n, .int .i64 i, .slice ca 35 cc, .slice pa k pc] 48)) none := World.grownBy_alloc _ _ _
  obtain ⟨W0, hW0⟩ : ∃ W0, w.alloc (.cells #[.int .u64 e, .int .i64 b, .string h, .int .i64 n, .int .i64 i, .slice ca 35 cc, .slice pa k pc] 48) = W0 := ⟨_, rfl⟩
  rw [hW0] at hb0 hg0
  obtain ⟨x0, x1, x2, x3, x4, x5, x6⟩ := cells7 hb0
  have HG0 := Lib.hid hg0
  have HB0 := Lib.hid hb0
  have HW0 := Lib.hid (And.intro hW0 hXB)
  have HS := Lib.hid (And.intro hh (And.intro hz hn2))
  clear hb0 hg0 hW0 hXB ho hh hz hn2
  go_enter Tryd.func18, Tryd.ntmps18
  go_wp2_with (rw [HW0.out.1, HW0.out.2])
  refine (HM.out _).mono ?_
  rintro r w1 ⟨rfl, g1⟩
  have HG1 := Lib.hid (grownBy_trans HG0.out g1)
  have HB1 := Lib.hid (g1.heap HB0.out (by simp))
  clear g1 x0 x1 x2 x3 x4 x5 x6
  obtain ⟨x0, x1, x2, x3, x4, x5, x6⟩ := cells7 HB1.out
  go_wp2_with fail
  refine (HSE.out _ HG1.out).mono ?_
  rintro r w2 ⟨rfl, g2⟩
  have HG2 := Lib.hid (grownBy_trans HG1.out g2)
  have hb2 := g2.heap HB1.out (by simp)
  clear g2 x0 x1 x2 x3 x4 x5 x6 HM HSE HB0 HB1 HG0 HG1
  have hWB : WrAt (w2.alloc (.cells #[.pointer none, .int .i64 0, .int .i64 0] 114)) w2.heap.size ⟨[], 0⟩ := ⟨.pointer none, heap_alloc_at w2 _ _ rfl, rfl⟩
  have hg1 : w2.grownBy (w2.alloc (.cells #[.pointer none, .int .i64 0, .int .i64 0] 114)) none := World.grownBy_alloc _ _ _
  have hb3 := hg1.heap hb2 (by simp)
  have hlt : XB < w2.heap.size := (Array.getElem?_eq_some_iff.1 hb2).1
  obtain ⟨WB, hWBn⟩ : ∃ WB, w2.heap.size = WB := ⟨_, rfl⟩
  obtain ⟨W1, hW1⟩ : ∃ W1, w2.alloc (.cells #[.pointer none, .int .i64 0, .int .i64 0] 114) = W1 := ⟨_, rfl⟩
  rw [hW1] at hWB hg1 hb3
  rw [hWBn] at hWB hlt
  have HG3 := Lib.hid (grownBy_trans HG2.out hg1)
  have HWBn := Lib.hid hWBn
  have HW1 := Lib.hid hW1
  have HWR := Lib.hid hWB
  obtain ⟨_, _, y2, _, _, _, _⟩ := cells7 hb3
  have HNE : Hid (∀ (w' w'' : World) (o : Nat) (u : Value), w'.grownBy w'' (some WB) → w'.cell? ⟨XB, o, none⟩ = some u → w''.cell? ⟨XB, o, none⟩ = some u) := Lib.hid (fun w' w'' o u g q => g.cell q (fun e => by simp at e; omega))
  have HNEW : Hid (∀ g, some WB = some g → w.heap.size ≤ g) := Lib.hid (fun g e => by cases e; have := HW0.out.2; omega)
  have t1 : total [z] = 7 := by have := HS.out.2.1; rw [total_cons, this]; rfl
  have t2 : total [h, z] = 23 := by have := HS.out.1; rw [total_cons, t1, this]
  have HF1 := Lib.hid (fun (w' : World) (q : WrAt w' WB ⟨[], 0⟩) => wr_fixK z 7 (by have := HS.out.2.1; omega) q (by have := HS.out.2.1; show z.size + 0 ≤ _; omega))
  have HF2 := Lib.hid (fun (w' : World) (q : WrAt w' WB ⟨[z], 0⟩) => wr_fixK h 16 (by have := HS.out.1; omega) q (by have := HS.out.1; omega))
  have HF3 := Lib.hid (fun (w' : World) (q : WrAt w' WB ⟨[h, z], 0⟩) => wr_textU se HS.out.2.2 q (by omega))
  have HF4 := Lib.hid (fun (w' : World) (q : WrAt w' WB ⟨se :: str (be se.size 2) :: h :: z :: [], 0⟩) => wr_bytesS q (by have := total_textU [h, z] se HS.out.2.2; show total (se :: str (be se.size 2) :: h :: z :: []) ≤ _; omega))
  clear hWB hg1 hb2 hb3 hWBn hW1 hlt t1 t2 HG2
  go_wp2_with (rw [HW1.out, HWBn.out])
  have hdw : WrAt W1.drew WB ⟨[], 0⟩ := HWR.out.grown (grownBy_drew (World.grownBy.refl _ _))
  go_region_held3 (fun w' => w'.cell? ⟨XB, 2, none⟩ = some (.string h)) (first | exact ck | exact y2)
    (first
    | (go_at_call 60; (with_reducible refine (HF1.out _ hdw).mono ?_); rintro r w3 ⟨rfl, hw3, g3⟩; have ck := HNE.out _ _ _ _ g3 y2)
    | (go_at_call 60; (with_reducible refine (HF2.out _ hw3).mono ?_); rintro r w4 ⟨rfl, hw4, g4⟩; have ck := HNE.out _ _ _ _ g4 ck)
    | (go_at_call 61; (with_reducible refine (HF3.out _ hw4).mono ?_); rintro r w5 ⟨rfl, hw5, g5⟩; have ck := HNE.out _ _ _ _ g5 ck)
    | (go_at_call 62; (with_reducible refine (HF4.out _ hw5).mono ?_); rintro r w6 ⟨rfl, g6⟩; have ck := g6.cell ck (by simp)))
  have HG6 := Lib.hid (grownBy_trans (grown_row (grown_row (grown_row (grownBy_drew HG3.out) g3 HNEW.out) g4 HNEW.out) g5 HNEW.out) g6)
  clear ck g3 g4 g5 g6 hw3 hw4 hw5
  go_wp2_with fail
  go_returns
  exact ⟨by rw [← HEND.out]; rfl, HG6.out⟩
end Go.Proofs.YtioahjdojgcfdaaDoor

namespace Go.Proofs.YtioahjdojgcfdaaDoor
open Go.RowKit

set_option maxHeartbeats 400000 in
theorem rtext_any (w : World) (p : Option Addr) (st : Option RSt) (h : RsAt w p st) (hm : ∀ s, st = some s → s.rest.size ≤ maxLen) :
    Calls Tryd.prog 66 #[.pointer p] w fun e w' => e = .returned (.string ((st.map fun s => s.text.1).getD ByteArray.empty)) ∧ RsAt w' p (st.map fun s => s.text.2) ∧ w.grownBy w' (prow p) := by
  have H := Lib.hid h
  have HM := Lib.hid hm
  clear h hm
  obtain ⟨n, hn⟩ : ∃ n, n = (st.map fun s => (s.num 2).1).getD 0 := ⟨_, rfl⟩
  have hn2 : n < 65536 := by
    subst hn
    cases st with
    | none => simp
    | some s =>
      have h1 := val_lt (s.fixed (2 : Nat)).1.data.toList
      have h2 := fixed_size s 2
      have h3 : (s.fixed (2 : Nat)).1.data.toList.length ≤ 2 := by simpa using h2
      have h4 : val (s.fixed (2 : Nat)).1.data.toList < 256 ^ 2 := Nat.lt_of_lt_of_le h1 (Nat.pow_le_pow_right (by omega) h3)
      simpa [RSt.num] using h4
  have HN := Lib.hid hn
  clear hn
  by_cases hl : 4096 < n
  · go_enter Tryd.func66, Tryd.ntmps66
    go_wp2_with fail
    refine (rnum_any 2 _ p st H.out HM.out).mono ?_
    rintro e w1 ⟨rfl, h1, h2⟩
    rw [← HN.out]
    have H1 := Lib.hid h1
    have H2 := Lib.hid h2
    clear h1 h2
    go_wp2_with fail
    refine (rfail_any 4 _ p _ H1.out).mono ?_
    rintro e w2 ⟨rfl, h3, h4⟩
    have H3 := Lib.hid h3
    have H4 := Lib.hid h4
    clear h3 h4
    go_wp2
    go_ret
    have h3 := H3.out
    have hN := HN.out
    refine ⟨?_, ?_, grownBy_trans H2.out H4.out⟩
    · cases st with
      | none => rfl
      | some s =>
        simp at hN
        simp [RSt.text, ← hN, hl]
        rfl
    · cases st with
      | none => exact h3
      | some s =>
        simp at hN
        simpa [RSt.text, ← hN, hl] using h3
  · go_enter Tryd.func66, Tryd.ntmps66
    go_wp2_with fail
    refine (rnum_any 2 _ p st H.out HM.out).mono ?_
    rintro e w1 ⟨rfl, h1, h2⟩
    rw [← HN.out]
    have H1 := Lib.hid h1
    have H2 := Lib.hid h2
    clear h1 h2
    go_wp2_with fail
    refine (rfixed_any n _ p _ H1.out ?_).mono ?_
    · intro x hx
      cases st with
      | none => cases hx
      | some s =>
        cases hx
        exact Nat.le_trans (rest_le s 2).1 (HM.out s rfl)
    rintro e w2 ⟨rfl, h3, h4⟩
    have H3 := Lib.hid h3
    have H4 := Lib.hid h4
    clear h3 h4
    go_wp2
    go_ret
    have h3 := H3.out
    have hN := HN.out
    refine ⟨?_, ?_, grownBy_trans H2.out H4.out⟩
    · cases st with
      | none => rfl
      | some s =>
        simp at hN
        rw [hN] at hl
        simp [RSt.text, hN, hl]
    · cases st with
      | none => exact h3
      | some s =>
        simp at hN
        rw [hN] at hl
        simpa [RSt.text, hN, hl] using h3
end Go.Proofs.YtioahjdojgcfdaaDoor

namespace Go.Proofs.YtioahjdojgcfdaaDoor
open Go.RowKit
attribute [local irreducible] shaL

def sigZ : Value := sigV 0 (.slice none 0 0) (.slice none 0 0)
set_option maxHeartbeats 800000 in
set_option maxRecDepth 100000 in
theorem xsign_spent (b : Nat) (seed m : ByteArray) (h : Nat) (i : Int) (hi : ((2 ^ h : Nat) : Int) ≤ i) (w : World) (hk : KeyAt w b seed h) :
    Calls Tryd.prog 56 #[.pointer (some ⟨b, 0, none⟩), .int .i64 i, .string m] w fun e w' => e = .returned (.tuple #[sigZ, .int .i64 11]) ∧ w.grownBy w' none := by
  obtain ⟨N, hN⟩ : ∃ N, 2 ^ h = N := ⟨_, rfl⟩
  rw [hN] at hi
  have HK := Lib.hid hk
  have HN := Lib.hid hN
  clear hk hN
  go_enter Tryd.func56, Tryd.ntmps56
  go_wp2_with fail
  refine (count_any b seed h N HN.out _ (HK.out.grown (World.grownBy_alloc _ _ _))).mono ?_
  rintro e w1 ⟨rfl, rfl⟩
  have hzc : (w.alloc (.cells #[.int .i64 0, .slice none 0 0, .slice none 0 0] 46)).heap[w.heap.size]? = some (.cells #[.int .i64 0, .slice none 0 0, .slice none 0 0] 46 (0, 0)) := heap_alloc_at _ _ _ rfl
  have hg0 : w.grownBy (w.alloc (.cells #[.int .i64 0, .slice none 0 0, .slice none 0 0] 46)) none := World.grownBy_alloc _ _ _
  have HG0 := Lib.hid hg0
  have HZ := Lib.hid hzc
  clear hzc hg0
  generalize w.alloc (.cells #[.int .i64 0, .slice none 0 0, .slice none 0 0] 46) = wz at *
  have z0 := cell_of HZ.out 0
  have z1 := cell_of HZ.out 1
  have z2 := cell_of HZ.out 2
  have f0 := free_of HZ.out 0
  have f1 := free_of HZ.out 1
  have f2 := free_of HZ.out 2
  simp at z0 z1 z2
  go_wp2_with fail
  have hW := heap_setCell (heap_setCell (heap_setCell HZ.out 0 (.int .i64 0)) 1 (.slice none 0 0)) 2 (.slice none 0 0)
  have hWg : w.grownBy (((wz.setCell ⟨w.heap.size, 0, none⟩ (.int .i64 0)).setCell ⟨w.heap.size, 1, none⟩ (.slice none 0 0)).setCell ⟨w.heap.size, 2, none⟩ (.slice none 0 0)) none := grownBy_setNew (grownBy_setNew (grownBy_setNew HG0.out (Nat.le_refl _) 0 _) (Nat.le_refl _) 1 _) (Nat.le_refl _) 2 _
  generalize ((wz.setCell ⟨w.heap.size, 0, none⟩ (.int .i64 0)).setCell ⟨w.heap.size, 1, none⟩ (.slice none 0 0)).setCell ⟨w.heap.size, 2, none⟩ (.slice none 0 0) = wf at hW hWg ⊢
  have y0 := cell_of hW 0
  have y1 := cell_of hW 1
  have y2 := cell_of hW 2
  simp at y0 y1 y2
  try simp only [Exit.inBlock, Exit.then]
  refine bodyPost_ret (by simp [results, Tryd.results56, go_sem, y0, y1, y2]; try rfl) rfl ?_
  exact ⟨rfl, hWg⟩

set_option maxHeartbeats 800000 in
set_option maxRecDepth 100000 in
theorem xsign_neg (b : Nat) (seed m : ByteArray) (h : Nat) (i : Int) (hh : h ≤ 6) (hi : i < 0) (w : World) (hk : KeyAt w b seed h) :
    Calls Tryd.prog 56 #[.pointer (some ⟨b, 0, none⟩), .int .i64 i, .string m] w fun e w' => e = .returned (.tuple #[sigZ, .int .i64 10]) ∧ w.grownBy w' none := by
  obtain ⟨N, hN⟩ : ∃ N, 2 ^ h = N := ⟨_, rfl⟩
  have HK := Lib.hid hk
  have HN := Lib.hid hN
  obtain ⟨a, cap, h1, h2⟩ := hk
  rw [hN] at h1 h2
  have hpath : Hid (∀ w0, w.grownBy w0 none → Calls Tryd.prog 98 #[.slice a N cap, .int .i64 i] w0 fun e w' => e = .returned (.tuple #[.slice none 0 0, .int .i64 10]) ∧ w0 = w') := fun w0 h0 =>
    path_out _ (leavesS seed h) i (by rw [leavesS_length]; exact treeB_pow h hh) (Or.inl hi) w0 (h2.grown h0)
  have c1 := cell_of h1 1
  simp at c1
  have hlt : i < (N : Int) := by omega
  clear h1 h2 hN
  go_enter Tryd.func56, Tryd.ntmps56
  go_wp2_with fail
  refine (count_any b seed h N HN.out _ (HK.out.grown (World.grownBy_alloc _ _ _))).mono ?_
  rintro e w1 ⟨rfl, rfl⟩
  have hzc : (w.alloc (.cells #[.int .i64 0, .slice none 0 0, .slice none 0 0] 46)).heap[w.heap.size]? = some (.cells #[.int .i64 0, .slice none 0 0, .slice none 0 0] 46 (0, 0)) := heap_alloc_at _ _ _ rfl
  have hg0 : w.grownBy (w.alloc (.cells #[.int .i64 0, .slice none 0 0, .slice none 0 0] 46)) none := World.grownBy_alloc _ _ _
  have HG0 := Lib.hid hg0
  have HZ := Lib.hid hzc
  have c1z := hg0.cell c1 (by simp)
  clear hzc hg0
  generalize w.alloc (.cells #[.int .i64 0, .slice none 0 0, .slice none 0 0] 46) = wz at *
  have z0 := cell_of HZ.out 0
  have z1 := cell_of HZ.out 1
  have z2 := cell_of HZ.out 2
  have f0 := free_of HZ.out 0
  have f1 := free_of HZ.out 1
  have f2 := free_of HZ.out 2
  simp at z0 z1 z2
  go_wp2_with fail
  refine (hpath.out _ HG0.out).mono ?_
  rintro e w2 ⟨rfl, rfl⟩
  go_wp2_with fail
  have hW := heap_setCell (heap_setCell (heap_setCell HZ.out 0 (.int .i64 0)) 1 (.slice none 0 0)) 2 (.slice none 0 0)
  have hWg : w.grownBy (((wz.setCell ⟨w.heap.size, 0, none⟩ (.int .i64 0)).setCell ⟨w.heap.size, 1, none⟩ (.slice none 0 0)).setCell ⟨w.heap.size, 2, none⟩ (.slice none 0 0)) none := grownBy_setNew (grownBy_setNew (grownBy_setNew HG0.out (Nat.le_refl _) 0 _) (Nat.le_refl _) 1 _) (Nat.le_refl _) 2 _
  generalize ((wz.setCell ⟨w.heap.size, 0, none⟩ (.int .i64 0)).setCell ⟨w.heap.size, 1, none⟩ (.slice none 0 0)).setCell ⟨w.heap.size, 2, none⟩ (.slice none 0 0) = wf at hW hWg ⊢
  have y0 := cell_of hW 0
  have y1 := cell_of hW 1
  have y2 := cell_of hW 2
  simp at y0 y1 y2
  try simp only [Exit.inBlock, Exit.then]
  refine bodyPost_ret (by simp [results, Tryd.results56, go_sem, y0, y1, y2]; try rfl) rfl ?_
  exact ⟨rfl, hWg⟩

set_option maxHeartbeats 800000 in
set_option maxRecDepth 100000 in
theorem hasPlace_any (o r : ByteArray) (h i : Nat) (hh : h ≤ 6) (hi : i < 2 ^ h) (ca : Option Addr) (cn cc : Nat) (pa : Option Addr) (pc : Nat) (w : World) :
    Calls Tryd.prog 120 #[pubV o r h, sigV i (.slice ca cn cc) (.slice pa h pc)] w fun e w' => e = .returned (.bool true) ∧ w.grownBy w' none := by
  unfold pubV sigV
  have h1 : (0 : Int) ≤ (h : Int) := by omega
  have h2 : (h : Int) < 64 := by omega
  have h0 : (0 : Int) ≤ (i : Int) := by omega
  have hq : (i : Int) / 2 ^ h = 0 := by
    have : (i : Int) < 2 ^ h := by exact_mod_cast hi
    exact Int.ediv_eq_zero_of_lt h0 this
  go_enter Tryd.func120, Tryd.ntmps120
  go_wp2_with fail
  go_ret
  exact ⟨rfl, grownBy_alloc' (World.grownBy_alloc _ _ _) _⟩

theorem climb_keep {w a c : World} {b : Nat} {x1 y0 y2 : Value} (h : w.grownBy a none) (g : a.grownBy c none) (k1 : w.cell? ⟨b, 1, none⟩ = some x1) (l0 : w.cell? ⟨b + 1, 0, none⟩ = some y0) (l2 : w.cell? ⟨b + 1, 2, none⟩ = some y2) :
    w.grownBy c none ∧ c.cell? ⟨b, 1, none⟩ = some x1 ∧ c.cell? ⟨b + 1, 0, none⟩ = some y0 ∧ c.cell? ⟨b + 1, 2, none⟩ = some y2 :=
  have hg := grownBy_trans h g
  ⟨hg, hg.cell k1 (by simp), hg.cell l0 (by simp), hg.cell l2 (by simp)⟩
theorem veri_keep {w a c : World} {b : Nat} {x0 x1 x2 y0 y1 : Value} (h : w.grownBy a none) (g : a.grownBy c none) (k0 : w.cell? ⟨b, 0, none⟩ = some x0) (k1 : w.cell? ⟨b, 1, none⟩ = some x1) (k2 : w.cell? ⟨b, 2, none⟩ = some x2) (l0 : w.cell? ⟨b + 1, 0, none⟩ = some y0) (l1 : w.cell? ⟨b + 1, 1, none⟩ = some y1) :
    w.grownBy c none ∧ c.cell? ⟨b, 0, none⟩ = some x0 ∧ c.cell? ⟨b, 1, none⟩ = some x1 ∧ c.cell? ⟨b, 2, none⟩ = some x2 ∧ c.cell? ⟨b + 1, 0, none⟩ = some y0 ∧ c.cell? ⟨b + 1, 1, none⟩ = some y1 :=
  have hg := grownBy_trans h g
  ⟨hg, hg.cell k0 (by simp), hg.cell k1 (by simp), hg.cell k2 (by simp), hg.cell l0 (by simp), hg.cell l1 (by simp)⟩
set_option maxHeartbeats 1600000 in
set_option maxRecDepth 100000 in
theorem verify_any (o r m : ByteArray) (h i : Nat) (C P : List ByteArray) (ca : Option Addr) (cc : Nat) (pa : Option Addr) (pc : Nat) (res : Bool) (hh : h ≤ 6) (hi : i < 2 ^ h) (ho : o.size = 16) (hm : m.size ≤ 1000000000000)
    (hC : C.length = 35) (hC16 : ∀ s ∈ C, s.size = 16) (hP : P.length = h) (hP16 : ∀ s ∈ P, s.size ≤ 1000000000000) (hres : ((climbS (publicOfS o i (recS o i (digs (digestS o i m).data.toList) C 35)) i P).toList == r.toList) = res)
    (w : World) (hc : StrsAt w (.slice ca 35 cc) C) (hp : StrsAt w (.slice pa h pc) P) (hr : ShaReady w) :
    Calls Tryd.prog 93 #[pubV o r h, .string m, sigV i (.slice ca 35 cc) (.slice pa h pc)] w fun e w' => e = .returned (.bool res) ∧ w.grownBy w' none := by
  have HR := Lib.hid hr
  have hi6 : i < 64 := Nat.lt_of_lt_of_le hi (pow_le64 h hh)
  have hpl : Hid (∀ w0, Calls Tryd.prog 120 #[.agg #[.string o, .string r, .int .i64 h], .agg #[.int .i64 i, .slice ca 35 cc, .slice pa h pc]] w0 fun e w' => e = .returned (.bool true) ∧ w0.grownBy w' none) := fun w0 => hasPlace_any o r h i hh hi ca 35 cc pa pc w0
  have hdg : Hid (∀ w0, ShaReady w0 → Calls Tryd.prog 100 #[.agg #[.string o, .string r, .int .i64 h], .int .i64 i, .string m] w0 fun e w' => e = .returned (.string (digestS o i m)) ∧ w0.grownBy w' none) := fun w0 h0 => digest_any o r m h i (by omega) (by rw [ho]; decide) hm w0 h0
  have hrc : Hid (∀ w0, w.grownBy w0 none → ShaReady w0 → Calls Tryd.prog 121 #[.string o, .int .i64 i, .string (digestS o i m), .slice ca 35 cc] w0 fun e w' => e = .returned (.tuple #[.string (publicOfS o i (recS o i (digs (digestS o i m).data.toList) C 35)), .int .i64 0]) ∧ w0.grownBy w' none) := fun w0 h0 hr0 =>
    wrecover_any o (digestS o i m) i _ C (by rw [ho]; decide) (digestS_size _ _ _) (by omega) hC hC16 w0 (hc.grown h0) hr0
  have hcl : Hid (∀ w0, w.grownBy w0 none → ShaReady w0 → Calls Tryd.prog 122 #[.string (publicOfS o i (recS o i (digs (digestS o i m).data.toList) C 35)), .int .i64 i, .slice pa h pc] w0 fun e w' => e = .returned (.string (climbS (publicOfS o i (recS o i (digs (digestS o i m).data.toList) C 35)) i P)) ∧ w0.grownBy w' none) := fun w0 h0 hr0 =>
    climb_any _ i _ P (by omega) (by rw [hP]; omega) (by rw [show (publicOfS o i (recS o i (digs (digestS o i m).data.toList) C 35)).size = 16 from tagS_size _ _]; decide) hP16 w0 (hp.grown h0) hr0
  unfold pubV sigV
  generalize climbS (publicOfS o i (recS o i (digs (digestS o i m).data.toList) C 35)) i P = CL at hcl hres
  generalize publicOfS o i (recS o i (digs (digestS o i m).data.toList) C 35) = LF at hrc hcl
  generalize digestS o i m = D at hdg hrc
  clear hr hC hC16 hP hP16 hc hp
  go_enter Tryd.func93, Tryd.ntmps93
  go_wp2_with fail
  have hca : ((w.alloc (.cells #[.string o, .string r, .int .i64 h] 50)).alloc (.cells #[.int .i64 i, .slice ca 35 cc, .slice pa h pc] 46)).heap[w.heap.size]? = some (.cells #[.string o, .string r, .int .i64 h] 50 (0, 0)) := by
    rw [Below.heap_alloc _ _ _ (by show w.heap.size < (w.heap.push _).size; rw [Array.size_push]; exact Nat.lt_succ_self _)]
    exact heap_alloc_at _ _ _ rfl
  have hcb : ((w.alloc (.cells #[.string o, .string r, .int .i64 h] 50)).alloc (.cells #[.int .i64 i, .slice ca 35 cc, .slice pa h pc] 46)).heap[w.heap.size + 1]? = some (.cells #[.int .i64 i, .slice ca 35 cc, .slice pa h pc] 46 (0, 0)) := heap_alloc_at _ _ _ (by show (w.heap.push _).size = _; rw [Array.size_push])
  have hg0 : w.grownBy ((w.alloc (.cells #[.string o, .string r, .int .i64 h] 50)).alloc (.cells #[.int .i64 i, .slice ca 35 cc, .slice pa h pc] 46)) none := grownBy_alloc' (World.grownBy_alloc _ _ _) _
  have HCA := Lib.hid hca
  have HCB := Lib.hid hcb
  have HG0 := Lib.hid hg0
  clear hca hcb hg0
  generalize (w.alloc (.cells #[.string o, .string r, .int .i64 h] 50)).alloc (.cells #[.int .i64 i, .slice ca 35 cc, .slice pa h pc] 46) = wz at *
  refine (hpl.out wz).mono ?_
  rintro e w2 ⟨rfl, g2⟩
  have hca2 := (g2.block _ (Array.getElem?_eq_some_iff.1 HCA.out).1 (by simp)).trans HCA.out
  have hcb2 := (g2.block _ (Array.getElem?_eq_some_iff.1 HCB.out).1 (by simp)).trans HCB.out
  have G2 := Lib.hid (grownBy_trans HG0.out g2)
  have HR2 := Lib.hid (HR.out.grown G2.out)
  have p0 := cell_of hca2 0
  have p1 := cell_of hca2 1
  have p2 := cell_of hca2 2
  have s0 := cell_of hcb2 0
  have s1 := cell_of hcb2 1
  have s2 := cell_of hcb2 2
  simp at p0 p1 p2 s0 s1 s2
  clear g2 hpl hca2 hcb2 HCA HCB HG0
  generalize w.heap.size = B at *
  go_wp2_with fail
  go_region_held3 (fun w' => w2.grownBy w' none ∧ w'.cell? ⟨B, 0, none⟩ = some (.string o) ∧ w'.cell? ⟨B, 1, none⟩ = some (.string r) ∧ w'.cell? ⟨B, 2, none⟩ = some (.int .i64 h) ∧ w'.cell? ⟨B + 1, 0, none⟩ = some (.int .i64 i) ∧ w'.cell? ⟨B + 1, 1, none⟩ = some (.slice ca 35 cc)) (first | exact ck | exact ⟨grownBy_drew (World.grownBy.refl _ _), p0, p1, p2, s0, s1⟩)
    (first
      | (go_at_call 100; (with_reducible refine (hdg.out _ (HR2.out.grown (grownBy_drew (World.grownBy.refl _ _)))).mono ?_); rintro e w6 ⟨rfl, g6⟩; have ck := veri_keep (grownBy_drew (World.grownBy.refl w2 none)) g6 p0 p1 p2 s0 s1)
      | (go_at_call 121; (with_reducible refine (hrc.out _ (grownBy_trans G2.out ck.1) (HR2.out.grown ck.1)).mono ?_); rintro e w7 ⟨rfl, g7⟩; have ck := veri_keep ck.1 g7 p0 p1 p2 s0 s1))
  obtain ⟨gw, q0, q1, q2, t0, t1⟩ := ck
  have t2 := gw.cell s2 (by simp)
  have G7 := Lib.hid (grownBy_trans G2.out gw)
  have HR7 := Lib.hid (HR.out.grown G7.out)
  clear p0 p1 p2 s0 s1 s2 q0 q2 t1 gw hdg hrc HR2 G2
  go_wp2_with fail
  go_region_held3 (fun w' => w7.grownBy w' none ∧ w'.cell? ⟨B, 1, none⟩ = some (.string r) ∧ w'.cell? ⟨B + 1, 0, none⟩ = some (.int .i64 i) ∧ w'.cell? ⟨B + 1, 2, none⟩ = some (.slice pa h pc)) (first | exact ck | exact ⟨grownBy_drew (World.grownBy.refl _ _), q1, t0, t2⟩)
    (first
      | (go_at_call 122; (with_reducible refine (hcl.out _ (grownBy_trans G7.out (grownBy_drew (World.grownBy.refl _ _))) (HR7.out.grown (grownBy_drew (World.grownBy.refl _ _)))).mono ?_); rintro e w8 ⟨rfl, g8⟩; have ck := climb_keep (grownBy_drew (World.grownBy.refl w7 none)) g8 q1 t0 t2))
  have G8 := Lib.hid (grownBy_trans G7.out ck.1)
  clear ck
  go_wp2_with fail
  go_ret
  exact ⟨rfl, G8.out⟩
end Go.Proofs.YtioahjdojgcfdaaDoor

namespace Go.Proofs.YtioahjdojgcfdaaDoor
open Go.RowKit
attribute [local irreducible] shaL

theorem rec_pub (seed : ByteArray) (leaf : Nat) (d : List UInt8) (h : d.length = 16) : publicOfS (openS seed) leaf (recS (openS seed) leaf (digs d) (sigS seed leaf (digs d) 35) 35) = publicS seed leaf := by
  rw [rec_sig seed leaf (digs d) (digs_bd d h) 35 (by rw [digs_length]; omega) 35 (Nat.le_refl _)]
  rfl
theorem leavesS_at (seed : ByteArray) (h i : Nat) (hi : i < 2 ^ h) : (leavesS seed h)[i]? = some (publicS seed i) := by simp [leavesS, hi]
/-- P8.2: a key's signature climbs to its root -/
theorem sign_climbs (seed m : ByteArray) (h i : Nat) (hi : i < 2 ^ h) : climbS (publicOfS (openS seed) i (recS (openS seed) i (digs (digestS (openS seed) i m).data.toList) (chainsS seed i m) 35)) i (pathS h (leavesS seed h) i) = rootK seed h := by
  unfold chainsS
  have e := rec_pub seed i (digestS (openS seed) i m).data.toList (digestS_size _ _ _)
  rw [e]
  exact climb_path h _ i _ (leavesS_length seed h) (leavesS_at seed h i hi)
theorem chains_16 (seed m : ByteArray) (i : Nat) : ∀ s ∈ chainsS seed i m, s.size = 16 := sigS_all _ _ _ _
theorem chains_35 (seed m : ByteArray) (i : Nat) : (chainsS seed i m).length = 35 := sigS_length _ _ _ _
theorem path_small (seed : ByteArray) (h i : Nat) : ∀ s ∈ pathS h (leavesS seed h) i, s.size ≤ 1000000000000 := pathS_sizes _ _ _ _ (by decide) (fun s hs => by rw [leavesS_sizes seed h s hs]; decide)
end Go.Proofs.YtioahjdojgcfdaaDoor

namespace Go.Proofs.YtioahjdojgcfdaaDoor
open Go.RowKit
attribute [local irreducible] shaL

theorem own_neP {a : Option Addr} {k c B m : Nat} (h : ∀ y, (Value.slice a k c).ownBlock = some y → B ≤ y) (hB : m < B) : ∀ g o, a = some ⟨g, o, none⟩ → some m ≠ some g := fun g o e q => by
  subst e
  have := h g rfl
  have := Option.some.inj q
  omega
end Go.Proofs.YtioahjdojgcfdaaDoor

namespace Go.Proofs.YtioahjdojgcfdaaDoor
open Go.RowKit
attribute [local irreducible] shaL

def aliceL : ByteArray := ⟨#[97, 108, 105, 99, 101]⟩
def seedA : ByteArray := ⟨#[97]⟩
theorem verify_own (seed m : ByteArray) (h i : Nat) (hh : h ≤ 6) (hi : i < 2 ^ h) (hm : m.size ≤ 1000000000000) (ca pa : Option Addr) (cc pc : Nat) (w : World) (hc : StrsAt w (.slice ca 35 cc) (chainsS seed i m)) (hp : StrsAt w (.slice pa h pc) (pathS h (leavesS seed h) i)) (hr : ShaReady w) :
    Calls Tryd.prog 93 #[.agg #[.string (openS seed), .string (rootK seed h), .int .i64 h], .string m, .agg #[.int .i64 i, .slice ca 35 cc, .slice pa h pc]] w fun e w' => e = .returned (.bool true) ∧ w.grownBy w' none :=
  verify_any (openS seed) (rootK seed h) m h i _ _ ca cc pa pc true hh hi (openS_size seed) hm (chains_35 seed m i) (chains_16 seed m i) (pathS_length h _ _) (path_small seed h i) (by rw [sign_climbs seed m h i hi]; simp) w hc hp hr
theorem rootS_16 : ∀ (h : Nat) (l : List ByteArray), l.length = 2 ^ h → (∀ s ∈ l, s.size = 16) → (rootS h l).size = 16
  | 0, [], e, _ => by simp at e
  | 0, a :: _, _, q => q a List.mem_cons_self
  | h + 1, l, e, q => rootS_16 h _ (aboveS_length _ _ (by rw [e, Nat.pow_succ, Nat.mul_comm])) (aboveS_sizes l)
theorem rootK_16 (seed : ByteArray) (h : Nat) : (rootK seed h).size = 16 := rootS_16 h _ (leavesS_length seed h) (leavesS_sizes seed h)
end Go.Proofs.YtioahjdojgcfdaaDoor

namespace Go.Proofs.YtioahjdojgcfdaaDoor
open Go.RowKit

/-- the number of the first bits -/
def bandN (s : ByteArray) : Nat → Nat
  | 0 => 0
  | k + 1 => 2 * bandN s k + bitS s k
theorem bandN_lt (s : ByteArray) : ∀ k, bandN s k < 2 ^ k
  | 0 => by simp [bandN]
  | k + 1 => by
    have := bandN_lt s k
    have := bitS_le s k
    rw [bandN, Nat.pow_succ]
    omega
theorem or_bit (n b : Nat) (hb : b ≤ 1) : 2 * n ||| b = 2 * n + b := by
  have := Nat.two_pow_add_eq_or_of_lt (i := 1) (b := b) (by omega) n
  simp at this
  rw [← this]
theorem band_cap (k : Nat) (h : k ≤ 16) : 2 ^ k ≤ 65536 := Nat.le_trans (Nat.pow_le_pow_right (by decide) h) (by decide)
/-- are the first bits alike? -/
def belowB (a b : ByteArray) (n : Nat) : Bool := (List.range n).all fun i => bitS a i == bitS b i
theorem belowB_succ (a b : ByteArray) (n : Nat) : belowB a b (n + 1) = (belowB a b n && (bitS a n == bitS b n)) := by
  simp [belowB, List.range_succ, List.all_append]
theorem belowB_iff (a b : ByteArray) (n : Nat) : belowB a b n = true ↔ ∀ i, i < n → bitS a i = bitS b i := by
  simp [belowB]

end Go.Proofs.YtioahjdojgcfdaaDoor

namespace Go.Proofs.YtioahjdojgcfdaaDoor
open Go.RowKit

def bytesV (l : List UInt8) : List Value := l.map fun c => .int .u8 c.toNat
theorem infoB : (Tryd.prog.info? 5).map (fun i => (i.zero, i.size, i.bytes)) = some (some (.int .u8 0), 1, 1) := by kernel_rfl
theorem made_bytes (n : Nat) : (madeCells #[Value.int .u8 0] n).toList = bytesV (List.replicate n 0) := by
  apply List.ext_getElem?
  intro i
  simp [madeCells, bytesV, List.getElem?_replicate]
  by_cases h : i < n <;> simp [h, Nat.mod_one]
/-- 'string(b)', b a row of the call's own that holds bytes -/
theorem own_str {wr : World} {B g k cap : Nat} {l : List UInt8} (h : wr.ownsRow B 5 1 (.slice (some ⟨g, 0, none⟩) k cap) k (bytesV l)) :
    (convert 57 9 (.slice (some ⟨g, 0, none⟩) k cap)).run Tryd.prog wr = .ok (.string (str l)) wr := by
  have hl : l.length = k := by simpa [bytesV] using h.1
  subst hl
  refine run_convert_bytes_back wr 57 9 5 _ cap l Tryd.underlying57 Tryd.underlying5 Tryd.underlying9 fun j hj => ?_
  rw [show Addr.add ⟨g, 0, none⟩ j = (⟨g, j, none⟩ : Addr) from by simp [Addr.add]; omega, h.cellAt j (by simpa using hj)]
  simp [bytesV, List.getElem?_eq_getElem hj]
/-- 'string(b[:])', b a block of bytes -/
theorem blk_str {w : World} {g : Nat} {l : List UInt8} {t : TypeId} (h : w.heap[g]? = some (.cells (bytesV l).toArray t (0, 0))) (cap : Nat) :
    (convert 57 9 (.slice (some ⟨g, 0, none⟩) l.length cap)).run Tryd.prog w = .ok (.string (str l)) w := by
  refine run_convert_bytes_back w 57 9 5 _ cap l Tryd.underlying57 Tryd.underlying5 Tryd.underlying9 fun j hj => ?_
  rw [show Addr.add ⟨g, 0, none⟩ j = (⟨g, j, none⟩ : Addr) from by simp [Addr.add]; omega, cell_of h, List.getElem?_toArray]
  simp [bytesV, List.getElem?_eq_getElem hj]
end Go.Proofs.YtioahjdojgcfdaaDoor
