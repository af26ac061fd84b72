/- The walk of a signature's Encode. -/
import Derived.Test.YtemndmhdlgfajaaGreatDoorPolA
import Derived.Test.YtemndmhdlgfajaaGreatDoorPolicyCodesB4
import Derived.Test.YtemndmhdlgfajaaGreatDoorPolicyCodesB2
import Derived.Handy
import Derived.Deep.DeepCutAuto
namespace Go.Proofs.YtemndmhdlgfajaaGreatDoor
open Go.RowKit
attribute [local irreducible] shaL

theorem sig_cells {w : World} {b : Nat} {t : TypeId} {a0 a1 a2 : Value} (h : w.heap[b]? = some (.cells #[a0, a1, a2] t (0, 0))) : w.cell? ⟨b, 0, none⟩ = some a0 ∧ w.cell? ⟨b, 1, none⟩ = some a1 ∧ w.cell? ⟨b, 2, none⟩ = some a2 := by
  refine ⟨?_, ?_, ?_⟩ <;> rw [cell_of h] <;> rfl
theorem wr_num1 {w : World} {b : Nat} {ts : List ByteArray} (n : Nat) (hn : n < 256) (h : WrAt w b ⟨ts, 0⟩) (hr : total ts ≤ 100000000) :
    Calls Tryz.prog 85 #[.pointer (some ⟨b, 0, none⟩), .int .u64 n, .int .i64 1] w fun e w' => e = .returned (.pointer (some ⟨b, 0, none⟩)) ∧ WrAt w' b ⟨str (be n 1) :: ts, 0⟩ ∧ w.grownBy w' (some b) := by
  have := wr_numS (w := w) (st := ⟨ts, 0⟩) n (by omega) 1 h (by show total ts ≤ _; omega)
  rwa [wnum_ok ts n 1 ⟨by omega, by omega, by show n < 256; omega⟩] at this
set_option maxRecDepth 100000 in
set_option maxHeartbeats 1600000 in
theorem sencode_any (i : Nat) (C P : List ByteArray) (ca pa : Option Addr) (cc pc h : Nat) (hi : i ≤ 63) (hC : C.length = 35) (hP : P.length = h) (hh : h ≤ 6) (h1 : ∀ t ∈ C, t.size = 16) (h2 : ∀ t ∈ P, t.size = 16) (w : World) (hc : StrsAt w (.slice ca 35 cc) C) (hp : StrsAt w (.slice pa h pc) P) :
    Calls Tryz.prog 37 #[sigV i (.slice ca 35 cc) (.slice pa h pc)] w fun e w' => e = .returned (.tuple #[.string (str (sigB i C P)), .int .i64 0]) ∧ w.grownBy w' none := by
  unfold sigV
  have hb0 := heap_alloc_at w (.cells #[.int .i64 i, .slice ca 35 cc, .slice pa h pc] 37) _ rfl
  have hg0 : w.grownBy (w.alloc (.cells #[.int .i64 i, .slice ca 35 cc, .slice pa h pc] 37)) none := World.grownBy_alloc _ _ _
  obtain ⟨W0, hW0⟩ : ∃ W0, w.alloc (.cells #[.int .i64 i, .slice ca 35 cc, .slice pa h pc] 37) = W0 := ⟨_, rfl⟩
  rw [hW0] at hb0 hg0
  have hWB : WrAt (W0.alloc (.cells #[.pointer none, .int .i64 0, .int .i64 0] 90)) W0.heap.size ⟨[], 0⟩ := ⟨.pointer none, heap_alloc_at W0 _ _ rfl, rfl⟩
  have hg1 : W0.grownBy (W0.alloc (.cells #[.pointer none, .int .i64 0, .int .i64 0] 90)) none := World.grownBy_alloc _ _ _
  have hb1 := hg1.heap hb0 (by simp)
  obtain ⟨W1, hW1⟩ : ∃ W1, W0.alloc (.cells #[.pointer none, .int .i64 0, .int .i64 0] 90) = W1 := ⟨_, rfl⟩
  have hlt : w.heap.size < W0.heap.size := (Array.getElem?_eq_some_iff.1 hb0).1
  obtain ⟨XB, hXB⟩ : ∃ XB, w.heap.size = XB := ⟨_, rfl⟩
  obtain ⟨WB, hWBn⟩ : ∃ WB, W0.heap.size = WB := ⟨_, rfl⟩
  rw [hW1] at hWB hg1 hb1
  rw [hWBn] at hWB hlt
  rw [hXB] at hb0 hb1 hlt
  have hnew : ∀ g, some WB = some g → w.heap.size ≤ g := fun g e => by cases e; omega
  have hne2 : ∀ (w' w'' : World) (v : Array Value) (t : TypeId), w'.grownBy w'' (some WB) → w'.heap[XB]? = some (.cells v t (0, 0)) → w''.heap[XB]? = some (.cells v t (0, 0)) := fun w' w'' o u g h => g.heap h (fun e => by have := Option.some.inj e; omega)
  have hneC : ∀ g o, 0 < 35 → ca = some ⟨g, o, none⟩ → g ≠ WB := fun g o _ e => by
    subst e
    have := hc.lt (by omega)
    omega
  have hneP : ∀ g o, 0 < h → pa = some ⟨g, o, none⟩ → g ≠ WB := fun g o q e => by
    subst e
    have := hp.lt (by omega)
    omega
  have hend : str (flat (P.reverse ++ (str (be h 1) :: (C.reverse ++ [str (be i 1)])))) = str (sigB i C P) := by
    rw [flat_rev]
    show str ((flat (C.reverse ++ [str (be i 1)]) ++ (str (be h 1)).data.toList) ++ catS P) = _
    rw [flat_rev, str_data]
    show str ((((flat [] ++ (str (be i 1)).data.toList) ++ catS C) ++ be h 1) ++ catS P) = _
    rw [str_data]
    unfold sigB
    rw [hP]
    show str (((([] ++ be i 1) ++ catS C) ++ be h 1) ++ catS P) = _
    simp only [List.append_assoc, List.nil_append]
  have t1 : total [str (be i 1)] = 1 := by rw [total_cons, str_size, be_length]; rfl
  have t2 : total (C.reverse ++ [str (be i 1)]) = 561 := by rw [total_rev C _ h1, t1, hC]
  have t3 : total (str (be h 1) :: (C.reverse ++ [str (be i 1)])) = 562 := by rw [total_cons, str_size, be_length, t2]
  have t4 : total (P.reverse ++ (str (be h 1) :: (C.reverse ++ [str (be i 1)]))) = 16 * h + 562 := by rw [total_rev P _ h2, t3, hP]
  have c0 : IntKind.u64.wrap (i : Int) = (i : Int) := wrap_u64 i (by omega)
  have c1 : IntKind.u64.wrap (h : Int) = (h : Int) := wrap_u64 h (by omega)
  have d1 : ¬ (i : Int) < 0 := by omega
  have d2 : ¬ (i : Int) > 63 := by omega
  have d3 : ¬ (h : Int) > 6 := by omega
  have HG1 := Lib.hid (grownBy_trans hg0 hg1)
  have HB0 := Lib.hid hb0
  have HB1 := Lib.hid hb1
  have HW0 := Lib.hid hW0
  have HW1 := Lib.hid hW1
  have HXB := Lib.hid hXB
  have HWB := Lib.hid hWBn
  have HNEW := Lib.hid hnew
  have HNE := Lib.hid hne2
  have HEND := Lib.hid hend
  have HC := Lib.hid hc
  have HP := Lib.hid hp
  have F1 := Lib.hid (wr_num1 i (by omega) hWB (by show 0 ≤ _; omega))
  have F2 : Hid (∀ w', w.grownBy w' none → WrAt w' WB ⟨[str (be i 1)], 0⟩ → _) := Lib.hid fun w' g q => xwrite_any WB [str (be i 1)] C ca 35 cc hC (by omega) h1 (by rw [t1]; omega) w' (hc.grown g) q hneC
  have F3 : Hid (∀ w', WrAt w' WB ⟨C.reverse ++ [str (be i 1)], 0⟩ → _) := Lib.hid fun w' q => wr_num1 (w := w') h (by omega) q (by rw [t2]; omega)
  have F4 : Hid (∀ w', w.grownBy w' none → WrAt w' WB ⟨str (be h 1) :: (C.reverse ++ [str (be i 1)]), 0⟩ → _) := Lib.hid fun w' g q => xwrite_any WB _ P pa h pc hP (by omega) h2 (by rw [t3]; omega) w' (hp.grown g) q hneP
  have F5 : Hid (∀ w', WrAt w' WB ⟨P.reverse ++ (str (be h 1) :: (C.reverse ++ [str (be i 1)])), 0⟩ → _) := Lib.hid fun w' q => wr_bytesS (w := w') q (by show total (P.reverse ++ _) ≤ _; rw [t4]; omega)
  obtain ⟨x0, x1, x2⟩ := sig_cells hb0
  obtain ⟨y0, y1, y2⟩ := sig_cells hb1
  clear hb0 hb1 hg0 hg1 hW0 hW1 hWB hlt hXB hWBn hnew hne2 hneC hneP hend t1 t2 t3 t4 hc hp hi hC hP hh h1 h2
  go_enter Tryz.func37, Tryz.ntmps37
  go_wp2_with (first | rw [HW0.out, HXB.out] | rw [HW1.out, HWB.out])
  refine F1.out.mono ?_
  rintro e w2 ⟨rfl, hw2, g2⟩
  have W2 := Lib.hid hw2
  have G2 := Lib.hid (grown_row HG1.out g2 HNEW.out)
  have B2 := Lib.hid (HNE.out _ _ _ _ g2 HB1.out)
  clear hw2 g2 x0 x1 x2 y0 y1 y2
  obtain ⟨x0, x1, x2⟩ := sig_cells B2.out
  go_wp2_with fail
  refine (F2.out w2 G2.out W2.out).mono ?_
  rintro e w3 ⟨rfl, hw3, g3⟩
  have W3 := Lib.hid hw3
  have G3 := Lib.hid (grown_row G2.out g3 HNEW.out)
  have B3 := Lib.hid (HNE.out _ _ _ _ g3 B2.out)
  clear hw3 g3 x0 x1 x2
  obtain ⟨x0, x1, x2⟩ := sig_cells B3.out
  go_wp2_with fail
  refine (F3.out w3 W3.out).mono ?_
  rintro e w4 ⟨rfl, hw4, g4⟩
  have W4 := Lib.hid hw4
  have G4 := Lib.hid (grown_row G3.out g4 HNEW.out)
  have B4 := Lib.hid (HNE.out _ _ _ _ g4 B3.out)
  clear hw4 g4 x0 x1 x2
  obtain ⟨x0, x1, x2⟩ := sig_cells B4.out
  go_wp2_with fail
  refine (F4.out w4 G4.out W4.out).mono ?_
  rintro e w5 ⟨rfl, hw5, g5⟩
  have W5 := Lib.hid hw5
  have G5 := Lib.hid (grown_row G4.out g5 HNEW.out)
  clear hw5 g5 x0 x1 x2
  go_wp2_with fail
  refine (F5.out w5 W5.out).mono ?_
  rintro e w6 ⟨rfl, g6⟩
  have G6 := Lib.hid (grownBy_trans G5.out g6)
  clear g6
  go_wp2_with fail
  go_returns
  exact ⟨by rw [← HEND.out]; rfl, G6.out⟩
end Go.Proofs.YtemndmhdlgfajaaGreatDoor
