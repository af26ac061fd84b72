/- The walk of an update's Encode. -/
import Derived.Test.YtemndmhdlgfajaaGreatDoorPolB
import Derived.Test.YtemndmhdlgfajaaGreatDoorPolicyCodesB5
import Derived.Test.YtemndmhdlgfajaaGreatDoorPolicyCodesB4
import Derived.Handy
import Derived.Deep.DeepCutAuto
namespace Go.Proofs.YtemndmhdlgfajaaGreatDoor
open Go.RowKit
attribute [local irreducible] shaL

theorem wr_textU {w : World} {b : Nat} {ts : List ByteArray} (t : ByteArray) (ht : t.size ≤ 4096) (h : WrAt w b ⟨ts, 0⟩) (hr : total ts ≤ 100000000) :
    Calls Tryz.prog 38 #[.pointer (some ⟨b, 0, none⟩), .string t] w fun e w' => e = .returned (.pointer (some ⟨b, 0, none⟩)) ∧ WrAt w' b ⟨t :: str (be t.size 2) :: ts, 0⟩ ∧ w.grownBy w' (some b) := by
  refine (wtext_any t (by unfold maxLen; omega) w (some ⟨b, 0, none⟩) (some ⟨ts, 0⟩) ⟨b, rfl, h⟩ (fun x e => by cases e; show 2 + t.size + total ts ≤ _; omega)).mono ?_
  rintro e w' ⟨rfl, hw, g⟩
  obtain ⟨b', e', hw⟩ := hw
  cases e'
  have e2 : (⟨ts, 0⟩ : WSt).text t = ⟨t :: str (be t.size 2) :: ts, 0⟩ := by
    unfold WSt.text
    rw [if_pos ht]
    rfl
  have hw : WrAt w' b ((⟨ts, 0⟩ : WSt).text t) := hw
  rw [e2] at hw
  exact ⟨rfl, hw, g⟩
theorem flat_textU (ts : List ByteArray) (t : ByteArray) : flat (t :: str (be t.size 2) :: ts) = flat ts ++ textU t := by
  show (flat ts ++ (str (be t.size 2)).data.toList) ++ t.data.toList = _
  rw [str_data, List.append_assoc]
  rfl
theorem total_textU (ts : List ByteArray) (t : ByteArray) (h : t.size ≤ 4096) : total (t :: str (be t.size 2) :: ts) ≤ 5000 + total ts := by
  rw [total_cons, total_cons, str_size, be_length]
  omega
set_option maxRecDepth 100000 in
set_option maxHeartbeats 3200000 in
theorem uencode_fine (l : ByteArray) (x : EntS) (i : Nat) (C P : List ByteArray) (ca pa : Option Addr) (cc pc h : Nat) (hl : l.size ≤ 4096) (hx : x.small) (he : x.err = 0) (hi : i ≤ 63) (hC : C.length = 35) (hP : P.length = h) (hh : h ≤ 6) (h1 : ∀ t ∈ C, t.size = 16) (h2 : ∀ t ∈ P, t.size = 16) (w : World) (hc : StrsAt w (.slice ca 35 cc) C) (hp : StrsAt w (.slice pa h pc) P) :
    Calls Tryz.prog 10 #[updV l x i (.slice ca 35 cc) (.slice pa h pc)] w fun e w' => e = .returned (.tuple #[.string (str (updB l (str x.bytes) (str (sigB i C P)))), .int .i64 0]) ∧ w.grownBy w' none := by
  have hn1 : (str x.bytes).size ≤ 4096 := by rw [str_size, EntS.len he]; omega
  have hn2 : (str (sigB i C P)).size ≤ 4096 := by rw [str_size, sigB_len i C P hC h1 h2]; omega
  have HEN := Lib.hid (fun w' => eencode_any x hx w')
  have HSE := Lib.hid (fun w' (g : w.grownBy w' none) => sencode_any i C P ca pa cc pc h hi hC hP hh h1 h2 w' (hc.grown g) (hp.grown g))
  have henc : x.enc = str x.bytes := by unfold EntS.enc; rw [if_pos he]
  rw [henc, he] at HEN
  generalize str x.bytes = xe at HEN hn1 ⊢
  generalize str (sigB i C P) = se at HSE hn2 ⊢
  unfold EntS.val at HEN
  unfold sigV at HSE
  unfold updV
  clear henc he hx hi hC hP hh h1 h2 hc hp
  obtain ⟨n, hn⟩ : ∃ n, w.heap.size = n := ⟨_, rfl⟩
  have hb0 := heap_alloc_at w (.cells #[.string l, .int .u64 x.v, .string x.o, .string x.r, .int .i64 x.h, .string x.p, .int .i64 i, .slice ca 35 cc, .slice pa h pc] 39) n hn
  have hg0 : w.grownBy (w.alloc (.cells #[.string l, .int .u64 x.v, .string x.o, .string x.r, .int .i64 x.h, .string x.p, .int .i64 i, .slice ca 35 cc, .slice pa h pc] 39)) none := World.grownBy_alloc _ _ _
  obtain ⟨W0, hW0⟩ : ∃ W0, w.alloc (.cells #[.string l, .int .u64 x.v, .string x.o, .string x.r, .int .i64 x.h, .string x.p, .int .i64 i, .slice ca 35 cc, .slice pa h pc] 39) = W0 := ⟨_, rfl⟩
  rw [hW0] at hb0 hg0
  have S0 : Hid (w.grownBy W0 none ∧ W0.heap[n]? = some (.cells #[.string l, .int .u64 x.v, .string x.o, .string x.r, .int .i64 x.h, .string x.p, .int .i64 i, .slice ca 35 cc, .slice pa h pc] 39 (0, 0))) := Lib.hid ⟨hg0, hb0⟩
  have HSTEP : Hid (∀ (wa wb : World), wa.grownBy wb none → w.grownBy wa none ∧ wa.heap[n]? = some (.cells #[.string l, .int .u64 x.v, .string x.o, .string x.r, .int .i64 x.h, .string x.p, .int .i64 i, .slice ca 35 cc, .slice pa h pc] 39 (0, 0)) → w.grownBy wb none ∧ wb.heap[n]? = some (.cells #[.string l, .int .u64 x.v, .string x.o, .string x.r, .int .i64 x.h, .string x.p, .int .i64 i, .slice ca 35 cc, .slice pa h pc] 39 (0, 0))) := Lib.hid (fun wa wb g q => ⟨grownBy_trans q.1 g, g.heap q.2 (by simp)⟩)
  have HW0 := Lib.hid hW0
  have HN := Lib.hid hn
  have HS := Lib.hid (And.intro hl (And.intro hn1 hn2))
  obtain ⟨u0, u1, u2, u3, u4, u5, u6, u7, u8⟩ := cells9 hb0
  clear hb0 hg0 hW0 hn hl hn1 hn2
  go_enter Tryz.func10, Tryz.ntmps10
  go_wp2_with (rw [HW0.out, HN.out])
  refine (HEN.out _).mono ?_
  rintro e w1 ⟨rfl, g1⟩
  have S1 := Lib.hid (HSTEP.out _ _ g1 S0.out)
  clear g1 u0 u1 u2 u3 u4 u5 u6 u7 u8 HEN
  obtain ⟨u0, u1, u2, u3, u4, u5, u6, u7, u8⟩ := cells9 S1.out.2
  go_wp2_with fail
  refine (HSE.out _ S1.out.1).mono ?_
  rintro e w2 ⟨rfl, g2⟩
  have S2 := Lib.hid (HSTEP.out _ _ g2 S1.out)
  clear g2 u0 u1 u2 u3 u4 u5 u6 u7 u8 HSE
  have hwr : WrAt (w2.alloc (.cells #[.pointer none, .int .i64 0, .int .i64 0] 90)) w2.heap.size ⟨[], 0⟩ := ⟨.pointer none, heap_alloc_at w2 _ _ rfl, rfl⟩
  have S3 := Lib.hid (HSTEP.out _ _ (World.grownBy_alloc w2 (.cells #[.pointer none, .int .i64 0, .int .i64 0] 90) none) S2.out)
  have hlt : n < w2.heap.size := (Array.getElem?_eq_some_iff.1 S2.out.2).1
  obtain ⟨WB, hWB⟩ : ∃ WB, w2.heap.size = WB := ⟨_, rfl⟩
  obtain ⟨W3, hW3⟩ : ∃ W3, w2.alloc (.cells #[.pointer none, .int .i64 0, .int .i64 0] 90) = W3 := ⟨_, rfl⟩
  rw [hWB] at hwr hlt
  rw [hW3] at hwr S3
  have HNEW : Hid (∀ g, some WB = some g → w.heap.size ≤ g) := Lib.hid (fun g e => by cases e; have := HN.out; omega)
  have F1 := Lib.hid (wr_textU l HS.out.1 hwr (by show 0 ≤ _; omega))
  have F2 : Hid (∀ w', WrAt w' WB ⟨l :: str (be l.size 2) :: [], 0⟩ → _) := Lib.hid (fun w' q => wr_textU (w := w') xe HS.out.2.1 q (by have := total_textU [] l HS.out.1; have h0 : total [] = 0 := rfl; omega))
  have F3 : Hid (∀ w', WrAt w' WB ⟨xe :: str (be xe.size 2) :: l :: str (be l.size 2) :: [], 0⟩ → _) := Lib.hid (fun w' q => wr_textU (w := w') se HS.out.2.2 q (by have := total_textU [] l HS.out.1; have := total_textU (l :: str (be l.size 2) :: []) xe HS.out.2.1; have h0 : total [] = 0 := rfl; omega))
  have F4 : Hid (∀ w', WrAt w' WB ⟨se :: str (be se.size 2) :: xe :: str (be xe.size 2) :: l :: str (be l.size 2) :: [], 0⟩ → _) := Lib.hid (fun w' q => wr_bytesS (w := w') q (by have := total_textU [] l HS.out.1; have := total_textU (l :: str (be l.size 2) :: []) xe HS.out.2.1; have := total_textU (xe :: str (be xe.size 2) :: l :: str (be l.size 2) :: []) se HS.out.2.2; have h0 : total [] = 0 := rfl; show total (se :: _) ≤ _; omega))
  have HEND : Hid (str (flat (se :: str (be se.size 2) :: xe :: str (be xe.size 2) :: l :: str (be l.size 2) :: [])) = str (updB l xe se)) := Lib.hid (by
    rw [flat_textU, flat_textU, flat_textU]
    unfold updB
    show str ((([] ++ textU l) ++ textU xe) ++ textU se) = _
    simp only [List.append_assoc, List.nil_append])
  have HWB := Lib.hid hWB
  have HW3 := Lib.hid hW3
  obtain ⟨u0, u1, u2, u3, u4, u5, u6, u7, u8⟩ := cells9 S3.out.2
  clear hwr hlt hWB hW3
  go_wp2_with (rw [HW3.out, HWB.out])
  refine F1.out.mono ?_
  rintro e w4 ⟨rfl, hw4, g4⟩
  have W4 := Lib.hid hw4
  have G4 := Lib.hid (grown_row S3.out.1 g4 HNEW.out)
  clear hw4 g4 u0 u1 u2 u3 u4 u5 u6 u7 u8
  go_wp2_with fail
  refine (F2.out w4 W4.out).mono ?_
  rintro e w5 ⟨rfl, hw5, g5⟩
  have W5 := Lib.hid hw5
  have G5 := Lib.hid (grown_row G4.out g5 HNEW.out)
  clear hw5 g5
  go_wp2_with fail
  refine (F3.out w5 W5.out).mono ?_
  rintro e w6 ⟨rfl, hw6, g6⟩
  have W6 := Lib.hid hw6
  have G6 := Lib.hid (grown_row G5.out g6 HNEW.out)
  clear hw6 g6
  go_wp2_with fail
  refine (F4.out w6 W6.out).mono ?_
  rintro e w7 ⟨rfl, g7⟩
  have G7 := Lib.hid (grownBy_trans G6.out g7)
  clear g7
  go_wp2_with fail
  go_returns
  exact ⟨by rw [← HEND.out]; rfl, G7.out⟩
end Go.Proofs.YtemndmhdlgfajaaGreatDoor
