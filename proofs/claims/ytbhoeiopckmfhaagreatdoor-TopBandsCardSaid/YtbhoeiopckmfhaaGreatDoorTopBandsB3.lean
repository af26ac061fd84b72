/- Cut, whole; what burns; Start, On, Count of a disk. · What burns; Start, On, Count of a disk; Write. · Write. · Write, where it is done. · Write, in one word; slices.Clone; Copy. · Read, where there is an error; slices.Backward over what waits. · Plain functions for package merkle: nodes, roots, paths, climbs, each by levels and by halves. No walk of the program. · The walk of band's Count. -/
import Derived.Test.YtbhoeiopckmfhaaGreatDoorSecC
import Derived.Deep.AppendLies
import Derived.Lib.BufferWrite
import Derived.RangeFuncNested
import Derived.RangeFuncBound
import Derived.RangeFuncCalls
import Derived.RangeFuncLeaves
import Derived.Shelf.Abstract
import Derived.Shelf.RegionOpen
import Derived.OwnWalkIn
import Derived.TacticsInMore
import Derived.LoopNIn
import Derived.LoopIn
import Derived.Test.YtbhoeiopckmfhaaGreatDoorTopBandsB2
import Derived.Test.YtbhoeiopckmfhaaGreatDoorShaCalls
namespace Go.Proofs.YtbhoeiopckmfhaaGreatDoor
open Go.RowKit

set_option maxHeartbeats 1000000 in
set_option maxRecDepth 100000 in
theorem cut_core0 (b gl cl : Nat) (D : DiskS) (kv : Value) (ka : Option Addr) (kc n : Nat) (w : World)
    (hm : DiskMem w b D (.slice (some ⟨gl, 0, none⟩) D.last.length cl) (.slice none 0 0) kv) (hkl : n ≤ 9223372036854775807) :
    Calls Tryz.prog 18 #[.pointer (some ⟨b, 0, none⟩), .slice ka n kc] w fun e w' => e = .returned (.tuple #[]) ∧
      DiskMem w' b ⟨D.last, [], false, -1, []⟩ (.slice (some ⟨gl, 0, none⟩) D.last.length cl) (.slice none 0 0) (.slice none 0 0) ∧ Turn (fun i => i = b) w w' := by
  have HM := Lib.hid hm
  have c1 : w.cell? ⟨b, 1, none⟩ = some (.slice none 0 0) := by rw [cell_of hm.disk]; rfl
  clear hm
  go_enter Tryz.func18, Tryz.ntmps18
  go_upto_region 1 with (fail)
  go_cut [21, 22, 23] (fun v21 v22 v23 wx => v21 = .slice none 0 0 ∧ v22 = .int .i64 0 ∧ v23 = .int .i64 0 ∧ Hid (∃ q, w.drewN q = wx))
  case first =>
    by_cases hnm : n = 0
    · subst hnm
      go_region
      all_goals
        go_wp2_with fail
        go_meet
        case rel => exact ⟨by first | rfl | (congr 1; omega), by first | rfl | (congr 1; omega), by first | rfl | (congr 1; omega), 1, rfl⟩
    · have b4 : ¬ (n : Int) ≤ 0 := by omega
      have b5 : (0 : Int) < (n : Int) := by omega
      go_region
      all_goals
        go_wp2_with fail
        go_meet
        case rel => exact ⟨by first | rfl | (congr 1; omega), by first | rfl | (congr 1; omega), by first | rfl | (congr 1; omega), 1, rfl⟩
  case rest =>
    obtain ⟨rfl, rfl, rfl, HG0⟩ := hcut
    obtain ⟨nq, hnq⟩ := HG0.out
    have HD := Lib.hid (show DiskMem wc b D (.slice (some ⟨gl, 0, none⟩) D.last.length cl) (.slice none 0 0) kv from by
      rw [← hnq]; exact ⟨HM.out.disk, HM.out.last, HM.out.wait, HM.out.keep, HM.out.secs, HM.out.waits, HM.out.lb, HM.out.wb, HM.out.kb, HM.out.lw, HM.out.lk, HM.out.wk⟩)
    have HT : Hid (Turn (fun i => i = b) w wc) := by rw [← hnq]; exact ⟨rfl, rfl, rfl, Nat.le_refl _, fun _ _ _ => rfl⟩
    clear hnq HG0
    go_wp2_with fail
    go_loopw [4, 5, 6, 23] (fun _ _ _ iv wr => iv = .int .i64 0 ∧ Hid (wc = wr)) (fun _ _ _ _ _ => 0)
    case atStart => exact ⟨rfl, rfl⟩
    case round =>
      obtain ⟨rfl, HW⟩ := hrel
      obtain rfl := HW.out
      have hhd := HD.out.disk
      have f0 := fun j => free_of hhd j
      have e1 : wc.cell? ⟨b, 1, none⟩ = some (.slice none 0 0) := by rw [cell_of hhd]; rfl
      have e2 : wc.cell? ⟨b, 2, none⟩ = some (.bool D.on) := by rw [cell_of hhd]; rfl
      have e3 : wc.cell? ⟨b, 3, none⟩ = some (.int .i64 D.fuse) := by rw [cell_of hhd]; rfl
      have e4 : wc.cell? ⟨b, 4, none⟩ = some kv := by rw [cell_of hhd]; rfl
      have HH := Lib.hid hhd
      clear hhd HW
      go_wp2_with fail
      go_end0
      refine ⟨rfl, ?_⟩
      have t : Turn (fun i => i = b) wc ((((wc.setCell ⟨b, 1, none⟩ (.slice none 0 0)).setCell ⟨b, 2, none⟩ (.bool false)).setCell ⟨b, 3, none⟩ (.int .i64 (-1))).setCell ⟨b, 4, none⟩ (.slice none 0 0)) :=
        ((((Turn.refl (fun i => i = b) wc).setCell (fun _ => rfl) _ _).setCell (fun _ => rfl) _ _).setCell (fun _ => rfl) _ _).setCell (fun _ => rfl) _ _
      have hm := HD.out
      exact ⟨⟨heap_setCell (heap_setCell (heap_setCell (heap_setCell HH.out 1 _) 2 _) 3 _) 4 _, own_turn hm.last t (fun g e q => hm.lb (by rw [e, q])), World.ownsRow_nil _ _ _ _, World.ownsRow_nil _ _ _ _, hm.secs, fun x hx => by simp at hx, hm.lb, by simp [Value.ownBlock], by simp [Value.ownBlock], fun _ _ => by simp [Value.ownBlock], fun _ _ => by simp [Value.ownBlock], fun _ _ => by simp [Value.ownBlock]⟩, HT.out.then t⟩

/-- a Cut with bytes that lie elsewhere -/
def cutD (D : DiskS) (ks : List UInt8) : DiskS := ⟨cutL D.last D.wait ks, [], false, -1, []⟩
theorem cut_mem (b : Nat) (D : DiskS) (lv wv kv : Value) (ka : Option Addr) (kc : Nat) (ks : List UInt8) (w : World) (hm : DiskMem w b D lv wv kv) (h0 : 0 < D.last.length)
    (hk : BytesAt w (.slice ka ks.length kc) ks) (hkl : ks.length ≤ 9223372036854775807) (hwl : D.wait.length ≤ 1000000000000) (hkg : 0 < ks.length → ∀ g o, ka = some ⟨g, o, none⟩ → lv.ownBlock ≠ some g ∧ g ≠ b) :
    Calls Tryz.prog 18 #[.pointer (some ⟨b, 0, none⟩), .slice ka ks.length kc] w fun e w' => e = .returned (.tuple #[]) ∧
      DiskMem w' b (cutD D ks) lv (.slice none 0 0) (.slice none 0 0) ∧ Turn (fun i => i = b ∨ lv.ownBlock = some i) w w' := by
  rcases own_form hm.last with ⟨_, h⟩ | ⟨gl, cl, rfl⟩
  · omega
  rcases own_form hm.wait with ⟨rfl, hw0⟩ | ⟨gw, cw, rfl⟩
  · refine (cut_core0 b gl cl D kv ka kc ks.length w hm hkl).mono ?_
    rintro e w' ⟨rfl, h, t⟩
    have e : D.wait = [] := List.eq_nil_of_length_eq_zero hw0
    refine ⟨rfl, ?_, t.mono (fun i _ e => .inl e)⟩
    unfold cutD
    rw [e, cutL]
    exact h
  · refine (cut_core b gl cl gw cw D kv ka kc ks w hm hk hkl hwl (fun hp g o e => ⟨fun q => (hkg hp g o e).1 (by rw [q]; rfl), (hkg hp g o e).2⟩)).mono ?_
    rintro e w' ⟨rfl, h, t⟩
    exact ⟨rfl, by unfold cutD; exact (by simpa [cutL_length] using h), t.mono (fun i _ e => by rcases e with e | e; exact .inl e; exact .inr (by rw [e]; rfl))⟩

/-- the blocks of a disk behind a call: those of before, and new ones -/
def grow (F : Nat → Prop) (w w' : World) (i : Nat) : Prop := F i ∨ madeIn w w' i
theorem cut_at0 (F : Nat → Prop) (b : Nat) (D : DiskS) (ka : Option Addr) (kc : Nat) (ks : List UInt8) (w : World) (hm : DiskAt F w b D) (h0 : 0 < D.last.length)
    (hk : BytesAt w (.slice ka ks.length kc) ks) (hkl : ks.length ≤ 9223372036854775807) (hwl : D.wait.length ≤ 1000000000000) (hkg : 0 < ks.length → ∀ g o, ka = some ⟨g, o, none⟩ → ¬ F g) :
    Calls Tryz.prog 18 #[.pointer (some ⟨b, 0, none⟩), .slice ka ks.length kc] w fun e w' => e = .returned (.tuple #[]) ∧ DiskAt F w' b (cutD D ks) ∧ Turn F w w' := by
  obtain ⟨lv, wv, kv, m, f1, f2, f3, f4⟩ := hm
  refine (cut_mem b D lv wv kv ka kc ks w m h0 hk hkl hwl (fun hp g o e => ⟨fun q => hkg hp g o e (f2 g q), fun q => hkg hp g o e (by rw [q]; exact f1)⟩)).mono ?_
  rintro e w' ⟨rfl, h, t⟩
  exact ⟨rfl, ⟨_, _, _, h, f1, f2, by simp [Value.ownBlock], by simp [Value.ownBlock]⟩, t.mono (fun i _ e => by rcases e with rfl | e; exact f1; exact f2 _ e)⟩
theorem cut_at (F : Nat → Prop) (b : Nat) (D : DiskS) (ka : Option Addr) (kc : Nat) (ks : List UInt8) (w : World) (hm : DiskAt F w b D) (h0 : 0 < D.last.length)
    (hk : BytesAt w (.slice ka ks.length kc) ks) (hkl : ks.length ≤ 9223372036854775807) (hwl : D.wait.length ≤ 1000000000000) (hkg : ∀ g o, ka = some ⟨g, o, none⟩ → ¬ F g) :
    Calls Tryz.prog 18 #[.pointer (some ⟨b, 0, none⟩), .slice ka ks.length kc] w fun e w' => e = .returned (.tuple #[]) ∧ DiskAt F w' b (cutD D ks) ∧ Turn F w w' :=
  cut_at0 F b D ka kc ks w hm h0 hk hkl hwl (fun _ => hkg)
end Go.Proofs.YtbhoeiopckmfhaaGreatDoor

namespace Go.Proofs.YtbhoeiopckmfhaaGreatDoor
open Go.RowKit

theorem bytes_own {w : World} {v : Value} {n : Nat} {l : List UInt8} (h : w.ownsRow 0 5 1 v n (bytesV l)) : BytesAt w v l ∧ ∀ g o a c, v = .slice a n c → a = some ⟨g, o, none⟩ → v.ownBlock = some g := by
  have hl : l.length = n := by have := h.1; rw [bytesV_length] at this; omega
  subst hl
  rcases own_form h with ⟨rfl, h0⟩ | ⟨g, cap, rfl⟩
  · exact ⟨⟨none, 0, by rw [h0], fun i hi => by omega⟩, fun g o a c e e2 => by injection e with e1 _ _; rw [← e1] at e2; cases e2⟩
  · refine ⟨⟨_, cap, rfl, fun i hi => ⟨g, 0, rfl, ?_⟩⟩, fun g o a c e e2 => by cases e; cases e2; rfl⟩
    rw [Nat.zero_add, World.ownsRow.cellAt h i (by omega)]
    simp [bytesV, List.getElem?_eq_getElem hi]

theorem burns_none (F : Nat → Prop) (b : Nat) (D : DiskS) (w : World) (hm : DiskAt F w b D) (h : D.fuse < 0) : Calls Tryz.prog 201 #[.pointer (some ⟨b, 0, none⟩)] w fun e w' => e = .returned (.bool false) ∧ w = w' := by
  obtain ⟨lv, wv, kv, m, f1, f2, f3, f4⟩ := hm
  have e3 : w.cell? ⟨b, 3, none⟩ = some (.int .i64 D.fuse) := by rw [cell_of m.disk]; rfl
  have e5 : (D.fuse == 0) = false := by simp; omega
  have e6 : ¬ (0 : Int) < D.fuse := by omega
  clear m
  go_enter Tryz.func201, Tryz.ntmps201
  go_wp2_with fail
  go_ret
  exact ⟨rfl, rfl⟩
theorem burns_some (F : Nat → Prop) (b : Nat) (D : DiskS) (w : World) (hm : DiskAt F w b D) (h : 0 < D.fuse) (h2 : D.fuse ≤ 9223372036854775807) : Calls Tryz.prog 201 #[.pointer (some ⟨b, 0, none⟩)] w fun e w' => e = .returned (.bool false) ∧
    DiskAt F w' b { D with fuse := D.fuse - 1 } ∧ Turn (fun i => i = b) w w' := by
  obtain ⟨lv, wv, kv, m, f1, f2, f3, f4⟩ := hm
  have e3 : w.cell? ⟨b, 3, none⟩ = some (.int .i64 D.fuse) := by rw [cell_of m.disk]; rfl
  have g3 : w.frozen? ⟨b, 3, none⟩ = false := free_of m.disk 3
  have e5 : (D.fuse == 0) = false := by simp; omega
  have e6 : (0 : Int) < D.fuse := by omega
  have M := Lib.hid m
  clear m
  go_enter Tryz.func201, Tryz.ntmps201
  go_wp2_with fail
  go_ret
  have t : Turn (fun i => i = b) w (w.setCell ⟨b, 3, none⟩ (.int .i64 (D.fuse - 1))) := (Turn.refl (fun i => i = b) w).setCell (fun _ => rfl) _ _
  exact ⟨rfl, ⟨lv, wv, kv, M.out.setHead t (on := D.on) (heap_setCell M.out.disk 3 _), f1, f2, f3, f4⟩, t⟩
theorem burns_cut (F : Nat → Prop) (b : Nat) (D : DiskS) (w : World) (hm : DiskAt F w b D) (h0 : 0 < D.last.length) (h : D.fuse = 0) (hkl : D.keep.length ≤ 9223372036854775807) (hwl : D.wait.length ≤ 1000000000000) : Calls Tryz.prog 201 #[.pointer (some ⟨b, 0, none⟩)] w fun e w' => e = .returned (.bool true) ∧
    DiskAt F w' b (cutD D D.keep) ∧ Turn F w w' := by
  obtain ⟨lv, wv, kv, m, f1, f2, f3, f4⟩ := hm
  have e3 : w.cell? ⟨b, 3, none⟩ = some (.int .i64 0) := by rw [cell_of m.disk, h]; rfl
  have e4 : w.cell? ⟨b, 4, none⟩ = some kv := by rw [cell_of m.disk]; rfl
  obtain ⟨hb, hob⟩ := bytes_own m.keep
  have hb' := hb
  obtain ⟨ka, kc, rfl, _⟩ := hb'
  have C := Lib.hid (cut_mem b D lv wv _ ka kc D.keep w m h0 hb hkl hwl (fun _ g o e => by
    have := hob g o ka kc rfl e
    exact ⟨fun q => m.lk g q this, fun q => m.kb (by rw [this, q])⟩))
  clear m h
  go_enter Tryz.func201, Tryz.ntmps201
  go_wp2_with fail
  refine C.out.mono ?_
  rintro e w1 ⟨rfl, hd, t⟩
  have HD := Lib.hid hd
  have T := Lib.hid t
  clear hd t
  go_wp2_with fail
  go_ret
  exact ⟨rfl, ⟨_, _, _, HD.out, f1, f2, by simp [Value.ownBlock], by simp [Value.ownBlock]⟩, T.out.mono (fun i _ e => by rcases e with rfl | e; exact f1; exact f2 _ e)⟩

theorem count_at (F : Nat → Prop) (b : Nat) (D : DiskS) (w : World) (hm : DiskAt F w b D) : Calls Tryz.prog 82 #[.pointer (some ⟨b, 0, none⟩)] w fun e w' => e = .returned (.int .i64 (D.last.length : Nat)) ∧ w = w' := by
  obtain ⟨lv, wv, kv, m, f1, f2, f3, f4⟩ := hm
  rcases own_form m.last with ⟨rfl, h0⟩ | ⟨g, cap, rfl⟩
  · rw [h0]; exact count_cell b none 0 0 w (by rw [cell_of m.disk]; rfl)
  · exact count_cell b _ _ _ w (by rw [cell_of m.disk]; rfl)
theorem reaches_at_off (F : Nat → Prop) (b : Nat) (D : DiskS) (i : Int) (w : World) (hm : DiskAt F w b D) (h : D.on = false) : Calls Tryz.prog 165 #[.pointer (some ⟨b, 0, none⟩), .int .i64 i] w fun e w' => e = .returned (.int .i64 8) ∧ w = w' := by
  obtain ⟨lv, wv, kv, m, f1, f2, f3, f4⟩ := hm
  exact reaches_off b i w (by rw [cell_of m.disk, ← h]; rfl)
theorem reaches_at_out (F : Nat → Prop) (b : Nat) (D : DiskS) (i : Int) (w : World) (hm : DiskAt F w b D) (h : D.on = true) (hi : i < 0 ∨ (D.last.length : Int) ≤ i) : Calls Tryz.prog 165 #[.pointer (some ⟨b, 0, none⟩), .int .i64 i] w fun e w' => e = .returned (.int .i64 10) ∧ w = w' := by
  obtain ⟨lv, wv, kv, m, f1, f2, f3, f4⟩ := hm
  rcases own_form m.last with ⟨rfl, h0⟩ | ⟨g, cap, rfl⟩
  · rw [h0] at hi; exact reaches_out b i none 0 0 w (by rw [cell_of m.disk, ← h]; rfl) (by rw [cell_of m.disk]; rfl) hi
  · exact reaches_out b i _ _ _ w (by rw [cell_of m.disk, ← h]; rfl) (by rw [cell_of m.disk]; rfl) hi
theorem reaches_at_ok (F : Nat → Prop) (b : Nat) (D : DiskS) (i : Nat) (w : World) (hm : DiskAt F w b D) (h : D.on = true) (hi : i < D.last.length) : Calls Tryz.prog 165 #[.pointer (some ⟨b, 0, none⟩), .int .i64 i] w fun e w' => e = .returned (.int .i64 0) ∧ w = w' := by
  obtain ⟨lv, wv, kv, m, f1, f2, f3, f4⟩ := hm
  rcases own_form m.last with ⟨rfl, h0⟩ | ⟨g, cap, rfl⟩
  · omega
  · exact reaches_ok b i _ _ _ w (by rw [cell_of m.disk, ← h]; rfl) (by rw [cell_of m.disk]; rfl) hi
end Go.Proofs.YtbhoeiopckmfhaaGreatDoor

namespace Go.Proofs.YtbhoeiopckmfhaaGreatDoor
open Go.RowKit

theorem write_nil (i : Int) (s : ByteArray) (w : World) : Calls Tryz.prog 186 #[.pointer none, .int .i64 i, .string s] w fun e w' => e = .returned (.int .i64 1) ∧ w = w' := by
  go_enter Tryz.func186, Tryz.ntmps186
  go_wp2_with fail
  refine (reaches_nil i w).mono ?_
  rintro e w1 ⟨rfl, rfl⟩
  go_wp2_with fail
  go_ret
  exact ⟨rfl, rfl⟩
theorem write_off (F : Nat → Prop) (b : Nat) (D : DiskS) (i : Int) (s : ByteArray) (w : World) (hm : DiskAt F w b D) (h : D.on = false) : Calls Tryz.prog 186 #[.pointer (some ⟨b, 0, none⟩), .int .i64 i, .string s] w fun e w' => e = .returned (.int .i64 8) ∧ w = w' := by
  have C := Lib.hid (reaches_at_off F b D i w hm h)
  clear hm h
  go_enter Tryz.func186, Tryz.ntmps186
  go_wp2_with fail
  refine C.out.mono ?_
  rintro e w1 ⟨rfl, rfl⟩
  go_wp2_with fail
  go_ret
  exact ⟨rfl, rfl⟩
theorem write_out (F : Nat → Prop) (b : Nat) (D : DiskS) (i : Int) (s : ByteArray) (w : World) (hm : DiskAt F w b D) (h : D.on = true) (hi : i < 0 ∨ (D.last.length : Int) ≤ i) : Calls Tryz.prog 186 #[.pointer (some ⟨b, 0, none⟩), .int .i64 i, .string s] w fun e w' => e = .returned (.int .i64 10) ∧ w = w' := by
  have C := Lib.hid (reaches_at_out F b D i w hm h hi)
  clear hm h hi
  go_enter Tryz.func186, Tryz.ntmps186
  go_wp2_with fail
  refine C.out.mono ?_
  rintro e w1 ⟨rfl, rfl⟩
  go_wp2_with fail
  go_ret
  exact ⟨rfl, rfl⟩
theorem write_long (F : Nat → Prop) (b : Nat) (D : DiskS) (i : Nat) (s : ByteArray) (w : World) (hm : DiskAt F w b D) (h : D.on = true) (hi : i < D.last.length) (hs : 64 < s.size) : Calls Tryz.prog 186 #[.pointer (some ⟨b, 0, none⟩), .int .i64 i, .string s] w fun e w' => e = .returned (.int .i64 2) ∧ w = w' := by
  have C := Lib.hid (reaches_at_ok F b D i w hm h hi)
  clear hm h hi
  go_enter Tryz.func186, Tryz.ntmps186
  go_wp2_with fail
  refine C.out.mono ?_
  rintro e w1 ⟨rfl, rfl⟩
  go_wp2_with fail
  go_ret
  exact ⟨rfl, rfl⟩
theorem write_power (F : Nat → Prop) (b : Nat) (D : DiskS) (i : Nat) (s : ByteArray) (w : World) (hm : DiskAt F w b D) (h : D.on = true) (hi : i < D.last.length) (hs : s.size ≤ 64) (hf : D.fuse = 0) (hkl : D.keep.length ≤ 9223372036854775807) (hwl : D.wait.length ≤ 1000000000000) :
    Calls Tryz.prog 186 #[.pointer (some ⟨b, 0, none⟩), .int .i64 i, .string s] w fun e w' => e = .returned (.int .i64 8) ∧ DiskAt F w' b (cutD D D.keep) ∧ Turn F w w' := by
  have C := Lib.hid (reaches_at_ok F b D i w hm h hi)
  have C2 := Lib.hid (burns_cut F b D w hm (by omega) hf hkl hwl)
  clear hm h hi hf
  go_enter Tryz.func186, Tryz.ntmps186
  go_wp2_with fail
  refine C.out.mono ?_
  rintro e w1 ⟨rfl, rfl⟩
  go_wp2_with fail
  refine C2.out.mono ?_
  rintro e w1 ⟨rfl, hd, t⟩
  have HD := Lib.hid hd
  have T := Lib.hid t
  clear hd t
  go_wp2_with fail
  go_ret
  exact ⟨rfl, HD.out, T.out⟩
end Go.Proofs.YtbhoeiopckmfhaaGreatDoor

namespace Go.Proofs.YtbhoeiopckmfhaaGreatDoor
open Go.RowKit

/-- a copy of a text into a block: nothing else turns -/
theorem wpList_copy_text {P : Program} {ops : Array Oper} {rest : List Oper} {o : Oper} {a : Act} {w : World} {Q : Exit → Act → World → Prop} (hgd : o.guard = none) (d s : Operand) (dT sT : TypeId)
    (ho : o.op = .call { callee := .builtin .copy, args := #[d, s], argTypes := #[dT, sT] }) (elem : TypeId) (hu : P.underlying dT = some (.slice elem)) (hsz : (P.info? elem).map (·.size) = some 1)
    (dp : Option Addr) (dLen dCap : Nat) (x : ByteArray) (hd : a.eval d = .slice dp dLen dCap) (hs : a.eval s = .string x)
    (g off : Nat) (cur : List Value) (t : TypeId) (hg : w.heap[g]? = some (.cells cur.toArray t (0, 0))) (hn : x.size ≤ dLen)
    (hpos : 0 < x.size → dp = some ⟨g, off, none⟩) (hfit : off + x.size ≤ cur.length)
    (h : ∀ w', Hid (w'.heap[g]? = some (.cells (splice cur off (Lib.byteCells x.data.toList)).toArray t (0, 0))) → w.grownBy w' (some g) → wpList P ops Q rest (a.put o.dst (goInt x.size)) w') :
    wpList P ops Q (o :: rest) a w := by
  refine wpList_plain hgd fun K hK => ?_
  by_cases h0 : x.size = 0
  · have hrun := Lib.run_copy_empty_string (P := P) w dT sT o.type elem dp dLen dCap x hu (by simp at hsz; obtain ⟨i, hi, _⟩ := hsz; simp [hi]) h0
    unfold Oper.wp
    simp [execOp, ho, resolve, invoke, builtin, hd, hs, hrun, Result.andThen]
    have hx : x.data.toList = [] := List.eq_nil_of_length_eq_zero (by simpa using h0)
    have := h w (show _ = _ by simpa [splice, hx, Lib.byteCells] using hg) (World.grownBy.refl _ _)
    rw [h0] at this
    exact hK _ _ this
  · obtain rfl := hpos (by omega)
    have hrun := Lib.run_copy_row_string (P := P) w dT sT o.type elem g off dLen dCap x cur.toArray t hu hsz hg hn (by simpa using hfit)
    have hlen : (Lib.byteCells x.data.toList).length = x.size := by simp [Lib.byteCells]
    unfold Oper.wp
    simp [execOp, ho, resolve, invoke, builtin, hd, hs, hrun, Result.andThen]
    refine hK _ _ (h _ (show _ = _ from ?_) ⟨rfl, rfl, rfl, by simp [World.setRow], fun k _ hk => setRow_other w g k _ (by intro e; exact hk (by rw [e]))⟩)
    rw [setRow_heap w g _ _ t _ hg]
    simp [splice, hlen]
/-- a load of many cells, as one step of a region that draws -/
theorem step_load_mid {P : Program} {ops : Array Oper} {o : Oper} {a : Act} {w : World} {K : Act → World → Prop} {Q : Exit → Act → World → Prop} {E : Prop} (hgd : o.guard = none) (ty : TypeId) (x : Operand) (ho : o.op = .load ty x)
    (b f : Nat) (hx : a.eval x = .pointer (some ⟨b, f, none⟩)) (cs : List Value) (d : TypeDesc) (hc : w.rangeAt b f cs)
    (hu : P.underlying ty = some d) (hd : d.isRow = true) (hi : (P.info? ty).map (·.size) = some cs.length)
    (h : K (a.put o.dst (.agg cs.toArray)) w) : if Region.wanted o (yielded ops a.tmps) = true then Oper.wp P o a w K Q else E := by
  have hw : Region.wanted o (yielded ops a.tmps) = true := by simp [Region.wanted, hgd]
  rw [if_pos hw]
  exact wp_load_mid ty x ho b f hx cs d hc hu hd hi h
theorem fill_one (cs z : Array Value) (h : z.size = cs.size) (h0 : 0 < cs.size) : Instr.fill (fun i => some (i * cs.size, cs.size)) z [(0, .agg cs)] = some cs := by
  have := Great.fill_whole h0 [.agg cs] z (by simp [Value.cells]) (by simp [h])
  simpa [Value.cells] using this
/-- a slice of one value of many cells, as one step of a region that draws -/
theorem step_build_one {P : Program} {ops : Array Oper} {o : Oper} {a : Act} {w : World} {K : Act → World → Prop} {Q : Exit → Act → World → Prop} {E : Prop} (hgd : o.guard = none) (t e : TypeId) (x : Operand) (ho : o.op = .buildSlice t 1 #[(0, x)])
    (cs : Array Value) (hx : a.eval x = .agg cs) (ie : TypeInfo) (z : Value) (hu : P.underlying t = some (.slice e)) (hie : P.info? e = some ie) (hz : ie.zero = some z) (hsz : ie.size = cs.size) (hzs : z.cells.size = cs.size) (h0 : 0 < cs.size) (hsm : cs.size ≤ 16777216)
    (h : K (a.put o.dst (.slice (some ⟨w.heap.size, 0, none⟩) 1 1)) (w.alloc (.cells cs e))) : if Region.wanted o (yielded ops a.tmps) = true then Oper.wp P o a w K Q else E := by
  have hw : Region.wanted o (yielded ops a.tmps) = true := by simp [Region.wanted, hgd]
  rw [if_pos hw]
  refine wp_buildSlice t e 1 _ ho cs ie z hu hie hz (by rw [hsz]; omega) (by rw [hsz]; omega) ?_ h
  simp only [List.map_toArray, List.map_cons, List.map_nil, hx, hsz]
  exact fill_one cs _ (by simp) h0
theorem built_writing (i : Nat) : Tryz.prog.built 128 [(0, Value.int .i64 (i : Nat))] = some (wcells (i, zeros 64)).toArray := by kernel_rfl
/-- a text, laid over a writing's noughts -/
theorem splice_text (i : Nat) (s : ByteArray) (h : s.size ≤ 64) : splice (wcells (i, zeros 64)) 1 (Lib.byteCells s.data.toList) = wcells (i, fullL s.data.toList) := by
  have hl : s.data.toList.length = s.size := by simp
  have e : Lib.byteCells s.data.toList = bytesV s.data.toList := rfl
  rw [e]
  show Value.int .i64 (i : Nat) :: (bytesV s.data.toList ++ (wcells (i, zeros 64)).drop (1 + (bytesV s.data.toList).length)) = _ :: bytesV _
  congr 1
  unfold fullL
  rw [bytesV_append, bytesV_length, hl]
  congr 1
  rw [Nat.add_comm]
  show (bytesV (zeros 64)).drop s.size = _
  rw [bytesV_drop]
  unfold zeros
  rw [List.drop_replicate]

def wroteD (D : DiskS) (i : Nat) (s : ByteArray) : DiskS := { D with wait := D.wait ++ [(i, fullL s.data.toList)], fuse := if D.fuse < 0 then D.fuse else D.fuse - 1 }

theorem write_end {F : Nat → Prop} {w w2 w4 w5 : World} {b i g5 c5 H : Nat} {D1 : DiskS} {s : ByteArray} {lv wv kv : Value} {o : Obj} (T : Turn F w w2) (t4 : Turn (fun _ => False) w2 w4) (m : DiskMem w4 b D1 lv wv kv) (hb : b < w.heap.size)
    (f1 : F b) (f2 : ∀ g, lv.ownBlock = some g → F g) (f3 : ∀ g, wv.ownBlock = some g → F g) (f4 : ∀ g, kv.ownBlock = some g → F g)
    (hi : i < D1.last.length) (hs : s.size ≤ 64) (hown : w5.ownsRow 0 128 65 (.slice (some ⟨g5, 0, none⟩) (D1.wait.length + 1) c5) (D1.wait.length + 1) (wflat D1.wait ++ wcells (i, fullL s.data.toList)))
    (hg : (w4.drew.alloc o).grownBy w5 wv.ownBlock) (hat : wv.ownBlock = some g5 ∨ g5 = H) (hH : (w4.drew.alloc o).heap.size = H) (hlt : g5 < w5.heap.size) :
    DiskAt (grow F w (w5.setCell ⟨b, 1, none⟩ (.slice (some ⟨g5, 0, none⟩) (D1.wait.length + 1) c5))) (w5.setCell ⟨b, 1, none⟩ (.slice (some ⟨g5, 0, none⟩) (D1.wait.length + 1) c5)) b { D1 with wait := D1.wait ++ [(i, fullL s.data.toList)] } ∧
      Turn F w (w5.setCell ⟨b, 1, none⟩ (.slice (some ⟨g5, 0, none⟩) (D1.wait.length + 1) c5)) := by
  have hfl := fullL_length s.data.toList (by simpa using hs)
  have hsz4 : w.heap.size ≤ w4.heap.size := Nat.le_trans T.size t4.size
  have hH2 : w4.heap.size + 1 = H := by rw [← hH]; simp
  have t5 : Turn (fun i => wv.ownBlock = some i) w4 w5 := (((Turn.refl _ w4).drew).alloc o).row hg (fun i _ e => e)
  have hgb : g5 ≠ b := by
    rcases hat with h | h
    · intro e; exact m.wb (by rw [h, e])
    · have := m.lt; omega
  have t6 : Turn (fun i => i = b) w5 (w5.setCell ⟨b, 1, none⟩ (.slice (some ⟨g5, 0, none⟩) (D1.wait.length + 1) c5)) := (Turn.refl (fun i => i = b) w5).setCell (fun _ => rfl) _ _
  have h5 : w5.heap[b]? = _ := t5.heap m.disk m.wb
  refine ⟨⟨lv, _, kv, ⟨heap_setCell h5 1 _, ?_, ?_, ?_, m.secs, m.waits.snoc hi hfl, m.lb, by simp only [Value.ownBlock, ne_eq, Option.some.injEq]; exact hgb, m.kb, ?_, m.lk, ?_⟩, .inl f1, fun g e => .inl (f2 g e), ?_, fun g e => .inl (f4 g e)⟩, ?_⟩
  · exact own_turn (own_turn m.last t5 (fun g e q => m.lw g e q)) t6 (fun g e q => m.lb (by rw [e, q]))
  · rw [show ({ D1 with wait := D1.wait ++ [(i, fullL s.data.toList)] } : DiskS).wait.length = D1.wait.length + 1 from by simp, show ({ D1 with wait := D1.wait ++ [(i, fullL s.data.toList)] } : DiskS).wait = D1.wait ++ [(i, fullL s.data.toList)] from rfl, wflat_snoc]
    exact own_turn hown t6 (fun g e q => by cases e; exact hgb q)
  · exact own_turn (own_turn m.keep t5 (fun g e q => m.wk g q e)) t6 (fun g e q => m.kb (by rw [e, q]))
  · intro g e q
    simp only [Value.ownBlock, Option.some.injEq] at q
    subst q
    rcases hat with h | h
    · exact m.lw g5 e h
    · have := (m.last.lt g5 e).2; omega
  · intro g e q
    simp only [Value.ownBlock, Option.some.injEq] at e
    subst e
    rcases hat with h | h
    · exact m.wk g5 h q
    · have := (m.keep.lt g5 q).2; omega
  · intro g e
    simp only [Value.ownBlock, Option.some.injEq] at e
    subst e
    rcases hat with h | h
    · exact .inl (f3 g5 h)
    · exact .inr ⟨by omega, by rw [size_setCell]; exact hlt⟩
  · exact ((T.then (t4.mono (fun _ _ q => q.elim))).trans t5 (fun i _ e => f3 i e)).trans t6 (fun i _ e => by rw [e]; exact f1)

set_option maxHeartbeats 8000000 in
set_option maxRecDepth 100000 in
theorem write_tail (F : Nat → Prop) (b : Nat) (D D1 : DiskS) (i : Nat) (s : ByteArray) (w w1 : World) (hr : Calls Tryz.prog 165 #[.pointer (some ⟨b, 0, none⟩), .int .i64 i] w fun e w' => e = .returned (.int .i64 0) ∧ w = w')
    (hb : Calls Tryz.prog 201 #[.pointer (some ⟨b, 0, none⟩)] w fun e w' => e = .returned (.bool false) ∧ DiskAt F w' b D1 ∧ Turn F w w')
    (hi : i < D1.last.length) (hs : s.size ≤ 64) (hwl : D1.wait.length ≤ 1000000000) (hbl : b < w.heap.size) :
    Calls Tryz.prog 186 #[.pointer (some ⟨b, 0, none⟩), .int .i64 i, .string s] w fun e w' => e = .returned (.int .i64 0) ∧ DiskAt (grow F w w') w' b { D1 with wait := D1.wait ++ [(i, fullL s.data.toList)] } ∧ Turn F w w' := by
  obtain ⟨i0, hti, hz0, hz1, hz2⟩ := info_parts infoWriting
  have C := Lib.hid hr
  have C2 := Lib.hid hb
  have HI : Hid ((Tryz.prog.info? 128).map (·.size) = some (wcells (i, zeros 64)).toArray.size) := by
    show _ = _
    rw [List.size_toArray, wcells_length _ rfl]; kernel_rfl
  have H1 : Hid ((wcells (i, zeros 64)).toArray.all (·.oneCell') = true) := all_oneCell_toArray (wcells_one _)
  have HL0 : Hid ((wcells (i, zeros 64)).toArray.size = 65) := by show _ = _; rw [List.size_toArray, wcells_length _ rfl]
  have HS : Hid (1 + s.size ≤ (wcells (i, zeros 64)).length) := by rw [wcells_length _ rfl]; show _ ≤ _; omega
  clear hr hb
  have hz1 := wZ_size
  have hz2 := wZ_ne
  have hz3 := zero_writing
  go_enter Tryz.func186, Tryz.ntmps186
  go_wp2_with fail
  refine C.out.mono ?_
  rintro e w1 ⟨rfl, rfl⟩
  go_wp2_with fail
  refine C2.out.mono ?_
  rintro e w2 ⟨rfl, hd, t⟩
  have HD := Lib.hid hd
  have T := Lib.hid t
  clear hd t
  go_upto_region 9 with (first
    | (refine wpList_buildTo (by rfl) 128 _ (by rfl) (some 21) (by rfl) (wcells (i, zeros 64)).toArray (by exact built_writing i) ?_)
    | (refine wpList_store_rowTo (by rfl) 128 (.tmp 8) (.tmp 21) (by rfl) (by rfl) w2.heap.size (wcells (i, zeros 64)).toArray (by rfl) (by rfl) 128 _ (heap_alloc_new w2 _) HI.out (by exact HL0.out.symm) H1.out ?_))
  generalize hW : World.setRow (World.alloc w2 _) w2.heap.size _ = w3
  rw [World.setRow_alloc_new] at hW
  have g3 : w2.grownBy w3 none := by rw [← hW]; exact World.grownBy_alloc _ _ _
  have hA : w3.heap[w2.heap.size]? = some (.cells (wcells (i, zeros 64)).toArray 128 (0, 0)) := by rw [← hW]; exact heap_alloc_at _ _ _ rfl
  clear hW hz1 hz2 hz3
  have hszA : w2.heap.size < w3.heap.size := (Array.getElem?_eq_some_iff.1 hA).1
  have HA := Lib.hid hA
  clear hA
  go_upto_region 10 with (first
    | (refine wpList_copy_text (by rfl) (.tmp 23) (.tmp 24) 23 9 (by rfl) 5 Tryz.underlying23 infoU8 _ 64 64 s (by rfl) (by rfl) w2.heap.size 1 _ 128 HA.out hs (fun _ => rfl) HS.out ?_; intro w4 hR4 hg4))
  have t4 : Turn (fun _ => False) w2 w4 := (Turn.of_grown g3).row hg4 (fun i hi e => by cases e; omega)
  rw [splice_text i s hs] at hR4
  obtain ⟨lv, wv, kv, m, f1, f2, f3, f4⟩ := HD.out.turn t4 (fun _ _ _ q => q)
  have hfl := fullL_length s.data.toList (by simpa using hs)
  have hcl := wcells_length (i, fullL s.data.toList) hfl
  have hwl2 : D1.wait.length + 1 ≤ maxLen := by unfold maxLen; omega
  have hwl3 : (D1.wait.length + 1) * 72 ≤ 140737488355328 := by omega
  have e1 : w4.cell? ⟨b, 1, none⟩ = some wv := by rw [cell_of m.disk]; rfl
  have hb4 : b < w4.heap.size := m.lt
  have hb5 : ¬ b = w4.heap.size := by omega
  have M := Lib.hid m
  have HF := Lib.hid (And.intro hwl2 hwl3)
  have HCL := Lib.hid hcl
  have HRA : Hid (w4.drew.rangeAt w2.heap.size 0 (wcells (i, fullL s.data.toList))) := by
    intro j v hv
    show w4.cell? _ = _
    rw [cell_of hR4.out, List.getElem?_toArray, Nat.zero_add]
    exact hv
  have HI61 : Hid ((Tryz.prog.info? 128).map (·.size) = some (wcells (i, fullL s.data.toList)).length) := by show _ = _; rw [hcl]; kernel_rfl
  have HSZ : Hid (i0.size = (wcells (i, fullL s.data.toList)).toArray.size ∧ (Value.agg (wcells (0, zeros 64)).toArray).cells.size = (wcells (i, fullL s.data.toList)).toArray.size ∧ 0 < (wcells (i, fullL s.data.toList)).toArray.size ∧ (wcells (i, fullL s.data.toList)).toArray.size ≤ 16777216) := by
    show _ ∧ _
    rw [List.size_toArray, hcl]
    exact ⟨hz1, rfl, by decide, by decide⟩
  have HB : Hid (b < w.heap.size) := hbl
  have HE5 : Hid (∀ w5 : World, (w4.drew.alloc (.cells (wcells (i, fullL s.data.toList)).toArray 128)).grownBy w5 wv.ownBlock → w5.cell? ⟨b, 1, none⟩ = some wv ∧ w5.frozen? ⟨b, 1, none⟩ = false) := by
    intro w5 hg
    have t5 : Turn (fun i => wv.ownBlock = some i) w4 w5 := (((Turn.refl _ w4).drew).alloc _).row hg (fun i _ e => e)
    have h5 := t5.heap m.disk m.wb
    exact ⟨by rw [cell_of h5]; rfl, free_of h5 1⟩
  clear m hfl hcl hwl2 hwl3
  refine wp_region_any (by kernel_rfl) ?_
  try (change wpAny _ _ _ _ _ _ _ (World.drew _))
  refine wpAny_take (i := 0) (v := ?vz_0) rfl (by kernel_rfl) (by kernel_rfl) (by kernel_rfl) (fun _ _ _ h => h) (Or.inl ⟨by rfl, ?hz_0⟩) ?rz_0
  case hz_0 => (intro w0; go_simp; (try with_reducible rfl))
  try simp only [Act.put, List.setIfInBounds_toArray, List.set_cons_zero, List.set_cons_succ]
  refine wpAny_take (i := 1) (v := ?vz_1) rfl (by kernel_rfl) (by kernel_rfl) (by kernel_rfl) (fun _ _ _ h => h) (Or.inl ⟨by rfl, ?hz_1⟩) ?rz_1
  case hz_1 => (intro w0; go_simp; (try with_reducible rfl))
  try simp only [Act.put, List.setIfInBounds_toArray, List.set_cons_zero, List.set_cons_succ]
  refine wpAny_take (i := 2) (v := ?vz_2) rfl (by kernel_rfl) (by kernel_rfl) (by kernel_rfl) (fun _ _ _ h => h) (Or.inl ⟨by rfl, ?hz_2⟩) ?rz_2
  case hz_2 => (intro w0; go_simp; (try with_reducible rfl))
  try simp only [Act.put, List.setIfInBounds_toArray, List.set_cons_zero, List.set_cons_succ]
  refine wpAny_take (i := 3) (v := ?vz_3) rfl (by kernel_rfl) (by kernel_rfl) (by kernel_rfl) (fun _ _ _ h => h) (Or.inl ⟨by rfl, ?hz_3⟩) ?rz_3
  case hz_3 => (intro w0; go_simp; (try with_reducible rfl))
  try simp only [Act.put, List.setIfInBounds_toArray, List.set_cons_zero, List.set_cons_succ]
  refine wpAny_ready (rs := [4, 5]) (by kernel_rfl) (by simp) ?_
  refine AllReady.cons rfl (fun K hK => ?az_5) ?bz_5
  case az_5 =>
    go_simp
    refine hK _ _ ?_
    clear hK K
    try simp only [Act.put, List.setIfInBounds_toArray, List.set_cons_zero, List.set_cons_succ]
    refine wpAny_ready (rs := [5]) (by kernel_rfl) (by simp) ?_
    refine AllReady.cons rfl (fun K hK => ?az_6) ?bz_6
    case az_6 =>
      (refine step_load_mid rfl 128 (.tmp 8) rfl w2.heap.size 0 rfl (wcells (i, fullL s.data.toList)) _ HRA.out Tryz.underlying128 rfl HI61.out ?_)
      refine hK _ _ ?_
      clear hK K
      try simp only [Act.put, List.setIfInBounds_toArray, List.set_cons_zero, List.set_cons_succ]
      refine wpAny_ready (rs := [6]) (by kernel_rfl) (by simp) ?_
      refine AllReady.cons rfl (fun K hK => ?az_7) ?bz_7
      case az_7 =>
        (refine step_build_one rfl 99 128 (.tmp 31) rfl (wcells (i, fullL s.data.toList)).toArray rfl i0 _ Tryz.underlying99 hti hz0 HSZ.out.1 HSZ.out.2.1 HSZ.out.2.2.1 HSZ.out.2.2.2 ?_)
        refine hK _ _ ?_
        clear hK K
        try simp only [Act.put, List.setIfInBounds_toArray, List.set_cons_zero, List.set_cons_succ]
        refine wpAny_ready (rs := [7]) (by kernel_rfl) (by simp) ?_
        refine AllReady.cons rfl (fun K hK => ?az_8) ?bz_8
        case az_8 =>
          (refine step_append_lies _ rfl (.tmp 30) (.tmp 32) 99 rfl 0 128 i0 _ 65 72 Tryz.underlying99 hti hz0 hz1 hz2 rfl (by decide) wv D1.wait.length (wflat D1.wait) rfl (M.out.wait.alloc _) ⟨w4.heap.size, 0, none⟩ 1 1 (wcells (i, fullL s.data.toList)) rfl HCL.out (World.news_of_block (heap_alloc_new _ _)) (wcells_one _) Nat.zero_lt_one HF.out.1 HF.out.2 (Nat.zero_le _) _ rfl ?_; intro g5 c5 w5 hown5 hg5 hat5 hlt5; obtain ⟨e5, f5⟩ := HE5.out w5 hg5; have HE := Lib.hid (And.intro hown5 (And.intro hg5 (And.intro hat5 hlt5))); clear hown5 hg5 hat5 hlt5)
          refine hK _ _ ?_
          clear hK K
          try simp only [Act.put, List.setIfInBounds_toArray, List.set_cons_zero, List.set_cons_succ]
          refine wpAny_take (i := 8) (v := ?vz_8) rfl (by kernel_rfl) (by kernel_rfl) (by kernel_rfl) (fun _ _ _ h => h) (Or.inl ⟨by rfl, ?hz_8⟩) ?rz_8
          case hz_8 => (intro w0; go_simp; (try with_reducible rfl))
          try simp only [Act.put, List.setIfInBounds_toArray, List.set_cons_zero, List.set_cons_succ]
          refine wpAny_take (i := 9) (v := ?vz_9) rfl (by kernel_rfl) (by kernel_rfl) (by kernel_rfl) (fun _ _ _ h => h) (Or.inl ⟨by rfl, ?hz_9⟩) ?rz_9
          case hz_9 => (intro w0; go_simp; (try with_reducible rfl))
          try simp only [Act.put, List.setIfInBounds_toArray, List.set_cons_zero, List.set_cons_succ]
          refine wpAny_ready (rs := [10]) (by kernel_rfl) (by simp) ?_
          refine AllReady.cons rfl (fun K hK => ?az_11) ?bz_11
          case az_11 =>
            go_simp
            refine hK _ _ ?_
            clear hK K
            try simp only [Act.put, List.setIfInBounds_toArray, List.set_cons_zero, List.set_cons_succ]
            refine wpAny_done (by kernel_rfl) ?_ _
            try dsimp only
            (go_wp2_with fail; go_ret; exact ⟨rfl, write_end T.out t4 M.out HB.out f1 f2 f3 f4 hi hs HE.out.1 HE.out.2.1 HE.out.2.2.1 rfl HE.out.2.2.2⟩)
          case bz_11 =>
            exact AllReady.nil
        case bz_8 =>
          exact AllReady.nil
      case bz_7 =>
        exact AllReady.nil
    case bz_6 =>
      exact AllReady.nil
  case bz_5 =>
    refine AllReady.cons rfl (fun K hK => ?az_12) ?bz_12
    case az_12 =>
      (refine step_load_mid rfl 128 (.tmp 8) rfl w2.heap.size 0 rfl (wcells (i, fullL s.data.toList)) _ HRA.out Tryz.underlying128 rfl HI61.out ?_)
      refine hK _ _ ?_
      clear hK K
      try simp only [Act.put, List.setIfInBounds_toArray, List.set_cons_zero, List.set_cons_succ]
      refine wpAny_ready (rs := [4, 6]) (by kernel_rfl) (by simp) ?_
      refine AllReady.cons rfl (fun K hK => ?az_13) ?bz_13
      case az_13 =>
        go_simp
        refine hK _ _ ?_
        clear hK K
        try simp only [Act.put, List.setIfInBounds_toArray, List.set_cons_zero, List.set_cons_succ]
        refine wpAny_ready (rs := [6]) (by kernel_rfl) (by simp) ?_
        refine AllReady.cons rfl (fun K hK => ?az_14) ?bz_14
        case az_14 =>
          (refine step_build_one rfl 99 128 (.tmp 31) rfl (wcells (i, fullL s.data.toList)).toArray rfl i0 _ Tryz.underlying99 hti hz0 HSZ.out.1 HSZ.out.2.1 HSZ.out.2.2.1 HSZ.out.2.2.2 ?_)
          refine hK _ _ ?_
          clear hK K
          try simp only [Act.put, List.setIfInBounds_toArray, List.set_cons_zero, List.set_cons_succ]
          refine wpAny_ready (rs := [7]) (by kernel_rfl) (by simp) ?_
          refine AllReady.cons rfl (fun K hK => ?az_15) ?bz_15
          case az_15 =>
            (refine step_append_lies _ rfl (.tmp 30) (.tmp 32) 99 rfl 0 128 i0 _ 65 72 Tryz.underlying99 hti hz0 hz1 hz2 rfl (by decide) wv D1.wait.length (wflat D1.wait) rfl (M.out.wait.alloc _) ⟨w4.heap.size, 0, none⟩ 1 1 (wcells (i, fullL s.data.toList)) rfl HCL.out (World.news_of_block (heap_alloc_new _ _)) (wcells_one _) Nat.zero_lt_one HF.out.1 HF.out.2 (Nat.zero_le _) _ rfl ?_; intro g5 c5 w5 hown5 hg5 hat5 hlt5; obtain ⟨e5, f5⟩ := HE5.out w5 hg5; have HE := Lib.hid (And.intro hown5 (And.intro hg5 (And.intro hat5 hlt5))); clear hown5 hg5 hat5 hlt5)
            refine hK _ _ ?_
            clear hK K
            try simp only [Act.put, List.setIfInBounds_toArray, List.set_cons_zero, List.set_cons_succ]
            refine wpAny_take (i := 8) (v := ?vz_15) rfl (by kernel_rfl) (by kernel_rfl) (by kernel_rfl) (fun _ _ _ h => h) (Or.inl ⟨by rfl, ?hz_15⟩) ?rz_15
            case hz_15 => (intro w0; go_simp; (try with_reducible rfl))
            try simp only [Act.put, List.setIfInBounds_toArray, List.set_cons_zero, List.set_cons_succ]
            refine wpAny_take (i := 9) (v := ?vz_16) rfl (by kernel_rfl) (by kernel_rfl) (by kernel_rfl) (fun _ _ _ h => h) (Or.inl ⟨by rfl, ?hz_16⟩) ?rz_16
            case hz_16 => (intro w0; go_simp; (try with_reducible rfl))
            try simp only [Act.put, List.setIfInBounds_toArray, List.set_cons_zero, List.set_cons_succ]
            refine wpAny_ready (rs := [10]) (by kernel_rfl) (by simp) ?_
            refine AllReady.cons rfl (fun K hK => ?az_18) ?bz_18
            case az_18 =>
              go_simp
              refine hK _ _ ?_
              clear hK K
              try simp only [Act.put, List.setIfInBounds_toArray, List.set_cons_zero, List.set_cons_succ]
              refine wpAny_done (by kernel_rfl) ?_ _
              try dsimp only
              (go_wp2_with fail; go_ret; exact ⟨rfl, write_end T.out t4 M.out HB.out f1 f2 f3 f4 hi hs HE.out.1 HE.out.2.1 HE.out.2.2.1 rfl HE.out.2.2.2⟩)
            case bz_18 =>
              exact AllReady.nil
          case bz_15 =>
            exact AllReady.nil
        case bz_14 =>
          exact AllReady.nil
      case bz_13 =>
        refine AllReady.cons rfl (fun K hK => ?az_19) ?bz_19
        case az_19 =>
          (refine step_build_one rfl 99 128 (.tmp 31) rfl (wcells (i, fullL s.data.toList)).toArray rfl i0 _ Tryz.underlying99 hti hz0 HSZ.out.1 HSZ.out.2.1 HSZ.out.2.2.1 HSZ.out.2.2.2 ?_)
          refine hK _ _ ?_
          clear hK K
          try simp only [Act.put, List.setIfInBounds_toArray, List.set_cons_zero, List.set_cons_succ]
          refine wpAny_ready (rs := [4]) (by kernel_rfl) (by simp) ?_
          refine AllReady.cons rfl (fun K hK => ?az_20) ?bz_20
          case az_20 =>
            go_simp
            refine hK _ _ ?_
            clear hK K
            try simp only [Act.put, List.setIfInBounds_toArray, List.set_cons_zero, List.set_cons_succ]
            refine wpAny_ready (rs := [7]) (by kernel_rfl) (by simp) ?_
            refine AllReady.cons rfl (fun K hK => ?az_21) ?bz_21
            case az_21 =>
              (refine step_append_lies _ rfl (.tmp 30) (.tmp 32) 99 rfl 0 128 i0 _ 65 72 Tryz.underlying99 hti hz0 hz1 hz2 rfl (by decide) wv D1.wait.length (wflat D1.wait) rfl (M.out.wait.alloc _) ⟨w4.heap.size, 0, none⟩ 1 1 (wcells (i, fullL s.data.toList)) rfl HCL.out (World.news_of_block (heap_alloc_new _ _)) (wcells_one _) Nat.zero_lt_one HF.out.1 HF.out.2 (Nat.zero_le _) _ rfl ?_; intro g5 c5 w5 hown5 hg5 hat5 hlt5; obtain ⟨e5, f5⟩ := HE5.out w5 hg5; have HE := Lib.hid (And.intro hown5 (And.intro hg5 (And.intro hat5 hlt5))); clear hown5 hg5 hat5 hlt5)
              refine hK _ _ ?_
              clear hK K
              try simp only [Act.put, List.setIfInBounds_toArray, List.set_cons_zero, List.set_cons_succ]
              refine wpAny_take (i := 8) (v := ?vz_21) rfl (by kernel_rfl) (by kernel_rfl) (by kernel_rfl) (fun _ _ _ h => h) (Or.inl ⟨by rfl, ?hz_21⟩) ?rz_21
              case hz_21 => (intro w0; go_simp; (try with_reducible rfl))
              try simp only [Act.put, List.setIfInBounds_toArray, List.set_cons_zero, List.set_cons_succ]
              refine wpAny_take (i := 9) (v := ?vz_22) rfl (by kernel_rfl) (by kernel_rfl) (by kernel_rfl) (fun _ _ _ h => h) (Or.inl ⟨by rfl, ?hz_22⟩) ?rz_22
              case hz_22 => (intro w0; go_simp; (try with_reducible rfl))
              try simp only [Act.put, List.setIfInBounds_toArray, List.set_cons_zero, List.set_cons_succ]
              refine wpAny_ready (rs := [10]) (by kernel_rfl) (by simp) ?_
              refine AllReady.cons rfl (fun K hK => ?az_24) ?bz_24
              case az_24 =>
                go_simp
                refine hK _ _ ?_
                clear hK K
                try simp only [Act.put, List.setIfInBounds_toArray, List.set_cons_zero, List.set_cons_succ]
                refine wpAny_done (by kernel_rfl) ?_ _
                try dsimp only
                (go_wp2_with fail; go_ret; exact ⟨rfl, write_end T.out t4 M.out HB.out f1 f2 f3 f4 hi hs HE.out.1 HE.out.2.1 HE.out.2.2.1 rfl HE.out.2.2.2⟩)
              case bz_24 =>
                exact AllReady.nil
            case bz_21 =>
              exact AllReady.nil
          case bz_20 =>
            exact AllReady.nil
        case bz_19 =>
          exact AllReady.nil
    case bz_12 =>
      exact AllReady.nil
end Go.Proofs.YtbhoeiopckmfhaaGreatDoor

namespace Go.Proofs.YtbhoeiopckmfhaaGreatDoor
open Go.RowKit

theorem DiskAt.big {F G : Nat → Prop} {w : World} {b : Nat} {D : DiskS} (h : DiskAt F w b D) (hF : ∀ i, F i → G i) : DiskAt G w b D := h.mono (fun i _ q => hF i q)
theorem write_ok (F : Nat → Prop) (b : Nat) (D : DiskS) (i : Nat) (s : ByteArray) (w : World) (hm : DiskAt F w b D) (h : D.on = true) (hi : i < D.last.length) (hs : s.size ≤ 64) (hf : D.fuse ≠ 0) (hf2 : D.fuse ≤ 9223372036854775807) (hwl : D.wait.length ≤ 1000000000) :
    Calls Tryz.prog 186 #[.pointer (some ⟨b, 0, none⟩), .int .i64 i, .string s] w fun e w' => e = .returned (.int .i64 0) ∧ DiskAt (grow F w w') w' b (wroteD D i s) ∧ Turn F w w' := by
  have hlt := hm.lt
  by_cases h0 : D.fuse < 0
  · have := write_tail F b D D i s w w (reaches_at_ok F b D i w hm h hi) ((burns_none F b D w hm h0).mono (fun e w' q => ⟨q.1, by rw [← q.2]; exact hm, by rw [← q.2]; exact Turn.refl _ _⟩)) hi hs hwl hlt
    refine this.mono ?_
    rintro e w' ⟨rfl, q1, q2⟩
    refine ⟨rfl, ?_, q2⟩
    unfold wroteD
    rw [if_pos h0]
    exact q1
  · have := write_tail F b D { D with fuse := D.fuse - 1 } i s w w (reaches_at_ok F b D i w hm h hi) ((burns_some F b D w hm (by omega) hf2).mono (fun e w' q => ⟨q.1, q.2.1, q.2.2.mono (fun i _ e => by rw [e]; exact hm.own)⟩)) hi hs hwl hlt
    refine this.mono ?_
    rintro e w' ⟨rfl, q1, q2⟩
    refine ⟨rfl, ?_, q2⟩
    unfold wroteD
    rw [if_neg h0]
    exact q1

/-! ### slices.Clone: an own row laid anew -/
theorem own_ne {i k n c : Nat} (h : i < k) : some i ≠ (Value.slice (some ⟨k, 0, none⟩) n c).ownBlock := by
  intro e
  simp only [Value.ownBlock, Option.some.injEq] at e
  omega
set_option maxRecDepth 100000 in
set_option maxHeartbeats 1000000 in
theorem clone_bytes (v : Value) (n : Nat) (xs : List Value) (w : World) (hv : w.ownsRow 0 5 1 v n xs) (h1 : ∀ u ∈ xs, u.oneCell' = true) (hn : n ≤ 140737488351232) :
    Calls Tryz.prog 43 #[v] w fun e w' => ∃ v', e = .returned v' ∧ w'.ownsRow w.heap.size 5 1 v' n xs ∧ w.grownBy w' none := by
  obtain ⟨i0, hti, hz0, hz1, hz2⟩ := info_parts infoB
  rcases own_form hv with ⟨rfl, h0⟩ | ⟨g, cap, rfl⟩
  · subst h0
    have hx : xs = [] := List.eq_nil_of_length_eq_zero (by simpa using hv.1)
    subst hx
    have he : ∀ w : World, (binOp .eql 23 (.slice none 0 0) (.slice none 0 0)).run Tryz.prog w = .ok (.bool true) w := fun _ => rfl
    clear hv h1
    go_enter Tryz.func43, Tryz.ntmps43
    go_wp2_with fail
    go_ret
    exact ⟨_, rfl, World.ownsRow_nil _ _ _ _, World.grownBy.refl _ _⟩
  · have HV := Lib.hid hv
    have H1 := Lib.hid h1
    have hn2 : 0 + n ≤ maxLen := by unfold maxLen; omega
    have hn3 : (0 + n) * 1 ≤ 140737488355328 := by omega
    have HN := Lib.hid (And.intro hn2 hn3)
    have he : ∀ w : World, (binOp .eql 23 (.slice (some ⟨g, 0, none⟩) n cap) (.slice none 0 0)).run Tryz.prog w = .ok (.bool false) w := fun _ => rfl
    have HO : Hid ((w.alloc (.cells #[] 5)).ownsRow w.heap.size 5 1 (.slice (some ⟨w.heap.size, 0, none⟩) 0 0) 0 []) := World.ownsRow_lit w #[] 0 (Nat.le_refl _) (Nat.zero_le _) rfl
    have HC : Hid (∀ j u, xs[j]? = some u → (w.alloc (.cells #[] 5)).cell? ((⟨g, 0, none⟩ : Addr).add j) = some u) := fun j u hu => World.ownsRow.cells (hv.alloc _) rfl j u hu
    have HL : Hid (xs.length = n * 1) := hv.1
    clear hv h1 hn2 hn3
    go_enter Tryz.func43, Tryz.ntmps43
    go_wp2_with (at_builtin; refine wpList_append_own _ rfl (.tmp 5) (.tmp 6) 23 rfl w.heap.size 5 i0 _ 1 1 Tryz.underlying23 hti hz0 hz1 hz2 rfl (by decide) _ 0 [] rfl HO.out ⟨g, 0, none⟩ n cap xs rfl HL.out HC.out H1.out HN.out.1 HN.out.2 (by simp) ?_; intro v' w' ho hg _)
    rw [Nat.zero_add, List.nil_append] at ho
    have HO2 := Lib.hid ho
    have HG2 : Hid (w.grownBy w' none) := ⟨hg.os, hg.tape, hg.output, by have := hg.size; simp at this; omega, fun i hi _ => (hg.block i (by simp; omega) (own_ne hi)).trans (Below.heap_alloc _ _ _ hi)⟩
    clear ho hg
    go_wp2_with fail
    go_ret
    exact ⟨_, rfl, HO2.out, HG2.out⟩
end Go.Proofs.YtbhoeiopckmfhaaGreatDoor

namespace Go.Proofs.YtbhoeiopckmfhaaGreatDoor
open Go.RowKit Go.Shelf

attribute [local go_sem] Oper.semAt_some

theorem grown3S {w : World} (a b c : Obj) : w.grownBy (((w.alloc a).alloc b).alloc c) none := grownBy_alloc' (grownBy_alloc' (World.grownBy_alloc _ _ _) _) _
theorem read_nil (i : Int) (w : World) : Calls Tryz.prog 128 #[.pointer none, .int .i64 i] w fun e w' => e = .returned (.tuple #[.string ⟨#[]⟩, .int .i64 1]) ∧ w.grownBy w' none := by
  go_enter Tryz.func128, Tryz.ntmps128
  go_wp2_with fail
  refine (reaches_nil i _).mono ?_
  rintro e w1 ⟨rfl, rfl⟩
  go_wp2_with fail
  go_returns
  exact ⟨rfl, grown3S _ _ _⟩
theorem read_off (F : Nat → Prop) (b : Nat) (D : DiskS) (i : Int) (w : World) (hm : DiskAt F w b D) (h : D.on = false) : Calls Tryz.prog 128 #[.pointer (some ⟨b, 0, none⟩), .int .i64 i] w fun e w' => e = .returned (.tuple #[.string ⟨#[]⟩, .int .i64 8]) ∧ w.grownBy w' none := by
  have C := Lib.hid (fun w' (g : w.grownBy w' none) => reaches_at_off F b D i w' (hm.grown g) h)
  clear hm h
  go_enter Tryz.func128, Tryz.ntmps128
  go_wp2_with fail
  refine (C.out _ (grown3S _ _ _)).mono ?_
  rintro e w1 ⟨rfl, rfl⟩
  go_wp2_with fail
  go_returns
  exact ⟨rfl, grown3S _ _ _⟩
theorem read_out (F : Nat → Prop) (b : Nat) (D : DiskS) (i : Int) (w : World) (hm : DiskAt F w b D) (h : D.on = true) (hi : i < 0 ∨ (D.last.length : Int) ≤ i) : Calls Tryz.prog 128 #[.pointer (some ⟨b, 0, none⟩), .int .i64 i] w fun e w' => e = .returned (.tuple #[.string ⟨#[]⟩, .int .i64 10]) ∧ w.grownBy w' none := by
  have C := Lib.hid (fun w' (g : w.grownBy w' none) => reaches_at_out F b D i w' (hm.grown g) h hi)
  clear hm h hi
  go_enter Tryz.func128, Tryz.ntmps128
  go_wp2_with fail
  refine (C.out _ (grown3S _ _ _)).mono ?_
  rintro e w1 ⟨rfl, rfl⟩
  go_wp2_with fail
  go_returns
  exact ⟨rfl, grown3S _ _ _⟩

/-! ### slices.Backward -/
theorem wpListIn_load_mid {F : Fence} {n : Nat} {P : Program} {ops : Array Oper} {rest : List Oper} {o : Oper} {a : Act} {w : World} {Q : Exit → Act → World → Prop} (hgd : o.guard = none) (ty : TypeId) (x : Operand) (ho : o.op = .load ty x)
    (b f : Nat) (hx : a.eval x = .pointer (some ⟨b, f, none⟩)) (cs : List Value) (d : TypeDesc) (hc : w.rangeAt b f cs)
    (hu : P.underlying ty = some d) (hd : d.isRow = true) (hi : (P.info? ty).map (·.size) = some cs.length)
    (h : wpListIn F n P ops Q rest (a.put o.dst (.agg cs.toArray)) w) : wpListIn F n P ops Q (o :: rest) a w := by
  refine wpListIn_plain hgd fun K hK => ?_
  unfold Oper.wpIn
  refine ⟨?_, ?_⟩
  · simp [Oper.about, ho]
  · rw [Oper.semAt_plain F _ _ (by rw [ho]; intro c hc'; cases hc')]
    unfold execOp
    simp only [ho, hx, Instr.loadAt, Instr.sureAddr, Sem.run_bind, Sem.run_pure, Result.andThen_ok, run_loadVar_mid w b f ty cs d hc hu hd hi]
    exact hK _ _ h

/-- the k-th writing (behind the last one: noughts) -/
def ent (es : List (Nat × List UInt8)) (k : Nat) : Nat × List UInt8 := es.getD k (0, zeros 64)
theorem ent_at (es : List (Nat × List UInt8)) (k : Nat) (h : k < es.length) : ent es k = es[k] := by
  unfold ent
  rw [List.getD_eq_getElem?_getD, List.getElem?_eq_getElem h]
  rfl
theorem ent_len {N : Nat} (es : List (Nat × List UInt8)) (h : Waits N es) (k : Nat) : (ent es k).2.length = 64 := by
  by_cases hk : k < es.length
  · rw [ent_at es k hk]; exact (h _ (List.getElem_mem hk)).2
  · unfold ent; rw [List.getD_eq_getElem?_getD, List.getElem?_eq_none (by omega)]; rfl

theorem backward_any (a : Option Addr) (n c : Nat) (w : World) : Calls Tryz.prog 166 #[.slice a n c] w fun e w' => e = .returned (.func (.func 182) #[] #[.pointer (some ⟨w.heap.size, 0, none⟩)]) ∧ w.alloc (.cells #[.slice a n c] 99) = w' := by
  go_enter Tryz.func166, Tryz.ntmps166
  go_wp2_with fail
  go_ret
  exact ⟨rfl, rfl⟩

set_option maxRecDepth 100000 in
set_option maxHeartbeats 2000000 in
theorem backward1_in (F : Fence) (n : Nat) (h27 : F.fn 182) (hro : F.round = none) (hn : 1 ≤ n) (l Bs n₀ N gw cw m : Nat) (es : List (Nat × List UInt8)) (hm : es.length = m) (hes : Waits N es) (hlen : m ≤ 1000000000) (hBs : Bs < n₀) (hgw : gw < n₀) (J Jx : List Nat → World → Prop)
    (hY : ∀ pre x W, J pre W → pre.length < m → YieldAt F (n - 1) Tryz.prog l #[.int .i64 (x : Nat), .agg (wcells (ent es x)).toArray] W fun e W' =>
      (e = .returned (.bool true) ∧ J (pre ++ [x]) W' ∧ Below n₀ W W') ∨ (e = .returned (.bool false) ∧ Jx (pre ++ [x]) W'))
    (W : World) (hBc : W.cell? ⟨Bs, 0, none⟩ = some (.slice (some ⟨gw, 0, none⟩) m cw)) (hv : W.ownsRow 0 128 65 (.slice (some ⟨gw, 0, none⟩) m cw) m (wflat es)) (h0 : J [] W) :
    CallsIn F n Tryz.prog 182 #[.func (.yield l) #[] #[], .pointer (some ⟨Bs, 0, none⟩)] W fun e W' => (∃ v, e = .returned v) ∧
      ((∃ ys, ys = downs m m ∧ J ys W') ∨ (∃ pre, (∃ k, k < m ∧ pre = downs m (k + 1)) ∧ Jx pre W')) := by
  have hu61 := Tryz.underlying128
  refine callsIn_of_wp Tryz.func182 rfl h27 ?_ hro
  simp only [Tryz.ntmps182, List.size_toArray, List.length_cons, List.length_nil, Nat.reduceAdd, Nat.reduceSub, Array.replicate_succ, Array.replicate_zero, List.push_toArray, List.append_toArray, List.nil_append, List.cons_append]
  gi_wp2
  gi_loopw [3] (fun i wr => ∃ (z : Int) (r : Nat), i = .int .i64 z ∧ Hid (z = (r : Int) - 1) ∧ r ≤ m ∧ J (downs m (m - r)) wr ∧ Below n₀ W wr)
    (fun i _ => (intOf i + 1).toNat)
  case atStart => exact ⟨_, m, rfl, rfl, Nat.le_refl _, by rw [Nat.sub_self]; exact h0, Below.refl _ _⟩
  case round =>
    obtain ⟨z, r, rfl, HZ, hr, hJs, hnx⟩ := hrel
    have hBc' : wr.cell? ⟨Bs, 0, none⟩ = some (.slice (some ⟨gw, 0, none⟩) m cw) := (hnx.cell (p := ⟨Bs, 0, none⟩) hBs).trans hBc
    cases r with
    | zero =>
      obtain rfl : z = -1 := by have := HZ.out; omega
      gi_wp2
      go_end0
      exact ⟨⟨_, rfl⟩, .inl ⟨_, rfl, by simpa using hJs⟩⟩
    | succ r =>
      obtain rfl : z = (r : Int) := by have := HZ.out; omega
      have hrm : r < m := hr
      have z0 : (0 : Int) ≤ (r : Int) := by omega
      have z1 : (r : Int) < (m : Int) := by omega
      have hxl := wcells_length (ent es r) (ent_len es hes r)
      have HC : Hid (wr.rangeAt gw (r * 65) (wcells (ent es r))) := by
        intro j v hv'
        have hj : j < 65 := by rw [← hxl]; exact (List.getElem?_eq_some_iff.1 hv').1
        have h2 : (r + 1) * 65 ≤ m * 65 := Nat.mul_le_mul_right 65 hrm
        have hre : r < es.length := by omega
        rw [hnx.cell (p := ⟨gw, r * 65 + j, none⟩) hgw, World.ownsRow.cellAt hv (r * 65 + j) (by omega)]
        refine (wflat_at es hes r hre j hj).trans ?_
        rw [← ent_at es r hre]
        exact hv'
      have HI : Hid ((Tryz.prog.info? 128).map (·.size) = some (wcells (ent es r)).length) := by
        show _ = _
        rw [hxl]; kernel_rfl
      obtain ⟨fn, tmps, assign, body, hy, hR⟩ := hY _ r wr hJs (by rw [downs_length]; omega)
      clear hxl
      gi_wp2_with (refine wpListIn_load_mid (by rfl) 128 (.tmp 15) (by rfl) gw (r * 65) (by rfl) _ _ HC.out hu61 (by rfl) HI.out ?_)
      have hpre : downs m (m - (r + 1)) ++ [r] = downs m (m - r) := by
        have e1 : m - r = (m - (r + 1)) + 1 := by clear HI HC; omega
        have e2 : m - 1 - (m - (r + 1)) = r := by clear HI HC; omega
        rw [e1, downs_succ, e2]
      refine hR.mono ?_
      rintro e W3 (⟨rfl, hJ3, hk3⟩ | ⟨rfl, hJx3⟩)
      · rw [hpre] at hJ3
        gi_wp2
        go_roundw
        case rel => exact ⟨_, r, rfl, rfl, by omega, hJ3, hnx.trans hk3⟩
        case measure => simp [intOf]
      · gi_wp2
        refine bodyPost_ret (results_none rfl _ _ _) rfl ?_
        exact ⟨⟨_, rfl⟩, .inr ⟨_, ⟨m - (r + 1), by omega, by rw [hpre, show m - r = m - (r + 1) + 1 from by omega]⟩, hJx3⟩⟩

set_option maxRecDepth 100000 in
set_option maxHeartbeats 1000000 in
theorem backward0_in (F : Fence) (n : Nat) (h27 : F.fn 182) (hro : F.round = none) (l Bs : Nat) (J : List Nat → World → Prop)
    (W : World) (hBc : W.cell? ⟨Bs, 0, none⟩ = some (.slice none 0 0)) (h0 : J [] W) :
    CallsIn F n Tryz.prog 182 #[.func (.yield l) #[] #[], .pointer (some ⟨Bs, 0, none⟩)] W fun e W' => (∃ v, e = .returned v) ∧ J [] W' := by
  refine callsIn_of_wp Tryz.func182 rfl h27 ?_ hro
  simp only [Tryz.ntmps182, List.size_toArray, List.length_cons, List.length_nil, Nat.reduceAdd, Nat.reduceSub, Array.replicate_succ, Array.replicate_zero, List.push_toArray, List.append_toArray, List.nil_append, List.cons_append]
  gi_wp2
  gi_loopw [3] (fun i wr => i = .int .i64 (-1) ∧ J [] wr) (fun _ _ => 0)
  case atStart => exact ⟨rfl, h0⟩
  case round =>
    obtain ⟨rfl, hJs⟩ := hrel
    gi_wp2
    go_end0
    exact ⟨⟨_, rfl⟩, hJs⟩

/-- what a range over slices.Backward(s) hands on -/
def encW (es : List (Nat × List UInt8)) (x : Nat) : Array Value := #[.int .i64 (x : Nat), .agg (wcells (ent es x)).toArray]
theorem backward_stops (F : Fence) (n : Nat) (h27 : F.fn 182) (hro : F.round = none) (hn : 1 ≤ n) (Bs n₀ N : Nat) (v : Value) (es : List (Nat × List UInt8)) (hes : Waits N es) (hlen : es.length ≤ 1000000000) (w : World) (hBs : Bs < n₀) (hn₀ : n₀ ≤ w.heap.size)
    (hc : w.cell? ⟨Bs, 0, none⟩ = some v) (hv : w.ownsRow 0 128 65 v es.length (wflat es)) (hvn : ∀ g, v.ownBlock = some g → g < n₀) :
    SeqStopsK F n Tryz.prog 182 #[.pointer (some ⟨Bs, 0, none⟩)] (encW es) (Below n₀) (fun ys => ys = downs es.length es.length) (fun pre => ∃ k, k < es.length ∧ pre = downs es.length (k + 1)) es.length w := fun l J Jx W hW _ _ hY h0 => by
  have hc' := (hW.cell (p := ⟨Bs, 0, none⟩) (Nat.lt_of_lt_of_le hBs hn₀)).trans hc
  have hv' : W.ownsRow 0 128 65 v es.length (wflat es) := by
    refine ⟨hv.1, ?_⟩
    rcases hv.2 with h | ⟨g, cap, cur, rfl, hb, hg, r⟩
    · exact .inl h
    · refine .inr ⟨g, cap, cur, rfl, hb, ?_, r⟩
      rw [hW.block g (Array.getElem?_eq_some_iff.1 hg).1]
      exact hg
  rcases own_form hv with ⟨rfl, hz⟩ | ⟨gw, cw, rfl⟩
  · refine (backward0_in F n h27 hro l Bs J W hc' h0).mono ?_
    rintro e W' ⟨he, hj⟩
    exact ⟨he, .inl ⟨_, by rw [hz]; rfl, hj⟩⟩
  · refine (backward1_in F n h27 hro hn l Bs n₀ N gw cw es.length es rfl hes hlen hBs (hvn gw rfl) J Jx hY W hc' hv' h0).mono ?_
    rintro e W' ⟨he, ⟨ys, rfl, hj⟩ | ⟨pre, hk, hj⟩⟩
    · exact ⟨he, .inl ⟨_, rfl, hj⟩⟩
    · exact ⟨he, .inr ⟨_, hk, hj⟩⟩
end Go.Proofs.YtbhoeiopckmfhaaGreatDoor

namespace Go.Proofs.YtbhoeiopckmfhaaGreatDoor
attribute [local irreducible] shaL

def nodeS (a b : ByteArray) : ByteArray := tagS 5 [a, b]
theorem nodeS_size (a b : ByteArray) : (nodeS a b).size = 16 := tagS_size _ _
/-- the level above -/
def aboveS : List ByteArray → List ByteArray
  | a :: b :: r => nodeS a b :: aboveS r
  | _ => []
def rootS : Nat → List ByteArray → ByteArray
  | 0, l => l.headD ByteArray.empty
  | h + 1, l => rootS h (aboveS l)
def pathS : Nat → List ByteArray → Nat → List ByteArray
  | 0, _, _ => []
  | h + 1, l, i => l.getD (i ^^^ 1) ByteArray.empty :: pathS h (aboveS l) (i / 2)
def stepC (x : ByteArray) (i : Nat) (b : ByteArray) : ByteArray := if i % 2 = 1 then nodeS b x else nodeS x b
def climbS (x : ByteArray) (i : Nat) : List ByteArray → ByteArray
  | [] => x
  | b :: r => climbS (stepC x i b) (i / 2) r
/-- by halves -/
def rootH : Nat → List ByteArray → ByteArray
  | 0, l => l.headD ByteArray.empty
  | h + 1, l => nodeS (rootH h (l.take (2 ^ h))) (rootH h (l.drop (2 ^ h)))
def pathH : Nat → List ByteArray → Nat → List ByteArray
  | 0, _, _ => []
  | h + 1, l, i => if i < 2 ^ h then pathH h (l.take (2 ^ h)) i ++ [rootH h (l.drop (2 ^ h))] else pathH h (l.drop (2 ^ h)) (i - 2 ^ h) ++ [rootH h (l.take (2 ^ h))]

theorem aboveS_length : ∀ (n : Nat) (l : List ByteArray), l.length = 2 * n → (aboveS l).length = n
  | 0, [], _ => rfl
  | n + 1, a :: b :: r, h => by
    simp only [List.length_cons] at h
    rw [aboveS, List.length_cons, aboveS_length n r (by omega)]
  | 0, _ :: _, h => by simp at h
  | n + 1, [], h => by simp at h
  | n + 1, [_], h => by simp at h; omega
theorem aboveS_at : ∀ (k : Nat) (l : List ByteArray) (a b : ByteArray), l[2 * k]? = some a → l[2 * k + 1]? = some b → (aboveS l)[k]? = some (nodeS a b)
  | 0, a' :: b' :: r, a, b, h1, h2 => by
    simp at h1 h2
    subst h1; subst h2
    rfl
  | k + 1, a' :: b' :: r, a, b, h1, h2 => by
    rw [show 2 * (k + 1) = 2 * k + 1 + 1 from by omega] at h1 h2
    simp only [List.getElem?_cons_succ] at h1 h2
    rw [aboveS, List.getElem?_cons_succ]
    exact aboveS_at k r a b h1 h2
  | 0, [], _, _, h, _ => by simp at h
  | 0, [_], _, _, _, h => by simp at h
  | k + 1, [], _, _, h, _ => by simp at h
  | k + 1, [_], _, _, h, _ => by
    rw [show 2 * (k + 1) = 2 * k + 1 + 1 from by omega] at h
    simp at h
theorem aboveS_append : ∀ (n : Nat) (l m : List ByteArray), l.length = 2 * n → aboveS (l ++ m) = aboveS l ++ aboveS m
  | 0, [], m, _ => rfl
  | n + 1, a :: b :: r, m, h => by
    simp only [List.length_cons] at h
    rw [List.cons_append, List.cons_append, aboveS, aboveS, aboveS_append n r m (by omega), List.cons_append]
  | 0, _ :: _, _, h => by simp at h
  | n + 1, [], _, h => by simp at h
  | n + 1, [_], _, h => by simp at h; omega
theorem aboveS_sizes : ∀ (l : List ByteArray), ∀ s ∈ aboveS l, s.size = 16
  | a :: b :: r, s, h => by
    rw [aboveS] at h
    rcases List.mem_cons.1 h with rfl | h
    · exact nodeS_size _ _
    · exact aboveS_sizes r s h
  | [], s, h => by cases h
  | [_], s, h => by cases h
theorem aboveS_take (n : Nat) (l : List ByteArray) (h : 2 * n ≤ l.length) : (aboveS l).take n = aboveS (l.take (2 * n)) := by
  have e := aboveS_append n (l.take (2 * n)) (l.drop (2 * n)) (by rw [List.length_take]; omega)
  rw [List.take_append_drop] at e
  rw [e, List.take_append_of_le_length (by rw [aboveS_length n _ (by rw [List.length_take]; omega)]; exact Nat.le_refl _), List.take_of_length_le]
  rw [aboveS_length n _ (by rw [List.length_take]; omega)]
  exact Nat.le_refl _
theorem aboveS_drop (n : Nat) (l : List ByteArray) (h : 2 * n ≤ l.length) : (aboveS l).drop n = aboveS (l.drop (2 * n)) := by
  have e := aboveS_append n (l.take (2 * n)) (l.drop (2 * n)) (by rw [List.length_take]; omega)
  rw [List.take_append_drop] at e
  have hl := aboveS_length n (l.take (2 * n)) (by rw [List.length_take]; omega)
  rw [e, List.drop_append, List.drop_of_length_le (by omega), hl, Nat.sub_self, List.nil_append]
  rfl
theorem xor1d (i : Nat) : (i ^^^ 1) / 2 = i / 2 := by rw [Nat.xor_div_two]; simp
theorem xor1m (i : Nat) : (i ^^^ 1) % 2 = 1 - i % 2 := by
  have h : (i ^^^ 1) % 2 ^ 1 = (i % 2 ^ 1) ^^^ (1 % 2 ^ 1) := Nat.xor_mod_two_pow
  rw [Nat.pow_one] at h
  rw [h]
  have : i % 2 < 2 := Nat.mod_lt _ (by decide)
  rcases (show i % 2 = 0 ∨ i % 2 = 1 by omega) with e | e <;> rw [e] <;> rfl
theorem xor1 (i : Nat) : i ^^^ 1 = if i % 2 = 1 then i - 1 else i + 1 := by
  have h1 := xor1d i
  have h2 := xor1m i
  split <;> omega
theorem pow_succ2 (h : Nat) : 2 ^ (h + 1) = 2 * 2 ^ h := by rw [Nat.pow_succ]; omega
theorem root_halves : ∀ (h : Nat) (l : List ByteArray), l.length = 2 ^ h → rootS h l = rootH h l
  | 0, _, _ => rfl
  | 1, l, e => by
    match l, e with
    | [a, b], _ => rfl
  | h + 2, l, e => by
    have e1 : 2 ^ (h + 2) = 2 * 2 ^ (h + 1) := pow_succ2 (h + 1)
    have e2 := pow_succ2 h
    have hl : (aboveS l).length = 2 ^ (h + 1) := aboveS_length _ _ (by omega)
    rw [rootS, root_halves (h + 1) _ hl, rootH, rootH]
    have q1 : (aboveS l).take (2 ^ h) = aboveS (l.take (2 ^ (h + 1))) := by rw [e2]; exact aboveS_take _ _ (by omega)
    have q2 : (aboveS l).drop (2 ^ h) = aboveS (l.drop (2 ^ (h + 1))) := by rw [e2]; exact aboveS_drop _ _ (by omega)
    have l1 : (l.take (2 ^ (h + 1))).length = 2 ^ (h + 1) := by rw [List.length_take]; omega
    have l2 : (l.drop (2 ^ (h + 1))).length = 2 ^ (h + 1) := by rw [List.length_drop]; omega
    rw [q1, q2, ← root_halves h _ (aboveS_length _ _ (by omega)), ← root_halves h _ (aboveS_length _ _ (by omega))]
    show nodeS (rootS (h + 1) _) (rootS (h + 1) _) = _
    rw [root_halves (h + 1) _ l1, root_halves (h + 1) _ l2]
theorem pathS_length (h : Nat) : ∀ (l : List ByteArray) (i : Nat), (pathS h l i).length = h := by
  induction h with
  | zero => intro l i; rfl
  | succ h ih => intro l i; rw [pathS, List.length_cons, ih]
theorem pathH_length (h : Nat) : ∀ (l : List ByteArray) (i : Nat), (pathH h l i).length = h := by
  induction h with
  | zero => intro l i; rfl
  | succ h ih => intro l i; rw [pathH]; split <;> simp [ih]
theorem path_halves : ∀ (h : Nat) (l : List ByteArray) (i : Nat), l.length = 2 ^ h → i < 2 ^ h → pathS h l i = pathH h l i
  | 0, _, _, _, _ => rfl
  | 1, l, i, e, hi => by
    match l, e, i, hi with
    | [a, b], _, 0, _ => rfl
    | [a, b], _, 1, _ => rfl
  | h + 2, l, i, e, hi => by
    have e1 : 2 ^ (h + 2) = 2 * 2 ^ (h + 1) := pow_succ2 (h + 1)
    have e2 := pow_succ2 h
    have p1 : (0 : Nat) < 2 ^ h := Nat.pow_pos (by decide)
    have hl : (aboveS l).length = 2 ^ (h + 1) := aboveS_length _ _ (by omega)
    have q1 : (aboveS l).take (2 ^ h) = aboveS (l.take (2 ^ (h + 1))) := by rw [e2]; exact aboveS_take _ _ (by omega)
    have q2 : (aboveS l).drop (2 ^ h) = aboveS (l.drop (2 ^ (h + 1))) := by rw [e2]; exact aboveS_drop _ _ (by omega)
    have l1 : (l.take (2 ^ (h + 1))).length = 2 ^ (h + 1) := by rw [List.length_take]; omega
    have l2 : (l.drop (2 ^ (h + 1))).length = 2 ^ (h + 1) := by rw [List.length_drop]; omega
    have m1 : min (2 ^ (h + 1)) l.length = 2 ^ (h + 1) := by omega
    have la1 : (aboveS (l.take (2 ^ (h + 1)))).length = 2 ^ h := aboveS_length _ _ (by omega)
    have la2 : (aboveS (l.drop (2 ^ (h + 1)))).length = 2 ^ h := aboveS_length _ _ (by omega)
    have x1 : i ^^^ 1 < 2 ^ (h + 1) ↔ i < 2 ^ (h + 1) := by
      have := xor1d i
      have := xor1m i
      omega
    rw [pathS, path_halves (h + 1) _ _ hl (by omega), pathH, pathH]
    by_cases hlt : i < 2 ^ (h + 1)
    · rw [if_pos (by omega), if_pos hlt, q1, q2, ← path_halves (h + 1) _ i l1 hlt, pathS, ← path_halves h _ (i / 2) la1 (by omega)]
      rw [List.cons_append]
      congr 1
      · rw [List.getD_eq_getElem?_getD, List.getD_eq_getElem?_getD, List.getElem?_take, if_pos (x1.2 hlt)]
      · congr 2
        rw [← root_halves h _ la2, ← root_halves (h + 1) _ l2]
        rfl
    · rw [if_neg (by omega), if_neg hlt, q1, q2, ← path_halves (h + 1) _ (i - 2 ^ (h + 1)) l2 (by omega), pathS, show i / 2 - 2 ^ h = (i - 2 ^ (h + 1)) / 2 from by omega, ← path_halves h _ ((i - 2 ^ (h + 1)) / 2) la2 (by omega)]
      rw [List.cons_append]
      congr 1
      · rw [List.getD_eq_getElem?_getD, List.getD_eq_getElem?_getD, List.getElem?_drop]
        have y1 := xor1d i
        have y2 := xor1d (i - 2 ^ (h + 1))
        have y3 := xor1m i
        have y4 := xor1m (i - 2 ^ (h + 1))
        rw [show 2 ^ (h + 1) + ((i - 2 ^ (h + 1)) ^^^ 1) = i ^^^ 1 from by omega]
      · congr 2
        rw [← root_halves h _ la1, ← root_halves (h + 1) _ l1]
        rfl
theorem climb_path : ∀ (h : Nat) (l : List ByteArray) (i : Nat) (x : ByteArray), l.length = 2 ^ h → l[i]? = some x → climbS x i (pathS h l i) = rootS h l
  | 0, l, i, x, e, hx => by
    match l, e, i, hx with
    | [a], _, 0, hx => simp at hx; subst hx; rfl
    | [a], _, i + 1, hx => simp at hx
  | h + 1, l, i, x, e, hx => by
    have e1 := pow_succ2 h
    have hi := (List.getElem?_eq_some_iff.1 hx).1
    rw [pathS, climbS, rootS]
    refine climb_path h _ _ _ (aboveS_length _ _ (by omega)) ?_
    have y := xor1 i
    unfold stepC
    by_cases h2 : i % 2 = 1
    · rw [if_pos h2] at y ⊢
      have hy : i - 1 < l.length := by omega
      rw [y, List.getD_eq_getElem?_getD, List.getElem?_eq_getElem hy]
      refine aboveS_at _ _ _ _ ?_ ?_
      · rw [show 2 * (i / 2) = i - 1 from by omega, List.getElem?_eq_getElem hy]; rfl
      · rw [show 2 * (i / 2) + 1 = i from by omega, hx]
    · rw [if_neg h2] at y ⊢
      have hy : i + 1 < l.length := by omega
      rw [y, List.getD_eq_getElem?_getD, List.getElem?_eq_getElem hy]
      refine aboveS_at _ _ _ _ ?_ ?_
      · rw [show 2 * (i / 2) = i from by omega, hx]
      · rw [show 2 * (i / 2) + 1 = i + 1 from by omega, List.getElem?_eq_getElem hy]; rfl
theorem rootS_size : ∀ (h : Nat) (l : List ByteArray) (N : Nat), 16 ≤ N → (∀ s ∈ l, s.size ≤ N) → (rootS h l).size ≤ N
  | 0, [], N, _, _ => by simp [rootS]
  | 0, a :: _, N, _, h => h a (by simp)
  | h + 1, l, N, h16, _ => rootS_size h _ N h16 (fun s hs => by rw [aboveS_sizes _ s hs]; exact h16)
theorem pathS_sizes : ∀ (h : Nat) (l : List ByteArray) (i N : Nat), 16 ≤ N → (∀ s ∈ l, s.size ≤ N) → ∀ s ∈ pathS h l i, s.size ≤ N
  | 0, _, _, _, _, _, s, hs => by cases hs
  | h + 1, l, i, N, h16, hl, s, hs => by
    rw [pathS] at hs
    rcases List.mem_cons.1 hs with rfl | hs
    · rw [List.getD_eq_getElem?_getD]
      cases hx : l[i ^^^ 1]? with
      | none => simp
      | some y => exact hl y (List.mem_of_getElem? hx)
    · exact pathS_sizes h _ _ N h16 (fun s hs => by rw [aboveS_sizes _ s hs]; exact h16) s hs
end Go.Proofs.YtbhoeiopckmfhaaGreatDoor

namespace Go.Proofs.YtbhoeiopckmfhaaGreatDoor
open Go.RowKit

theorem bcount_in (d : Nat) (hd : d ≤ 4) (w : World) : Calls Tryz.prog 29 #[.int .i64 d] w fun e w' => e = .returned (.int .i64 (2 ^ d : Nat)) ∧ w = w' := by
  have d1 : ¬ (d : Int) < 0 := by omega
  have d2 : ¬ (d : Int) > 4 := by omega
  have d3 : (0 : Int) ≤ (d : Int) := by omega
  match d, hd with
  | 0, _ | 1, _ | 2, _ | 3, _ | 4, _ =>
    clear d1 d2 d3
    go_enter Tryz.func29, Tryz.ntmps29
    go_wp2_with fail
    go_ret
    exact ⟨rfl, rfl⟩
theorem bcount_out (z : Int) (hz : z < 0 ∨ z > 4) (w : World) : Calls Tryz.prog 29 #[.int .i64 z] w fun e w' => e = .returned (.int .i64 0) ∧ w = w' := by
  rcases Int.lt_or_le z 0 with h | h
  · clear hz
    go_enter Tryz.func29, Tryz.ntmps29
    go_wp2_with fail
    go_ret
    exact ⟨rfl, rfl⟩
  · have h2 : ¬ z < 0 := by omega
    have h3 : z > 4 := by omega
    clear hz h
    go_enter Tryz.func29, Tryz.ntmps29
    go_wp2_with fail
    go_ret
    exact ⟨rfl, rfl⟩
end Go.Proofs.YtbhoeiopckmfhaaGreatDoor
