/- What burns; Start, On, Count of a disk; Write. -/
import Derived.Test.YtfomchkmedoenaaSecD
import Derived.Deep.AppendLies
import Derived.Lib.BufferWrite
namespace Go.Proofs.Ytfomchkmedoenaa
open Go.RowKit

theorem bytes_own {w : World} {v : Value} {n : Nat} {l : List UInt8} (h : w.ownsRow 0 5 1 v n (bytesV l)) : BytesAt w v l ∧ ∀ g o a c, v = .slice a n c → a = some ⟨g, o, none⟩ → v.ownBlock = some g := by
  have hl : l.length = n := by have := h.1; rw [bytesV_length] at this; omega
  subst hl
  rcases own_form h with ⟨rfl, h0⟩ | ⟨g, cap, rfl⟩
  · exact ⟨⟨none, 0, by rw [h0], fun i hi => by omega⟩, fun g o a c e e2 => by injection e with e1 _ _; rw [← e1] at e2; cases e2⟩
  · refine ⟨⟨_, cap, rfl, fun i hi => ⟨g, 0, rfl, ?_⟩⟩, fun g o a c e e2 => by cases e; cases e2; rfl⟩
    rw [Nat.zero_add, World.ownsRow.cellAt h i (by omega)]
    simp [bytesV, List.getElem?_eq_getElem hi]

theorem burns_none (F : Nat → Prop) (b : Nat) (D : DiskS) (w : World) (hm : DiskAt F w b D) (h : D.fuse < 0) : Calls Try.prog 21 #[.pointer (some ⟨b, 0, none⟩)] w fun e w' => e = .returned (.bool false) ∧ w = w' := by
  obtain ⟨lv, wv, kv, m, f1, f2, f3, f4⟩ := hm
  have e3 : w.cell? ⟨b, 3, none⟩ = some (.int .i64 D.fuse) := by rw [cell_of m.disk]; rfl
  have e5 : (D.fuse == 0) = false := by simp; omega
  have e6 : ¬ (0 : Int) < D.fuse := by omega
  clear m
  go_enter Try.func21, Try.ntmps21
  go_wp2_with fail
  go_ret
  exact ⟨rfl, rfl⟩
theorem burns_some (F : Nat → Prop) (b : Nat) (D : DiskS) (w : World) (hm : DiskAt F w b D) (h : 0 < D.fuse) (h2 : D.fuse ≤ 9223372036854775807) : Calls Try.prog 21 #[.pointer (some ⟨b, 0, none⟩)] w fun e w' => e = .returned (.bool false) ∧
    DiskAt F w' b { D with fuse := D.fuse - 1 } ∧ Turn (fun i => i = b) w w' := by
  obtain ⟨lv, wv, kv, m, f1, f2, f3, f4⟩ := hm
  have e3 : w.cell? ⟨b, 3, none⟩ = some (.int .i64 D.fuse) := by rw [cell_of m.disk]; rfl
  have g3 : w.frozen? ⟨b, 3, none⟩ = false := free_of m.disk 3
  have e5 : (D.fuse == 0) = false := by simp; omega
  have e6 : (0 : Int) < D.fuse := by omega
  have M := Lib.hid m
  clear m
  go_enter Try.func21, Try.ntmps21
  go_wp2_with fail
  go_ret
  have t : Turn (fun i => i = b) w (w.setCell ⟨b, 3, none⟩ (.int .i64 (D.fuse - 1))) := (Turn.refl (fun i => i = b) w).setCell (fun _ => rfl) _ _
  exact ⟨rfl, ⟨lv, wv, kv, M.out.setHead t (on := D.on) (heap_setCell M.out.disk 3 _), f1, f2, f3, f4⟩, t⟩
theorem burns_cut (F : Nat → Prop) (b : Nat) (D : DiskS) (w : World) (hm : DiskAt F w b D) (h0 : 0 < D.last.length) (h : D.fuse = 0) (hkl : D.keep.length ≤ 9223372036854775807) (hwl : D.wait.length ≤ 1000000000000) : Calls Try.prog 21 #[.pointer (some ⟨b, 0, none⟩)] w fun e w' => e = .returned (.bool true) ∧
    DiskAt F w' b (cutD D D.keep) ∧ Turn F w w' := by
  obtain ⟨lv, wv, kv, m, f1, f2, f3, f4⟩ := hm
  have e3 : w.cell? ⟨b, 3, none⟩ = some (.int .i64 0) := by rw [cell_of m.disk, h]; rfl
  have e4 : w.cell? ⟨b, 4, none⟩ = some kv := by rw [cell_of m.disk]; rfl
  obtain ⟨hb, hob⟩ := bytes_own m.keep
  have hb' := hb
  obtain ⟨ka, kc, rfl, _⟩ := hb'
  have C := Lib.hid (cut_mem b D lv wv _ ka kc D.keep w m h0 hb hkl hwl (fun _ g o e => by
    have := hob g o ka kc rfl e
    exact ⟨fun q => m.lk g q this, fun q => m.kb (by rw [this, q])⟩))
  clear m h
  go_enter Try.func21, Try.ntmps21
  go_wp2_with fail
  refine C.out.mono ?_
  rintro e w1 ⟨rfl, hd, t⟩
  have HD := Lib.hid hd
  have T := Lib.hid t
  clear hd t
  go_wp2_with fail
  go_ret
  exact ⟨rfl, ⟨_, _, _, HD.out, f1, f2, by simp [Value.ownBlock], by simp [Value.ownBlock]⟩, T.out.mono (fun i _ e => by rcases e with rfl | e; exact f1; exact f2 _ e)⟩

theorem count_at (F : Nat → Prop) (b : Nat) (D : DiskS) (w : World) (hm : DiskAt F w b D) : Calls Try.prog 17 #[.pointer (some ⟨b, 0, none⟩)] w fun e w' => e = .returned (.int .i64 (D.last.length : Nat)) ∧ w = w' := by
  obtain ⟨lv, wv, kv, m, f1, f2, f3, f4⟩ := hm
  rcases own_form m.last with ⟨rfl, h0⟩ | ⟨g, cap, rfl⟩
  · rw [h0]; exact count_cell b none 0 0 w (by rw [cell_of m.disk]; rfl)
  · exact count_cell b _ _ _ w (by rw [cell_of m.disk]; rfl)
theorem reaches_at_off (F : Nat → Prop) (b : Nat) (D : DiskS) (i : Int) (w : World) (hm : DiskAt F w b D) (h : D.on = false) : Calls Try.prog 18 #[.pointer (some ⟨b, 0, none⟩), .int .i64 i] w fun e w' => e = .returned (.int .i64 8) ∧ w = w' := by
  obtain ⟨lv, wv, kv, m, f1, f2, f3, f4⟩ := hm
  exact reaches_off b i w (by rw [cell_of m.disk, ← h]; rfl)
theorem reaches_at_out (F : Nat → Prop) (b : Nat) (D : DiskS) (i : Int) (w : World) (hm : DiskAt F w b D) (h : D.on = true) (hi : i < 0 ∨ (D.last.length : Int) ≤ i) : Calls Try.prog 18 #[.pointer (some ⟨b, 0, none⟩), .int .i64 i] w fun e w' => e = .returned (.int .i64 10) ∧ w = w' := by
  obtain ⟨lv, wv, kv, m, f1, f2, f3, f4⟩ := hm
  rcases own_form m.last with ⟨rfl, h0⟩ | ⟨g, cap, rfl⟩
  · rw [h0] at hi; exact reaches_out b i none 0 0 w (by rw [cell_of m.disk, ← h]; rfl) (by rw [cell_of m.disk]; rfl) hi
  · exact reaches_out b i _ _ _ w (by rw [cell_of m.disk, ← h]; rfl) (by rw [cell_of m.disk]; rfl) hi
theorem reaches_at_ok (F : Nat → Prop) (b : Nat) (D : DiskS) (i : Nat) (w : World) (hm : DiskAt F w b D) (h : D.on = true) (hi : i < D.last.length) : Calls Try.prog 18 #[.pointer (some ⟨b, 0, none⟩), .int .i64 i] w fun e w' => e = .returned (.int .i64 0) ∧ w = w' := by
  obtain ⟨lv, wv, kv, m, f1, f2, f3, f4⟩ := hm
  rcases own_form m.last with ⟨rfl, h0⟩ | ⟨g, cap, rfl⟩
  · omega
  · exact reaches_ok b i _ _ _ w (by rw [cell_of m.disk, ← h]; rfl) (by rw [cell_of m.disk]; rfl) hi
end Go.Proofs.Ytfomchkmedoenaa
