/- The walk of Fuse. -/
import Derived.Test.YtfomchkmedoenaaSecSync
namespace Go.Proofs.Ytfomchkmedoenaa
open Go.RowKit

set_option maxRecDepth 100000 in
set_option maxHeartbeats 1000000 in
theorem clone_any (a : Option Addr) (n c : Nat) (l : List UInt8) (w : World) (hb : BytesAt w (.slice a n c) l) (hn : n ≤ 140737488351232) :
    Calls Try.prog 22 #[.slice a n c] w fun e w' => ∃ v', e = .returned v' ∧ w'.ownsRow w.heap.size 5 1 v' l.length (bytesV l) ∧ w.grownBy w' none := by
  obtain ⟨i0, hti, hz0, hz1, hz2⟩ := info_parts infoB
  have hl : l.length = n := by obtain ⟨_, _, e, _⟩ := hb; injection e with _ e _; exact e.symm
  cases a with
  | none =>
    have hx : l = [] := by
      cases l with
      | nil => rfl
      | cons x r => obtain ⟨a', c', e, h⟩ := hb; obtain ⟨g, o, e2, _⟩ := h 0 (by simp); injection e with e1 _ _; rw [← e1] at e2; cases e2
    subst hx
    have he : ∀ w : World, (binOp .eql 32 (.slice none n c) (.slice none 0 0)).run Try.prog w = .ok (.bool true) w := fun _ => rfl
    clear hb hl
    go_enter Try.func22, Try.ntmps22
    go_wp2_with fail
    go_ret
    exact ⟨_, rfl, World.ownsRow_nil _ _ _ _, World.grownBy.refl _ _⟩
  | some ad =>
    have hn2 : 0 + n ≤ maxLen := by unfold maxLen; omega
    have hn3 : (0 + n) * 1 ≤ 140737488355328 := by omega
    have HN := Lib.hid (And.intro hn2 hn3)
    have he : ∀ w : World, (binOp .eql 32 (.slice (some ad) n c) (.slice none 0 0)).run Try.prog w = .ok (.bool false) w := fun _ => rfl
    have HO : Hid ((w.alloc (.cells #[] 5)).ownsRow w.heap.size 5 1 (.slice (some ⟨w.heap.size, 0, none⟩) 0 0) 0 []) := World.ownsRow_lit w #[] 0 (Nat.le_refl _) (Nat.zero_le _) rfl
    have HC : Hid (∀ j u, (bytesV l)[j]? = some u → (w.alloc (.cells #[] 5)).cell? (ad.add j) = some u) := by
      intro j u hu
      have hj : j < l.length := by rw [← bytesV_length]; exact (List.getElem?_eq_some_iff.1 hu).1
      obtain ⟨a', c', e, h⟩ := hb
      injection e with e1 _ _
      obtain ⟨g, o, e2, hc⟩ := h j hj
      rw [← e1] at e2
      injection e2 with e2
      subst e2
      rw [addr_add]
      have hlt := cell_lt hc
      rw [World.cell?_alloc_lt _ _ _ hlt, hc]
      rw [← hu]
      simp [bytesV, List.getElem?_eq_getElem hj]
    have HL : Hid ((bytesV l).length = n * 1) := by show _ = _; rw [bytesV_length, hl, Nat.mul_one]
    have H1 : Hid (∀ u ∈ bytesV l, u.oneCell' = true) := bytesV_one l
    have HLL := Lib.hid hl
    clear hb hn2 hn3 hl
    go_enter Try.func22, Try.ntmps22
    go_wp2_with (at_builtin; refine wpList_append_own _ rfl (.tmp 5) (.tmp 6) 32 rfl w.heap.size 5 i0 _ 1 1 Try.underlying32 hti hz0 hz1 hz2 rfl (by decide) _ 0 [] rfl HO.out ad n c (bytesV l) rfl HL.out HC.out H1.out HN.out.1 HN.out.2 (by simp) ?_; intro v' w' ho hg _)
    rw [Nat.zero_add, List.nil_append] at ho
    have HO2 := Lib.hid ho
    have HG2 : Hid (w.grownBy w' none) := ⟨hg.os, hg.tape, hg.output, by have := hg.size; simp at this; omega, fun i hi _ => (hg.block i (by simp; omega) (own_ne hi)).trans (Below.heap_alloc _ _ _ hi)⟩
    clear ho hg
    go_wp2_with fail
    go_ret
    exact ⟨_, rfl, by rw [HLL.out]; exact HO2.out, HG2.out⟩

def fuseD (D : DiskS) (n : Int) (ks : List UInt8) : DiskS := if 0 ≤ n then { D with fuse := n, keep := ks } else { D with fuse := -1, keep := [] }
set_option maxRecDepth 100000 in
set_option maxHeartbeats 1000000 in
theorem fuse_at0 (F : Nat → Prop) (b : Nat) (D : DiskS) (n : Int) (a : Option Addr) (m c : Nat) (ks : List UInt8) (w : World) (hm : DiskAt F w b D) (hb : BytesAt w (.slice a m c) ks) (hml : m ≤ 140737488351232) (hab : 0 < m → ∀ g o, a = some ⟨g, o, none⟩ → g ≠ b) :
    Calls Try.prog 11 #[.pointer (some ⟨b, 0, none⟩), .int .i64 n, .slice a m c] w fun e w' => e = .returned (.tuple #[]) ∧ DiskAt (grow F w w') w' b (fuseD D n ks) ∧ Turn F w w' := by
  obtain ⟨lv, wv, kv, M, f1, f2, f3, f4⟩ := hm
  have e3 : w.cell? ⟨b, 3, none⟩ = some (.int .i64 D.fuse) := by rw [cell_of M.disk]; rfl
  have e4 : w.cell? ⟨b, 4, none⟩ = some kv := by rw [cell_of M.disk]; rfl
  have g3 : w.frozen? ⟨b, 3, none⟩ = false := free_of M.disk 3
  have g4 : w.frozen? ⟨b, 4, none⟩ = false := free_of M.disk 4
  obtain ⟨w1, hW1⟩ : ∃ w1, (w.setCell ⟨b, 3, none⟩ (.int .i64 (-1))).setCell ⟨b, 4, none⟩ (.slice none 0 0) = w1 := ⟨_, rfl⟩
  have t1 : Turn (fun i => i = b) w w1 := by rw [← hW1]; exact ((Turn.refl (fun i => i = b) w).setCell (fun _ => rfl) _ _).setCell (fun _ => rfl) _ _
  have hd1 : w1.heap[b]? = some (.cells #[lv, wv, .bool D.on, .int .i64 (-1), .slice none 0 0] 49 (0, 0)) := by rw [← hW1]; exact heap_setCell (heap_setCell M.disk 3 _) 4 _
  have m1 : DiskMem w1 b { D with fuse := -1, keep := [] } lv wv (.slice none 0 0) :=
    ⟨hd1, own_turn M.last t1 (fun g e q => M.lb (by rw [e, q])), own_turn M.wait t1 (fun g e q => M.wb (by rw [e, q])), World.ownsRow_nil _ _ _ _, M.secs, M.waits, M.lb, M.wb, by simp [Value.ownBlock], M.lw, fun _ _ => by simp [Value.ownBlock], fun _ _ => by simp [Value.ownBlock]⟩
  have hb1 : BytesAt w1 (.slice a m c) ks := by
    obtain ⟨a', c', e, h⟩ := hb
    refine ⟨a', c', e, fun i hi => ?_⟩
    obtain ⟨g, o, e2, hc⟩ := h i hi
    injection e with e1 e3 _
    exact ⟨g, o, e2, by rw [t1.cell (cell_lt hc) (fun q => hab (by omega) g o (by rw [e1, e2]) q)]; exact hc⟩
  have M1 := Lib.hid m1
  have T1 := Lib.hid t1
  have HB1 := Lib.hid hb1
  have HD1 := Lib.hid hd1
  have HW1 := Lib.hid hW1
  by_cases hn : 0 ≤ n
  · have hfd : fuseD D n ks = { D with fuse := n, keep := ks } := if_pos hn
    rw [hfd]
    clear M hb m1 t1 hb1 hd1 hW1 hfd
    go_enter Try.func11, Try.ntmps11
    go_wp2_with fail
    rw [HW1.out]
    refine (clone_any a m c ks w1 HB1.out hml).mono ?_
    rintro e w2 ⟨v2, rfl, ho2, g2⟩
    obtain ⟨a2, n2, c2, rfl⟩ : ∃ a n c, v2 = .slice a n c := by rcases own_form ho2 with ⟨rfl, _⟩ | ⟨_, _, rfl⟩ <;> exact ⟨_, _, _, rfl⟩
    have hd2 : w2.heap[b]? = _ := (g2.block b M1.out.lt (by simp)).trans HD1.out
    have e3 : w2.cell? ⟨b, 3, none⟩ = some (.int .i64 (-1)) := by rw [cell_of hd2]; rfl
    have e4 : w2.cell? ⟨b, 4, none⟩ = some (.slice none 0 0) := by rw [cell_of hd2]; rfl
    have g3 := free_of hd2 3
    have g4 := free_of hd2 4
    have HD2 := Lib.hid hd2
    have HO2 := Lib.hid ho2
    have T2 := Lib.hid (T1.out.grown g2)
    have M2 := Lib.hid (M1.out.turn (S := fun _ => False) (Turn.of_grown g2) (fun q => q) (fun _ _ q => q) (fun _ _ q => q) (fun _ _ q => q))
    have HS := Lib.hid (And.intro T1.out.size g2.size)
    clear hd2 ho2 g2
    go_wp2_with fail
    go_end0
    have t : Turn (fun i => i = b) w2 ((w2.setCell ⟨b, 3, none⟩ (.int .i64 n)).setCell ⟨b, 4, none⟩ (.slice a2 n2 c2)) := ((Turn.refl (fun i => i = b) w2).setCell (fun _ => rfl) _ _).setCell (fun _ => rfl) _ _
    have hm := M2.out
    have hfr : ∀ g, (Value.slice a2 n2 c2).ownBlock = some g → w1.heap.size ≤ g ∧ g < w2.heap.size := fun g e => HO2.out.lt g e
    have hs := HS.out
    have hlt1 := M1.out.lt
    refine ⟨rfl, ⟨lv, wv, _, ⟨heap_setCell (heap_setCell HD2.out 3 _) 4 _, own_turn hm.last t (fun g e q => hm.lb (by rw [e, q])), own_turn hm.wait t (fun g e q => hm.wb (by rw [e, q])), own_turn (own_base0 HO2.out) t (fun g e q => by have := hfr g e; omega), hm.secs, hm.waits, hm.lb, hm.wb, fun e => by have := hfr b e; omega, hm.lw, fun g e q => by have := hfr g q; have := (M1.out.last.lt g e).2; omega, fun g e q => by have := hfr g q; have := (M1.out.wait.lt g e).2; omega⟩, .inl f1, fun g e => .inl (f2 g e), fun g e => .inl (f3 g e), fun g e => .inr ⟨by have := hfr g e; omega, by have := hfr g e; rw [size_setCell, size_setCell]; omega⟩⟩, ?_⟩
    exact (T2.out.then t).mono (fun i _ e => by rw [e]; exact f1)
  · have hfd : fuseD D n ks = { D with fuse := -1, keep := [] } := if_neg hn
    rw [hfd]
    clear M hb m1 t1 hb1 hd1 hW1 hfd
    go_enter Try.func11, Try.ntmps11
    go_wp2_with fail
    go_end0
    rw [HW1.out]
    exact ⟨rfl, ⟨_, _, _, M1.out, .inl f1, fun g e => .inl (f2 g e), fun g e => .inl (f3 g e), fun g e => by simp [Value.ownBlock] at e⟩, T1.out.mono (fun i _ e => by rw [e]; exact f1)⟩
theorem fuse_at (F : Nat → Prop) (b : Nat) (D : DiskS) (n : Int) (a : Option Addr) (m c : Nat) (ks : List UInt8) (w : World) (hm : DiskAt F w b D) (hb : BytesAt w (.slice a m c) ks) (hml : m ≤ 140737488351232) (hab : ∀ g o, a = some ⟨g, o, none⟩ → g ≠ b) :
    Calls Try.prog 11 #[.pointer (some ⟨b, 0, none⟩), .int .i64 n, .slice a m c] w fun e w' => e = .returned (.tuple #[]) ∧ DiskAt (grow F w w') w' b (fuseD D n ks) ∧ Turn F w w' :=
  fuse_at0 F b D n a m c ks w hm hb hml (fun _ => hab)
end Go.Proofs.Ytfomchkmedoenaa
