/- Cut, whole; what burns; Start, On, Count of a disk. -/
import Derived.Test.YtfomchkmedoenaaSecC
namespace Go.Proofs.Ytfomchkmedoenaa
open Go.RowKit

set_option maxHeartbeats 1000000 in
set_option maxRecDepth 100000 in
theorem cut_core0 (b gl cl : Nat) (D : DiskS) (kv : Value) (ka : Option Addr) (kc n : Nat) (w : World)
    (hm : DiskMem w b D (.slice (some ⟨gl, 0, none⟩) D.last.length cl) (.slice none 0 0) kv) (hkl : n ≤ 9223372036854775807) :
    Calls Try.prog 12 #[.pointer (some ⟨b, 0, none⟩), .slice ka n kc] w fun e w' => e = .returned (.tuple #[]) ∧
      DiskMem w' b ⟨D.last, [], false, -1, []⟩ (.slice (some ⟨gl, 0, none⟩) D.last.length cl) (.slice none 0 0) (.slice none 0 0) ∧ Turn (fun i => i = b) w w' := by
  have HM := Lib.hid hm
  have c1 : w.cell? ⟨b, 1, none⟩ = some (.slice none 0 0) := by rw [cell_of hm.disk]; rfl
  clear hm
  go_enter Try.func12, Try.ntmps12
  go_upto_region 1 with (fail)
  go_cut [21, 22, 23] (fun v21 v22 v23 wx => v21 = .slice none 0 0 ∧ v22 = .int .i64 0 ∧ v23 = .int .i64 0 ∧ Hid (∃ q, w.drewN q = wx))
  case first =>
    by_cases hnm : n = 0
    · subst hnm
      go_region
      all_goals
        go_wp2_with fail
        go_meet
        case rel => exact ⟨rfl, rfl, rfl, 1, rfl⟩
    · have b4 : ¬ (n : Int) ≤ 0 := by omega
      have b5 : (0 : Int) < (n : Int) := by omega
      go_region
      all_goals
        go_wp2_with fail
        go_meet
        case rel => exact ⟨rfl, rfl, rfl, 1, rfl⟩
  case rest =>
    obtain ⟨rfl, rfl, rfl, HG0⟩ := hcut
    obtain ⟨nq, hnq⟩ := HG0.out
    have HD := Lib.hid (show DiskMem wc b D (.slice (some ⟨gl, 0, none⟩) D.last.length cl) (.slice none 0 0) kv from by
      rw [← hnq]; exact ⟨HM.out.disk, HM.out.last, HM.out.wait, HM.out.keep, HM.out.secs, HM.out.waits, HM.out.lb, HM.out.wb, HM.out.kb, HM.out.lw, HM.out.lk, HM.out.wk⟩)
    have HT : Hid (Turn (fun i => i = b) w wc) := by rw [← hnq]; exact ⟨rfl, rfl, rfl, Nat.le_refl _, fun _ _ _ => rfl⟩
    clear hnq HG0
    go_wp2_with fail
    go_loopw [4, 5, 6, 23] (fun _ _ _ iv wr => iv = .int .i64 0 ∧ Hid (wc = wr)) (fun _ _ _ _ _ => 0)
    case atStart => exact ⟨rfl, rfl⟩
    case round =>
      obtain ⟨rfl, HW⟩ := hrel
      obtain rfl := HW.out
      have hhd := HD.out.disk
      have f0 := fun j => free_of hhd j
      have e1 : wc.cell? ⟨b, 1, none⟩ = some (.slice none 0 0) := by rw [cell_of hhd]; rfl
      have e2 : wc.cell? ⟨b, 2, none⟩ = some (.bool D.on) := by rw [cell_of hhd]; rfl
      have e3 : wc.cell? ⟨b, 3, none⟩ = some (.int .i64 D.fuse) := by rw [cell_of hhd]; rfl
      have e4 : wc.cell? ⟨b, 4, none⟩ = some kv := by rw [cell_of hhd]; rfl
      have HH := Lib.hid hhd
      clear hhd HW
      go_wp2_with fail
      go_end0
      refine ⟨rfl, ?_⟩
      have t : Turn (fun i => i = b) wc ((((wc.setCell ⟨b, 1, none⟩ (.slice none 0 0)).setCell ⟨b, 2, none⟩ (.bool false)).setCell ⟨b, 3, none⟩ (.int .i64 (-1))).setCell ⟨b, 4, none⟩ (.slice none 0 0)) :=
        ((((Turn.refl (fun i => i = b) wc).setCell (fun _ => rfl) _ _).setCell (fun _ => rfl) _ _).setCell (fun _ => rfl) _ _).setCell (fun _ => rfl) _ _
      have hm := HD.out
      exact ⟨⟨heap_setCell (heap_setCell (heap_setCell (heap_setCell HH.out 1 _) 2 _) 3 _) 4 _, own_turn hm.last t (fun g e q => hm.lb (by rw [e, q])), World.ownsRow_nil _ _ _ _, World.ownsRow_nil _ _ _ _, hm.secs, fun x hx => by simp at hx, hm.lb, by simp [Value.ownBlock], by simp [Value.ownBlock], fun _ _ => by simp [Value.ownBlock], fun _ _ => by simp [Value.ownBlock], fun _ _ => by simp [Value.ownBlock]⟩, HT.out.then t⟩

/-- a Cut with bytes that lie elsewhere -/
def cutD (D : DiskS) (ks : List UInt8) : DiskS := ⟨cutL D.last D.wait ks, [], false, -1, []⟩
theorem cut_mem (b : Nat) (D : DiskS) (lv wv kv : Value) (ka : Option Addr) (kc : Nat) (ks : List UInt8) (w : World) (hm : DiskMem w b D lv wv kv) (h0 : 0 < D.last.length)
    (hk : BytesAt w (.slice ka ks.length kc) ks) (hkl : ks.length ≤ 9223372036854775807) (hwl : D.wait.length ≤ 1000000000000) (hkg : 0 < ks.length → ∀ g o, ka = some ⟨g, o, none⟩ → lv.ownBlock ≠ some g ∧ g ≠ b) :
    Calls Try.prog 12 #[.pointer (some ⟨b, 0, none⟩), .slice ka ks.length kc] w fun e w' => e = .returned (.tuple #[]) ∧
      DiskMem w' b (cutD D ks) lv (.slice none 0 0) (.slice none 0 0) ∧ Turn (fun i => i = b ∨ lv.ownBlock = some i) w w' := by
  rcases own_form hm.last with ⟨_, h⟩ | ⟨gl, cl, rfl⟩
  · omega
  rcases own_form hm.wait with ⟨rfl, hw0⟩ | ⟨gw, cw, rfl⟩
  · refine (cut_core0 b gl cl D kv ka kc ks.length w hm hkl).mono ?_
    rintro e w' ⟨rfl, h, t⟩
    have e : D.wait = [] := List.eq_nil_of_length_eq_zero hw0
    refine ⟨rfl, ?_, t.mono (fun i _ e => .inl e)⟩
    unfold cutD
    rw [e, cutL]
    exact h
  · refine (cut_core b gl cl gw cw D kv ka kc ks w hm hk hkl hwl (fun hp g o e => ⟨fun q => (hkg hp g o e).1 (by rw [q]; rfl), (hkg hp g o e).2⟩)).mono ?_
    rintro e w' ⟨rfl, h, t⟩
    exact ⟨rfl, by unfold cutD; exact (by simpa [cutL_length] using h), t.mono (fun i _ e => by rcases e with e | e; exact .inl e; exact .inr (by rw [e]; rfl))⟩

/-- the blocks of a disk behind a call: those of before, and new ones -/
def grow (F : Nat → Prop) (w w' : World) (i : Nat) : Prop := F i ∨ madeIn w w' i
theorem cut_at0 (F : Nat → Prop) (b : Nat) (D : DiskS) (ka : Option Addr) (kc : Nat) (ks : List UInt8) (w : World) (hm : DiskAt F w b D) (h0 : 0 < D.last.length)
    (hk : BytesAt w (.slice ka ks.length kc) ks) (hkl : ks.length ≤ 9223372036854775807) (hwl : D.wait.length ≤ 1000000000000) (hkg : 0 < ks.length → ∀ g o, ka = some ⟨g, o, none⟩ → ¬ F g) :
    Calls Try.prog 12 #[.pointer (some ⟨b, 0, none⟩), .slice ka ks.length kc] w fun e w' => e = .returned (.tuple #[]) ∧ DiskAt F w' b (cutD D ks) ∧ Turn F w w' := by
  obtain ⟨lv, wv, kv, m, f1, f2, f3, f4⟩ := hm
  refine (cut_mem b D lv wv kv ka kc ks w m h0 hk hkl hwl (fun hp g o e => ⟨fun q => hkg hp g o e (f2 g q), fun q => hkg hp g o e (by rw [q]; exact f1)⟩)).mono ?_
  rintro e w' ⟨rfl, h, t⟩
  exact ⟨rfl, ⟨_, _, _, h, f1, f2, by simp [Value.ownBlock], by simp [Value.ownBlock]⟩, t.mono (fun i _ e => by rcases e with rfl | e; exact f1; exact f2 _ e)⟩
theorem cut_at (F : Nat → Prop) (b : Nat) (D : DiskS) (ka : Option Addr) (kc : Nat) (ks : List UInt8) (w : World) (hm : DiskAt F w b D) (h0 : 0 < D.last.length)
    (hk : BytesAt w (.slice ka ks.length kc) ks) (hkl : ks.length ≤ 9223372036854775807) (hwl : D.wait.length ≤ 1000000000000) (hkg : ∀ g o, ka = some ⟨g, o, none⟩ → ¬ F g) :
    Calls Try.prog 12 #[.pointer (some ⟨b, 0, none⟩), .slice ka ks.length kc] w fun e w' => e = .returned (.tuple #[]) ∧ DiskAt F w' b (cutD D ks) ∧ Turn F w w' :=
  cut_at0 F b D ka kc ks w hm h0 hk hkl hwl (fun _ => hkg)
end Go.Proofs.Ytfomchkmedoenaa
