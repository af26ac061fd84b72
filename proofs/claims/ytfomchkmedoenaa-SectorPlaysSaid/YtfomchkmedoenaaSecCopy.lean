/- The walks of slices.Clone of sectors and writings, and of a disk's Copy. -/
import Derived.Test.YtfomchkmedoenaaSecX
namespace Go.Proofs.Ytfomchkmedoenaa
open Go.RowKit

set_option maxRecDepth 100000 in
set_option maxHeartbeats 1000000 in
theorem clone_content (v : Value) (n : Nat) (xs : List Value) (w : World) (hv : w.ownsRow 0 55 64 v n xs) (h1 : ∀ u ∈ xs, u.oneCell' = true) (hn : n ≤ 1000000000) :
    Calls Try.prog 23 #[v] w fun e w' => ∃ v', e = .returned v' ∧ w'.ownsRow w.heap.size 55 64 v' n xs ∧ w.grownBy w' none := by
  obtain ⟨i0, hti, hz0, hz1, hz2⟩ := info_parts infoContent
  rcases own_form hv with ⟨rfl, h0⟩ | ⟨g, cap, rfl⟩
  · subst h0
    have hx : xs = [] := List.eq_nil_of_length_eq_zero (by simpa using hv.1)
    subst hx
    have he : ∀ w : World, (binOp .eql 46 (.slice none 0 0) (.slice none 0 0)).run Try.prog w = .ok (.bool true) w := fun _ => rfl
    clear hv h1
    go_enter Try.func23, Try.ntmps23
    go_wp2_with fail
    go_ret
    exact ⟨_, rfl, World.ownsRow_nil _ _ _ _, World.grownBy.refl _ _⟩
  · have HV := Lib.hid hv
    have H1 := Lib.hid h1
    have hn2 : 0 + n ≤ maxLen := by unfold maxLen; omega
    have hn3 : (0 + n) * 64 ≤ 140737488355328 := by omega
    have HN := Lib.hid (And.intro hn2 hn3)
    have he : ∀ w : World, (binOp .eql 46 (.slice (some ⟨g, 0, none⟩) n cap) (.slice none 0 0)).run Try.prog w = .ok (.bool false) w := fun _ => rfl
    have HO : Hid ((w.alloc (.cells #[] 55)).ownsRow w.heap.size 55 64 (.slice (some ⟨w.heap.size, 0, none⟩) 0 0) 0 []) := World.ownsRow_lit w #[] 0 (Nat.le_refl _) (Nat.zero_le _) rfl
    have HC : Hid (∀ j u, xs[j]? = some u → (w.alloc (.cells #[] 55)).cell? ((⟨g, 0, none⟩ : Addr).add j) = some u) := fun j u hu => World.ownsRow.cells (hv.alloc _) rfl j u hu
    have HL : Hid (xs.length = n * 64) := hv.1
    clear hv h1 hn2 hn3
    go_enter Try.func23, Try.ntmps23
    go_wp2_with (at_builtin; refine wpList_append_own _ rfl (.tmp 5) (.tmp 6) 46 rfl w.heap.size 55 i0 _ 64 64 Try.underlying46 hti hz0 hz1 hz2 rfl (by decide) _ 0 [] rfl HO.out ⟨g, 0, none⟩ n cap xs rfl HL.out HC.out H1.out HN.out.1 HN.out.2 (by simp) ?_; intro v' w' ho hg _)
    rw [Nat.zero_add, List.nil_append] at ho
    have HO2 := Lib.hid ho
    have HG2 : Hid (w.grownBy w' none) := ⟨hg.os, hg.tape, hg.output, by have := hg.size; simp at this; omega, fun i hi _ => (hg.block i (by simp; omega) (own_ne hi)).trans (Below.heap_alloc _ _ _ hi)⟩
    clear ho hg
    go_wp2_with fail
    go_ret
    exact ⟨_, rfl, HO2.out, HG2.out⟩
set_option maxRecDepth 100000 in
set_option maxHeartbeats 1000000 in
theorem clone_writing (v : Value) (n : Nat) (xs : List Value) (w : World) (hv : w.ownsRow 0 57 65 v n xs) (h1 : ∀ u ∈ xs, u.oneCell' = true) (hn : n ≤ 1000000000) :
    Calls Try.prog 24 #[v] w fun e w' => ∃ v', e = .returned v' ∧ w'.ownsRow w.heap.size 57 65 v' n xs ∧ w.grownBy w' none := by
  obtain ⟨i0, hti, hz0, hz1, hz2⟩ := info_parts infoWriting
  rcases own_form hv with ⟨rfl, h0⟩ | ⟨g, cap, rfl⟩
  · subst h0
    have hx : xs = [] := List.eq_nil_of_length_eq_zero (by simpa using hv.1)
    subst hx
    have he : ∀ w : World, (binOp .eql 47 (.slice none 0 0) (.slice none 0 0)).run Try.prog w = .ok (.bool true) w := fun _ => rfl
    clear hv h1
    go_enter Try.func24, Try.ntmps24
    go_wp2_with fail
    go_ret
    exact ⟨_, rfl, World.ownsRow_nil _ _ _ _, World.grownBy.refl _ _⟩
  · have HV := Lib.hid hv
    have H1 := Lib.hid h1
    have hn2 : 0 + n ≤ maxLen := by unfold maxLen; omega
    have hn3 : (0 + n) * 72 ≤ 140737488355328 := by omega
    have HN := Lib.hid (And.intro hn2 hn3)
    have he : ∀ w : World, (binOp .eql 47 (.slice (some ⟨g, 0, none⟩) n cap) (.slice none 0 0)).run Try.prog w = .ok (.bool false) w := fun _ => rfl
    have HO : Hid ((w.alloc (.cells #[] 57)).ownsRow w.heap.size 57 65 (.slice (some ⟨w.heap.size, 0, none⟩) 0 0) 0 []) := World.ownsRow_lit w #[] 0 (Nat.le_refl _) (Nat.zero_le _) rfl
    have HC : Hid (∀ j u, xs[j]? = some u → (w.alloc (.cells #[] 57)).cell? ((⟨g, 0, none⟩ : Addr).add j) = some u) := fun j u hu => World.ownsRow.cells (hv.alloc _) rfl j u hu
    have HL : Hid (xs.length = n * 65) := hv.1
    clear hv h1 hn2 hn3
    go_enter Try.func24, Try.ntmps24
    go_wp2_with (at_builtin; refine wpList_append_own _ rfl (.tmp 5) (.tmp 6) 47 rfl w.heap.size 57 i0 _ 65 72 Try.underlying47 hti hz0 hz1 hz2 rfl (by decide) _ 0 [] rfl HO.out ⟨g, 0, none⟩ n cap xs rfl HL.out HC.out H1.out HN.out.1 HN.out.2 (by simp) ?_; intro v' w' ho hg _)
    rw [Nat.zero_add, List.nil_append] at ho
    have HO2 := Lib.hid ho
    have HG2 : Hid (w.grownBy w' none) := ⟨hg.os, hg.tape, hg.output, by have := hg.size; simp at this; omega, fun i hi _ => (hg.block i (by simp; omega) (own_ne hi)).trans (Below.heap_alloc _ _ _ hi)⟩
    clear ho hg
    go_wp2_with fail
    go_ret
    exact ⟨_, rfl, HO2.out, HG2.out⟩

theorem wflat_one (l : List (Nat × List UInt8)) : ∀ u ∈ wflat l, u.oneCell' = true := by
  intro u hu
  obtain ⟨x, _, h⟩ := List.mem_flatMap.1 hu
  exact wcells_one x u h
theorem copy_nil (w : World) : Calls Try.prog 14 #[.pointer none] w fun e w' => e = .returned (.pointer none) ∧ w = w' := by
  go_enter Try.func14, Try.ntmps14
  go_wp2_with fail
  go_ret
  exact ⟨rfl, rfl⟩
set_option maxRecDepth 100000 in
set_option maxHeartbeats 1000000 in
theorem copy_at (F : Nat → Prop) (b : Nat) (D : DiskS) (w : World) (hm : DiskAt F w b D) (hl : D.last.length ≤ 100000) (hkl : D.keep.length ≤ 140737488351232) (hwl : D.wait.length ≤ 1000000000) :
    Calls Try.prog 14 #[.pointer (some ⟨b, 0, none⟩)] w fun e w' => ∃ b', e = .returned (.pointer (some ⟨b', 0, none⟩)) ∧ DiskAt (madeIn w w') w' b' D ∧ w.grownBy w' none := by
  obtain ⟨lv, wv, kv, m, f1, f2, f3, f4⟩ := hm
  have M := Lib.hid m
  have e0 : w.cell? ⟨b, 0, none⟩ = some lv := by rw [cell_of m.disk]; rfl
  have e1 : w.cell? ⟨b, 1, none⟩ = some wv := by rw [cell_of m.disk]; rfl
  have e2 : w.cell? ⟨b, 2, none⟩ = some (.bool D.on) := by rw [cell_of m.disk]; rfl
  have e3 : w.cell? ⟨b, 3, none⟩ = some (.int .i64 D.fuse) := by rw [cell_of m.disk]; rfl
  have e4 : w.cell? ⟨b, 4, none⟩ = some kv := by rw [cell_of m.disk]; rfl
  have hlt := m.lt
  obtain ⟨la, ln, lc, rfl⟩ : ∃ a n c, lv = .slice a n c := by rcases own_form m.last with ⟨rfl, _⟩ | ⟨_, _, rfl⟩ <;> exact ⟨_, _, _, rfl⟩
  obtain ⟨wa, wn, wc, rfl⟩ : ∃ a n c, wv = .slice a n c := by rcases own_form m.wait with ⟨rfl, _⟩ | ⟨_, _, rfl⟩ <;> exact ⟨_, _, _, rfl⟩
  obtain ⟨ka, kn, kc, rfl⟩ : ∃ a n c, kv = .slice a n c := by rcases own_form m.keep with ⟨rfl, _⟩ | ⟨_, _, rfl⟩ <;> exact ⟨_, _, _, rfl⟩
  have HI : Hid ((Try.prog.info? 49).map (·.size) = some (#[Value.slice la ln lc, .slice wa wn wc, .bool D.on, .int .i64 D.fuse, .slice ka kn kc] : Array Value).size) := by show _ = _; kernel_rfl
  clear m
  go_enter Try.func14, Try.ntmps14
  go_wp2_with (refine wpList_store_rowTo (by rfl) 49 (.tmp 3) (.tmp 8) (by rfl) (by rfl) w.heap.size #[Value.slice la ln lc, .slice wa wn wc, .bool D.on, .int .i64 D.fuse, .slice ka kn kc] (by rfl) (by rfl) 49 _ (heap_alloc_new w _) HI.out (by rfl) (by rfl) ?_)
  obtain ⟨w1, hW⟩ : ∃ w1, w.alloc (.cells #[Value.slice la ln lc, .slice wa wn wc, .bool D.on, .int .i64 D.fuse, .slice ka kn kc] 49) = w1 := ⟨_, rfl⟩
  rw [hW]
  have g1 : w.grownBy w1 none := by rw [← hW]; exact World.grownBy_alloc _ _ _
  have hA : w1.heap[w.heap.size]? = some (.cells #[Value.slice la ln lc, .slice wa wn wc, .bool D.on, .int .i64 D.fuse, .slice ka kn kc] 49 (0, 0)) := by rw [← hW]; exact heap_alloc_at _ _ _ rfl
  clear hW e0 e1 e2 e3 e4
  generalize hC : w.heap.size = C at *
  have t1 : Turn (fun _ => False) w w1 := Turn.of_grown g1
  have m1 := M.out.turn t1 (fun q => q) (fun _ _ q => q) (fun _ _ q => q) (fun _ _ q => q)
  have ht1 : C < w1.heap.size := (Array.getElem?_eq_some_iff.1 hA).1
  -- the first clone
  have C1 := Lib.hid (clone_content _ _ _ w1 m1.last (fun u hu => bytesV_one _ u hu) (by omega))
  have HA := Lib.hid hA
  clear hA m1
  have M1 : Hid (∀ w', Turn (fun i => C ≤ i) w w' → DiskMem w' b D (.slice la ln lc) (.slice wa wn wc) (.slice ka kn kc)) := fun w' t => M.out.turn t (by omega) (fun g e => by have := (M.out.last.lt g e).2; omega) (fun g e => by have := (M.out.wait.lt g e).2; omega) (fun g e => by have := (M.out.keep.lt g e).2; omega)
  have l0 : ln = D.last.length := by
    rcases own_form M.out.last with ⟨e, h⟩ | ⟨_, _, e⟩
    · injection e with _ e2 _; omega
    · injection e
  refine (show Calls _ _ _ _ _ from C1.out).mono ?_
  rintro e w2 ⟨v2, rfl, ho2, g2⟩
  obtain ⟨a2, n2, c2, rfl⟩ : ∃ a n c, v2 = .slice a n c := by rcases own_form ho2 with ⟨rfl, _⟩ | ⟨_, _, rfl⟩ <;> exact ⟨_, _, _, rfl⟩
  have hA2 : w2.heap[C]? = _ := (g2.block C ht1 (by simp)).trans HA.out
  have c20 := cell_of hA2 0
  have f20 := free_of hA2 0
  simp only [List.getElem?_toArray, List.getElem?_cons_zero] at c20
  have T2 := Lib.hid (show Turn (fun i => C ≤ i) w w2 from (Turn.of_grown g1).grown g2)
  have e1 : w2.cell? ⟨b, 1, none⟩ = some (.slice wa wn wc) := by rw [cell_of (M1.out w2 T2.out).disk]; rfl
  have HS2 : Hid (w1.heap.size ≤ w2.heap.size) := g2.size
  have HO2 := Lib.hid ho2
  have HA2 := Lib.hid hA2
  clear ho2 hA2 g2 HA
  go_wp2_with fail
  clear c20 f20 e1
  obtain ⟨w3, hW3⟩ : ∃ w3, w2.setCell ⟨C, 0, none⟩ (.slice a2 n2 c2) = w3 := ⟨_, rfl⟩
  rw [hW3]
  have tC3 : Turn (fun i => i = C) w2 w3 := by rw [← hW3]; exact (Turn.refl (fun i => i = C) w2).setCell (fun _ => rfl) _ _
  have HA3 : Hid (w3.heap[C]? = some (.cells #[Value.slice a2 n2 c2, .slice wa wn wc, .bool D.on, .int .i64 D.fuse, .slice ka kn kc] 49 (0, 0))) := by show _ = _; rw [← hW3]; exact heap_setCell HA2.out 0 _
  have T3 := Lib.hid (T2.out.trans tC3 (fun i _ e => by show C ≤ i; omega))
  have HS3 : Hid (w1.heap.size ≤ w3.heap.size) := Nat.le_trans HS2.out tC3.size
  have HO3 : Hid (w3.ownsRow w1.heap.size 55 64 (.slice a2 n2 c2) D.last.length (bytesV (sflat D.last))) := own_turn HO2.out tC3 (fun g e q => by have := (HO2.out.lt g e).1; omega)
  clear hW3 tC3 HO2 HA2 T2 HS2 C1
  have C3 := Lib.hid (clone_writing _ _ _ w3 (M1.out w3 T3.out).wait (wflat_one _) hwl)
  refine (show Calls _ _ _ _ _ from C3.out).mono ?_
  rintro e w4 ⟨v4, rfl, ho4, g4⟩
  obtain ⟨a4, n4, c4, rfl⟩ : ∃ a n c, v4 = .slice a n c := by rcases own_form ho4 with ⟨rfl, _⟩ | ⟨_, _, rfl⟩ <;> exact ⟨_, _, _, rfl⟩
  have hA4 : w4.heap[C]? = _ := (g4.block C (by have := HS3.out; omega) (by simp)).trans HA3.out
  have c41 : w4.cell? ⟨C, 1, none⟩ = some (.slice wa wn wc) := by rw [cell_of hA4]; rfl
  have f41 := free_of hA4 1
  have T4 := Lib.hid (T3.out.grown g4)
  have e4 : w4.cell? ⟨b, 4, none⟩ = some (.slice ka kn kc) := by rw [cell_of (M1.out w4 T4.out).disk]; rfl
  have HS34 : Hid (w3.heap.size ≤ w4.heap.size) := g4.size
  have HS4 : Hid (w1.heap.size ≤ w4.heap.size) := Nat.le_trans HS3.out g4.size
  have HO4 := Lib.hid (And.intro ho4 (own_turn (S := fun _ => False) HO3.out (Turn.of_grown g4) (fun _ _ q => q)))
  have HA4 := Lib.hid hA4
  have HN4 := Lib.hid (fun g (e : (Value.slice a2 n2 c2).ownBlock = some g) => (HO3.out.lt g e).2)
  clear ho4 hA4 g4 HA3 HO3 T3 C3
  go_wp2_with fail
  clear c41 f41 e4
  obtain ⟨w5, hW5⟩ : ∃ w5, w4.setCell ⟨C, 1, none⟩ (.slice a4 n4 c4) = w5 := ⟨_, rfl⟩
  rw [hW5]
  have tC5 : Turn (fun i => i = C) w4 w5 := by rw [← hW5]; exact (Turn.refl (fun i => i = C) w4).setCell (fun _ => rfl) _ _
  have HA5 : Hid (w5.heap[C]? = some (.cells #[Value.slice a2 n2 c2, .slice a4 n4 c4, .bool D.on, .int .i64 D.fuse, .slice ka kn kc] 49 (0, 0))) := by show _ = _; rw [← hW5]; exact heap_setCell HA4.out 1 _
  have T5 := Lib.hid (T4.out.trans tC5 (fun i _ e => by show C ≤ i; omega))
  have HO5 := Lib.hid (And.intro (own_turn HO4.out.1 tC5 (fun g e q => by have := (HO4.out.1.lt g e).1; have := HS3.out; omega)) (own_turn HO4.out.2 tC5 (fun g e q => by have := (HO4.out.2.lt g e).1; omega)))
  have HS5 : Hid (w1.heap.size ≤ w5.heap.size) := Nat.le_trans HS4.out tC5.size
  have HN35 : Hid (w3.heap.size ≤ w5.heap.size) := Nat.le_trans HS34.out tC5.size
  have HN5 := Lib.hid (fun g (e : (Value.slice a4 n4 c4).ownBlock = some g) => (HO5.out.1.lt g e).2)
  clear hW5 tC5 HO4 HA4 T4
  have C5 := Lib.hid (clone_bytes _ _ _ w5 (M1.out w5 T5.out).keep (fun u hu => bytesV_one _ u hu) hkl)
  refine (show Calls _ _ _ _ _ from C5.out).mono ?_
  rintro e w6 ⟨v6, rfl, ho6, g6⟩
  obtain ⟨a6, n6, c6, rfl⟩ : ∃ a n c, v6 = .slice a n c := by rcases own_form ho6 with ⟨rfl, _⟩ | ⟨_, _, rfl⟩ <;> exact ⟨_, _, _, rfl⟩
  have hA6 : w6.heap[C]? = _ := (g6.block C (by have := HS5.out; omega) (by simp)).trans HA5.out
  have c64 : w6.cell? ⟨C, 4, none⟩ = some (.slice ka kn kc) := by rw [cell_of hA6]; rfl
  have f64 := free_of hA6 4
  have T6 := Lib.hid (T5.out.grown g6)
  have HO6 := Lib.hid (And.intro ho6 (And.intro (own_turn (S := fun _ => False) HO5.out.1 (Turn.of_grown g6) (fun _ _ q => q)) (own_turn (S := fun _ => False) HO5.out.2 (Turn.of_grown g6) (fun _ _ q => q))))
  have HS6 : Hid (w1.heap.size ≤ w6.heap.size) := Nat.le_trans HS5.out g6.size
  have HA6 := Lib.hid hA6
  clear ho6 hA6 g6 HA5 HO5 T5 C5
  go_wp2_with fail
  go_ret
  clear c64 f64
  obtain ⟨w7, hW7⟩ : ∃ w7, w6.setCell ⟨C, 4, none⟩ (.slice a6 n6 c6) = w7 := ⟨_, rfl⟩
  rw [hW7]
  have tC7 : Turn (fun i => i = C) w6 w7 := by rw [← hW7]; exact (Turn.refl (fun i => i = C) w6).setCell (fun _ => rfl) _ _
  have hA7 : w7.heap[C]? = some (.cells #[Value.slice a2 n2 c2, .slice a4 n4 c4, .bool D.on, .int .i64 D.fuse, .slice a6 n6 c6] 49 (0, 0)) := by rw [← hW7]; exact heap_setCell HA6.out 4 _
  have T7 := T6.out.trans tC7 (fun i _ e => by show C ≤ i; omega)
  have s3 := HS3.out
  have s5 := HS5.out
  have n1 : ∀ g, (Value.slice a2 n2 c2).ownBlock = some g → C < g ∧ g < w3.heap.size ∧ g < w7.heap.size := fun g e => ⟨by have := (HO6.out.2.2.lt g e).1; omega, HN4.out g e, by have := (HO6.out.2.2.lt g e).2; have := tC7.size; omega⟩
  have n2 : ∀ g, (Value.slice a4 n4 c4).ownBlock = some g → w3.heap.size ≤ g ∧ g < w5.heap.size ∧ g < w7.heap.size := fun g e => ⟨(HO6.out.2.1.lt g e).1, HN5.out g e, by have := (HO6.out.2.1.lt g e).2; have := tC7.size; omega⟩
  have n3 : ∀ g, (Value.slice a6 n6 c6).ownBlock = some g → w5.heap.size ≤ g ∧ g < w7.heap.size := fun g e => ⟨(HO6.out.1.lt g e).1, by have := (HO6.out.1.lt g e).2; have := tC7.size; omega⟩
  have n35 : w3.heap.size ≤ w5.heap.size := HN35.out
  have hC7 : C < w7.heap.size := (Array.getElem?_eq_some_iff.1 hA7).1
  refine ⟨C, rfl, ⟨_, _, _, ⟨hA7, own_base0 (own_turn HO6.out.2.2 tC7 (fun g e q => by have := n1 g e; omega)), own_base0 (own_turn HO6.out.2.1 tC7 (fun g e q => by have := n2 g e; omega)), own_base0 (own_turn HO6.out.1 tC7 (fun g e q => by have := n3 g e; omega)), M.out.secs, M.out.waits,
    fun e => by have := n1 C e; omega, fun e => by have := n2 C e; omega, fun e => by have := n3 C e; omega, fun g e q => by have := n1 g e; have := n2 g q; omega, fun g e q => by have := n1 g e; have := n3 g q; omega, fun g e q => by have := n2 g e; have := n3 g q; omega⟩,
    ⟨by omega, hC7⟩, fun g e => ⟨by have := n1 g e; omega, (n1 g e).2.2⟩, fun g e => ⟨by have := n2 g e; omega, (n2 g e).2.2⟩, fun g e => ⟨by have := n3 g e; omega, (n3 g e).2⟩⟩, ?_⟩
  exact ⟨T7.os, T7.tape, T7.output, T7.size, fun i hi _ => T7.block i hi (by omega)⟩
end Go.Proofs.Ytfomchkmedoenaa
