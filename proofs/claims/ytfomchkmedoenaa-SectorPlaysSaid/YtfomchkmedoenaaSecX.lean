/- Write, in one word; slices.Clone; Copy. -/
import Derived.Test.YtfomchkmedoenaaSecWr
namespace Go.Proofs.Ytfomchkmedoenaa
open Go.RowKit

theorem DiskAt.big {F G : Nat → Prop} {w : World} {b : Nat} {D : DiskS} (h : DiskAt F w b D) (hF : ∀ i, F i → G i) : DiskAt G w b D := h.mono (fun i _ q => hF i q)
theorem write_ok (F : Nat → Prop) (b : Nat) (D : DiskS) (i : Nat) (s : ByteArray) (w : World) (hm : DiskAt F w b D) (h : D.on = true) (hi : i < D.last.length) (hs : s.size ≤ 64) (hf : D.fuse ≠ 0) (hf2 : D.fuse ≤ 9223372036854775807) (hwl : D.wait.length ≤ 1000000000) :
    Calls Try.prog 15 #[.pointer (some ⟨b, 0, none⟩), .int .i64 i, .string s] w fun e w' => e = .returned (.int .i64 0) ∧ DiskAt (grow F w w') w' b (wroteD D i s) ∧ Turn F w w' := by
  have hlt := hm.lt
  by_cases h0 : D.fuse < 0
  · have := write_tail F b D D i s w w (reaches_at_ok F b D i w hm h hi) ((burns_none F b D w hm h0).mono (fun e w' q => ⟨q.1, by rw [← q.2]; exact hm, by rw [← q.2]; exact Turn.refl _ _⟩)) hi hs hwl hlt
    refine this.mono ?_
    rintro e w' ⟨rfl, q1, q2⟩
    refine ⟨rfl, ?_, q2⟩
    unfold wroteD
    rw [if_pos h0]
    exact q1
  · have := write_tail F b D { D with fuse := D.fuse - 1 } i s w w (reaches_at_ok F b D i w hm h hi) ((burns_some F b D w hm (by omega) hf2).mono (fun e w' q => ⟨q.1, q.2.1, q.2.2.mono (fun i _ e => by rw [e]; exact hm.own)⟩)) hi hs hwl hlt
    refine this.mono ?_
    rintro e w' ⟨rfl, q1, q2⟩
    refine ⟨rfl, ?_, q2⟩
    unfold wroteD
    rw [if_neg h0]
    exact q1

/-! ### slices.Clone: an own row laid anew -/
theorem own_ne {i k n c : Nat} (h : i < k) : some i ≠ (Value.slice (some ⟨k, 0, none⟩) n c).ownBlock := by
  intro e
  simp only [Value.ownBlock, Option.some.injEq] at e
  omega
set_option maxRecDepth 100000 in
set_option maxHeartbeats 1000000 in
theorem clone_bytes (v : Value) (n : Nat) (xs : List Value) (w : World) (hv : w.ownsRow 0 5 1 v n xs) (h1 : ∀ u ∈ xs, u.oneCell' = true) (hn : n ≤ 140737488351232) :
    Calls Try.prog 22 #[v] w fun e w' => ∃ v', e = .returned v' ∧ w'.ownsRow w.heap.size 5 1 v' n xs ∧ w.grownBy w' none := by
  obtain ⟨i0, hti, hz0, hz1, hz2⟩ := info_parts infoB
  rcases own_form hv with ⟨rfl, h0⟩ | ⟨g, cap, rfl⟩
  · subst h0
    have hx : xs = [] := List.eq_nil_of_length_eq_zero (by simpa using hv.1)
    subst hx
    have he : ∀ w : World, (binOp .eql 32 (.slice none 0 0) (.slice none 0 0)).run Try.prog w = .ok (.bool true) w := fun _ => rfl
    clear hv h1
    go_enter Try.func22, Try.ntmps22
    go_wp2_with fail
    go_ret
    exact ⟨_, rfl, World.ownsRow_nil _ _ _ _, World.grownBy.refl _ _⟩
  · have HV := Lib.hid hv
    have H1 := Lib.hid h1
    have hn2 : 0 + n ≤ maxLen := by unfold maxLen; omega
    have hn3 : (0 + n) * 1 ≤ 140737488355328 := by omega
    have HN := Lib.hid (And.intro hn2 hn3)
    have he : ∀ w : World, (binOp .eql 32 (.slice (some ⟨g, 0, none⟩) n cap) (.slice none 0 0)).run Try.prog w = .ok (.bool false) w := fun _ => rfl
    have HO : Hid ((w.alloc (.cells #[] 5)).ownsRow w.heap.size 5 1 (.slice (some ⟨w.heap.size, 0, none⟩) 0 0) 0 []) := World.ownsRow_lit w #[] 0 (Nat.le_refl _) (Nat.zero_le _) rfl
    have HC : Hid (∀ j u, xs[j]? = some u → (w.alloc (.cells #[] 5)).cell? ((⟨g, 0, none⟩ : Addr).add j) = some u) := fun j u hu => World.ownsRow.cells (hv.alloc _) rfl j u hu
    have HL : Hid (xs.length = n * 1) := hv.1
    clear hv h1 hn2 hn3
    go_enter Try.func22, Try.ntmps22
    go_wp2_with (at_builtin; refine wpList_append_own _ rfl (.tmp 5) (.tmp 6) 32 rfl w.heap.size 5 i0 _ 1 1 Try.underlying32 hti hz0 hz1 hz2 rfl (by decide) _ 0 [] rfl HO.out ⟨g, 0, none⟩ n cap xs rfl HL.out HC.out H1.out HN.out.1 HN.out.2 (by simp) ?_; intro v' w' ho hg _)
    rw [Nat.zero_add, List.nil_append] at ho
    have HO2 := Lib.hid ho
    have HG2 : Hid (w.grownBy w' none) := ⟨hg.os, hg.tape, hg.output, by have := hg.size; simp at this; omega, fun i hi _ => (hg.block i (by simp; omega) (own_ne hi)).trans (Below.heap_alloc _ _ _ hi)⟩
    clear ho hg
    go_wp2_with fail
    go_ret
    exact ⟨_, rfl, HO2.out, HG2.out⟩
end Go.Proofs.Ytfomchkmedoenaa
