/- The walks of the document's Root and Path (by halves). -/
import Derived.Test.YtmdogeampigfoaaDoorMerkP
import Derived.Test.YtmdogeampigfoaaDoorWotsRefT
import Derived.Deep.AppendLies
import Derived.IntWalk
namespace Go.Proofs.YtmdogeampigfoaaDoor
open Go.RowKit
attribute [local irreducible] shaL

theorem rootH_size : ∀ (h : Nat) (l : List ByteArray) (N : Nat), 16 ≤ N → (∀ s ∈ l, s.size ≤ N) → (rootH h l).size ≤ N
  | 0, [], N, _, _ => by simp [rootH]
  | 0, a :: _, N, _, h => h a (by simp)
  | h + 1, l, N, h16, _ => by rw [rootH, nodeS_size]; exact h16
theorem one_text (r : ByteArray) : ∀ u ∈ [Value.string r], u.oneCell' = true := by
  intro u hu
  simp at hu
  subst hu
  rfl
theorem size_alloc_le {w w' : World} {row : Option Nat} (h : w.grownBy w' row) (o : Obj) : w.heap.size ≤ (w'.alloc o).heap.size := by
  have := h.size
  simp
  omega
theorem own_base {w : World} {B B' n : Nat} {t : TypeId} {v : Value} {xs : List Value} (h : w.ownsRow B t 1 v n xs) (hb : B' ≤ B) : w.ownsRow B' t 1 v n xs := by
  refine ⟨h.1, ?_⟩
  rcases h.2 with h' | ⟨g, cap, cur, a, b, r⟩
  · exact .inl h'
  · exact .inr ⟨g, cap, cur, a, Nat.le_trans hb b, r⟩
theorem StrsAt.front {w : World} {g o n cap : Nat} {L : List ByteArray} (h : StrsAt w (.slice (some ⟨g, o, none⟩) n cap) L) (k : Nat) (hk : k ≤ n) (c : Nat) : StrsAt w (.slice (some ⟨g, o, none⟩) k c) (L.take k) := by
  obtain ⟨a', cap', he, hc⟩ := h
  cases he
  refine ⟨some ⟨g, o, none⟩, c, by rw [List.length_take, Nat.min_eq_left hk], fun i hi => ?_⟩
  rw [List.length_take] at hi
  obtain ⟨g', o', e, hcell⟩ := hc i (by omega)
  cases e
  exact ⟨g, o, rfl, by rw [hcell, List.getElem_take]⟩
theorem StrsAt.back {w : World} {g o n cap : Nat} {L : List ByteArray} (h : StrsAt w (.slice (some ⟨g, o, none⟩) n cap) L) (k : Nat) (hk : k ≤ n) (c : Nat) : StrsAt w (.slice (some ⟨g, o + k, none⟩) (n - k) c) (L.drop k) := by
  obtain ⟨a', cap', he, hc⟩ := h
  cases he
  refine ⟨some ⟨g, o + k, none⟩, c, by rw [List.length_drop], fun i hi => ?_⟩
  rw [List.length_drop] at hi
  obtain ⟨g', o', e, hcell⟩ := hc (k + i) (by omega)
  cases e
  exact ⟨g, o + k, rfl, by rw [Nat.add_assoc, hcell, List.getElem_drop]⟩

set_option maxHeartbeats 1600000 in
set_option maxRecDepth 100000 in
theorem refRoot_any : ∀ (h : Nat) (g o cap : Nat) (L : List ByteArray), h ≤ 40 → L.length = 2 ^ h → 2 ^ h ≤ cap → (∀ s ∈ L, s.size ≤ 1000) → ∀ w : World, StrsAt w (.slice (some ⟨g, o, none⟩) (2 ^ h) cap) L →
    Calls Tryd.prog 10 #[.slice (some ⟨g, o, none⟩) (2 ^ h : Nat) cap] w fun e w' => e = .returned (.string (rootH h L)) ∧ w.grownBy w' none := by
  intro h
  induction h with
  | zero =>
    intro g o cap L _ hL hc hs w hv
    match L, hL with
    | [x], _ =>
      obtain ⟨g', o', e, hc⟩ := hv.at_ 0 x rfl
      cases e
      rw [Nat.add_zero] at hc
      show Calls _ _ #[.slice (some ⟨g, o, none⟩) 1 cap] w _
      go_enter Tryd.func10, Tryd.ntmps10
      go_wp2_with fail
      go_ret
      exact ⟨rfl, World.grownBy.refl _ _⟩
  | succ h ih =>
    intro g o cap L hh hL hc hs w hv
    obtain ⟨N, hN⟩ : ∃ N, 2 ^ h = N := ⟨_, rfl⟩
    have hp0 : 0 < 2 ^ h := Nat.pow_pos (by decide)
    have hp6 : 2 ^ h ≤ 2 ^ 40 := Nat.pow_le_pow_right (by decide) (by omega)
    have e2 := pow_succ2 h
    have h1 := fun w0 (hg : w.grownBy w0 none) => ih g o cap (L.take (2 ^ h)) (by omega) (by rw [List.length_take]; omega) (by omega) (fun s hs' => hs s (List.mem_of_mem_take hs')) w0 ((hv.front (2 ^ h) (by omega) cap).grown hg)
    have h2 := fun w0 (hg : w.grownBy w0 none) => ih g (o + 2 ^ h) (cap - 2 ^ h) (L.drop (2 ^ h)) (by omega) (by rw [List.length_drop]; omega) (by omega) (fun s hs' => hs s (List.mem_of_mem_drop hs')) w0 (by have := (hv.back (2 ^ h) (by omega) (cap - 2 ^ h)).grown hg; rw [show 2 ^ (h + 1) - 2 ^ h = 2 ^ h from by omega] at this; exact this)
    have z1 : (rootH h (L.take (2 ^ h))).size ≤ 1000 := rootH_size h _ 1000 (by decide) (fun s hs' => hs s (List.mem_of_mem_take hs'))
    have z2 : (rootH h (L.drop (2 ^ h))).size ≤ 1000 := rootH_size h _ 1000 (by decide) (fun s hs' => hs s (List.mem_of_mem_drop hs'))
    have HE : Hid (rootH (h + 1) L = nodeS (rootH h (L.take (2 ^ h))) (rootH h (L.drop (2 ^ h)))) := rfl
    rw [e2] at hc hL ⊢
    generalize rootH h (L.take (2 ^ h)) = r1 at h1 z1 HE
    generalize rootH h (L.drop (2 ^ h)) = r2 at h2 z2 HE
    rw [hN] at h1 h2 hp0 hp6 hc hL ⊢
    obtain ⟨M, hM⟩ : ∃ M, 2 * N = M := ⟨_, rfl⟩
    rw [hM] at hc hL ⊢
    have hMN : N = M - N := by omega
    have H1 := Lib.hid h1
    have H2 : Hid (∀ w0 : World, w.grownBy w0 none → Calls Tryd.prog 10 #[.slice (some ⟨g, o + N, none⟩) (M - N) (cap - N)] w0 fun e w' => e = .returned (.string r2) ∧ w0.grownBy w' none) := by
      rw [← hMN]
      exact h2
    have HT := Lib.hid (fun w0 : World => refTagged_new w0 w0.heap.size rfl 5 [r1, r2] _ 2 5 rfl rfl rfl (by simp) (by intro s hs'; simp at hs'; rcases hs' with rfl | rfl <;> assumption))
    clear hv h1 h2 hs ih hL e2 hN hMN
    rw [HE.out]
    clear HE
    have HT2 : Hid (∀ w0 : World, Calls Tryd.prog 26 #[.int .u8 5, .slice (some ⟨w0.heap.size, 0, none⟩) 2 2] (w0.alloc (.cells #[.string r1, .string r2] 9)) fun e w' => e = .returned (.string (nodeS r1 r2)) ∧ w0.grownBy w' none) := HT.out
    clear HT
    generalize nodeS r1 r2 = R at HT2 ⊢
    have b1 : (0 : Int) ≤ (N : Int) := by omega
    have b2 : (N : Int) ≤ (cap : Int) := by omega
    have b3 : (N : Int) ≤ (M : Int) := by omega
    have b4 : ((M : Int) == 1) = false := by simp; omega
    have b5 : (M : Int) / 2 = (N : Int) := by omega
    have b7 : (M : Int) ≤ (cap : Int) := by omega
    have b6 : ¬ cap = N := by omega
    go_enter Tryd.func10, Tryd.ntmps10
    go_wp2_with fail
    go_region_held3 (fun w' => w.grownBy w' none) (first | exact ck | exact grownBy_drew (World.grownBy.refl _ _) | exact grownBy_alloc' (by assumption) _)
      (first
        | (go_at_call 10; (with_reducible refine (H1.out _ (by assumption)).mono ?_); rintro e w6 ⟨rfl, g6⟩; have ck := grownBy_trans (by assumption) g6)
        | (go_at_call 10; (with_reducible refine (H2.out _ (by assumption)).mono ?_); rintro e w6 ⟨rfl, g6⟩; have ck := grownBy_trans (by assumption) g6)
        | (go_at_call 26; (with_reducible refine (HT2.out _).mono ?_); rintro e w6 ⟨rfl, g6⟩; have ck := grownBy_trans (by assumption) g6))
    have CK := Lib.hid ck
    clear ck
    go_wp2_with fail
    go_ret
    exact ⟨rfl, CK.out⟩

set_option maxHeartbeats 1600000 in
set_option maxRecDepth 100000 in
theorem refPath_any : ∀ (ht : Nat) (g o cap i : Nat) (L : List ByteArray), ht ≤ 40 → i < 2 ^ ht → L.length = 2 ^ ht → 2 ^ ht ≤ cap → (∀ s ∈ L, s.size ≤ 1000) → ∀ w : World, StrsAt w (.slice (some ⟨g, o, none⟩) (2 ^ ht) cap) L →
    Calls Tryd.prog 11 #[.slice (some ⟨g, o, none⟩) (2 ^ ht : Nat) cap, .int .i64 i] w fun e w' => ∃ v', e = .returned v' ∧ w'.ownsRow w.heap.size 9 1 v' ht (strsV (pathH ht L i)) ∧ w.grownBy w' none := by
  obtain ⟨i0, hti, hz0, hz1, hz2⟩ := info_parts infoStrW
  intro ht
  induction ht with
  | zero =>
    intro g o cap i L _ hi hL hc hs w hv
    show Calls _ _ #[.slice (some ⟨g, o, none⟩) 1 cap, _] w _
    go_enter Tryd.func11, Tryd.ntmps11
    go_wp2_with fail
    go_ret
    exact ⟨_, rfl, World.ownsRow_nil _ _ _ _, World.grownBy.refl _ _⟩
  | succ ht ih =>
    intro g o cap i L hh hi hL hc hs w hv
    obtain ⟨N, hN⟩ : ∃ N, 2 ^ ht = N := ⟨_, rfl⟩
    have hp0 : 0 < 2 ^ ht := Nat.pow_pos (by decide)
    have hp6 : 2 ^ ht ≤ 2 ^ 40 := Nat.pow_le_pow_right (by decide) (by omega)
    have e2 := pow_succ2 ht
    have hv1 := hv.front (2 ^ ht) (by omega) cap
    have hv2 := hv.back (2 ^ ht) (by omega) (cap - 2 ^ ht)
    rw [show 2 ^ (ht + 1) - 2 ^ ht = 2 ^ ht from by omega] at hv2
    have l1 : (L.take (2 ^ ht)).length = 2 ^ ht := by rw [List.length_take]; omega
    have l2 : (L.drop (2 ^ ht)).length = 2 ^ ht := by rw [List.length_drop]; omega
    have s1 : ∀ s ∈ L.take (2 ^ ht), s.size ≤ 1000 := fun s hs' => hs s (List.mem_of_mem_take hs')
    have s2 : ∀ s ∈ L.drop (2 ^ ht), s.size ≤ 1000 := fun s hs' => hs s (List.mem_of_mem_drop hs')
    have hmax : ht + 1 ≤ 41 := by omega
    have hz3 : ht + 1 ≤ maxLen := by unfold maxLen; omega
    have hz4 : (ht + 1) * 16 ≤ 140737488355328 := by omega
    have HZ := Lib.hid (And.intro hz3 hz4)
    clear hz3 hz4
    rw [e2] at hi hL hc hv ⊢
    obtain ⟨M, hM⟩ : ∃ M, 2 * 2 ^ ht = M := ⟨_, rfl⟩
    rw [hM] at hi hL hc hv ⊢
    have b0 : (0 : Int) ≤ (i : Int) := by omega
    by_cases hlt : i < 2 ^ ht
    · have h1 := fun w0 (hg : w.grownBy w0 none) => (ih g o cap i (L.take (2 ^ ht)) (by omega) hlt l1 (by omega) s1 w0 (hv1.grown hg)).mono (fun e w' q => (show ∃ v', e = .returned v' ∧ w'.ownsRow w.heap.size 9 1 v' ht (strsV (pathH ht (L.take (2 ^ ht)) i)) ∧ w.grownBy w' none from let ⟨v', q1, q2, q3⟩ := q; ⟨v', q1, own_base q2 hg.size, grownBy_trans hg q3⟩))
      have h2 := fun w0 (hg : w.grownBy w0 none) => refRoot_any ht g (o + 2 ^ ht) (cap - 2 ^ ht) (L.drop (2 ^ ht)) (by omega) l2 (by omega) s2 w0 (hv2.grown hg)
      have HE : Hid (pathH (ht + 1) L i = pathH ht (L.take (2 ^ ht)) i ++ [rootH ht (L.drop (2 ^ ht))]) := by show _ = _; rw [pathH, if_pos hlt]
      generalize rootH ht (L.drop (2 ^ ht)) = r2 at h2 HE
      generalize pathH ht (L.take (2 ^ ht)) i = P1 at h1 HE
      rw [hN] at h1 h2 hp0 hp6 hM hlt
      have H1 := Lib.hid h1
      have H2 : Hid (∀ w0 : World, w.grownBy w0 none → Calls Tryd.prog 10 #[.slice (some ⟨g, o + N, none⟩) (M - N) (cap - N)] w0 fun e w' => e = .returned (.string r2) ∧ w0.grownBy w' none) := by
        rw [show M - N = N from by omega]
        exact h2
      rw [HE.out]
      have b1 : (0 : Int) ≤ (N : Int) := by omega
      have b2 : (N : Int) ≤ (cap : Int) := by omega
      have b3 : (N : Int) ≤ (M : Int) := by omega
      have b4 : ((M : Int) == 1) = false := by simp; omega
      have b5 : (M : Int) / 2 = (N : Int) := by omega
      have b7 : (M : Int) ≤ (cap : Int) := by omega
      have b6 : ¬ cap = N := by omega
      have b8 : (i : Int) < (N : Int) := by omega
      clear hv h1 h2 hs ih hL e2 hN hv1 hv2 l1 l2 s1 s2 hM hi HE
      go_enter Tryd.func11, Tryd.ntmps11
      go_wp2_with fail
      go_region_held3 (fun w' => w.grownBy w' none) (first | exact ck | exact grownBy_drew (World.grownBy.refl _ _) | exact grownBy_alloc' (by assumption) _)
        (first
          | (go_at_call 11; (with_reducible refine (H1.out _ (by assumption)).mono ?_); rintro e w6 ⟨v6, rfl, ho6, g6⟩; obtain ⟨a6, c6, rfl⟩ := slice_own' ho6; have HOW := Lib.hid ho6; have ck := g6)
          | (go_at_call 10; (with_reducible refine (H2.out _ (by assumption)).mono ?_); rintro e w7 ⟨rfl, g7⟩; have HOW2 := Lib.hid (own_kept HOW.out g7); have ck := grownBy_trans (by assumption) g7)
          | (refine step_append_lies _ rfl (.tmp 19) (.tmp 24) 22 rfl w.heap.size 9 i0 (.string ⟨#[]⟩) 1 16 Tryd.underlying22 hti hz0 hz1 hz2 rfl ?z0 (.slice a6 ht c6) ht (strsV P1) rfl (HOW2.out.alloc _) ⟨w7.heap.size, 0, none⟩ 1 1 [.string r2] rfl rfl (lit_one w7 r2) (one_text r2) (Nat.zero_lt_one) HZ.out.1 HZ.out.2 (size_alloc_le ck _) _ rfl ?zc; (case z0 => decide); (intro g8 c8 w8 ho8 hg8 _ _; have HO8 := Lib.hid ho8; have ck := grown_row (grownBy_alloc' ck _) hg8 (fun g hg => (HOW2.out.lt g hg).1))))
      have CK := Lib.hid ck
      clear ck
      rw [push_strs] at HO8
      go_wp2_with fail
      go_ret
      exact ⟨_, rfl, HO8.out, CK.out⟩
    · have h1 := fun w0 (hg : w.grownBy w0 none) => (ih g (o + 2 ^ ht) (cap - 2 ^ ht) (i - 2 ^ ht) (L.drop (2 ^ ht)) (by omega) (by omega) l2 (by omega) s2 w0 (hv2.grown hg)).mono (fun e w' q => (show ∃ v', e = .returned v' ∧ w'.ownsRow w.heap.size 9 1 v' ht (strsV (pathH ht (L.drop (2 ^ ht)) (i - 2 ^ ht))) ∧ w.grownBy w' none from let ⟨v', q1, q2, q3⟩ := q; ⟨v', q1, own_base q2 hg.size, grownBy_trans hg q3⟩))
      have h2 := fun w0 (hg : w.grownBy w0 none) => refRoot_any ht g o cap (L.take (2 ^ ht)) (by omega) l1 (by omega) s1 w0 (hv1.grown hg)
      have HE : Hid (pathH (ht + 1) L i = pathH ht (L.drop (2 ^ ht)) (i - 2 ^ ht) ++ [rootH ht (L.take (2 ^ ht))]) := by show _ = _; rw [pathH, if_neg hlt]
      generalize rootH ht (L.take (2 ^ ht)) = r2 at h2 HE
      generalize pathH ht (L.drop (2 ^ ht)) (i - 2 ^ ht) = P1 at h1 HE
      rw [hN] at h1 h2 hp0 hp6 hM hlt
      obtain ⟨k, hk⟩ : ∃ k, i - N = k := ⟨_, rfl⟩
      rw [hk] at h1
      have hik : (i : Int) - (N : Int) = (k : Int) := by omega
      have hw : IntKind.i64.wrap (k : Int) = (k : Int) := IntWalk.i64_in _ (by omega)
      have H1 : Hid (∀ w0 : World, w.grownBy w0 none → Calls Tryd.prog 11 #[.slice (some ⟨g, o + N, none⟩) (M - N) (cap - N), .int .i64 k] w0 fun e w' => ∃ v', e = .returned v' ∧ w'.ownsRow w.heap.size 9 1 v' ht (strsV P1) ∧ w.grownBy w' none) := by
        rw [show M - N = N from by omega]
        exact h1
      have H2 := Lib.hid h2
      rw [HE.out]
      have b1 : (0 : Int) ≤ (N : Int) := by omega
      have b2 : (N : Int) ≤ (cap : Int) := by omega
      have b3 : (N : Int) ≤ (M : Int) := by omega
      have b4 : ((M : Int) == 1) = false := by simp; omega
      have b5 : (M : Int) / 2 = (N : Int) := by omega
      have b7 : (M : Int) ≤ (cap : Int) := by omega
      have b6 : ¬ cap = N := by omega
      have b8 : ¬ (i : Int) < (N : Int) := by omega
      clear hv h1 h2 hs ih hL e2 hN hv1 hv2 l1 l2 s1 s2 hM hi HE hk hlt
      go_enter Tryd.func11, Tryd.ntmps11
      go_wp2_with fail
      go_region_held3 (fun w' => w.grownBy w' none) (first | exact ck | exact grownBy_drew (World.grownBy.refl _ _) | exact grownBy_alloc' (by assumption) _)
        (first
          | (go_at_call 11; (with_reducible refine (H1.out _ (by assumption)).mono ?_); rintro e w6 ⟨v6, rfl, ho6, g6⟩; obtain ⟨a6, c6, rfl⟩ := slice_own' ho6; have HOW := Lib.hid ho6; have ck := g6)
          | (go_at_call 10; (with_reducible refine (H2.out _ (by assumption)).mono ?_); rintro e w7 ⟨rfl, g7⟩; have HOW2 := Lib.hid (own_kept HOW.out g7); have ck := grownBy_trans (by assumption) g7)
          | (refine step_append_lies _ rfl (.tmp 32) (.tmp 37) 22 rfl w.heap.size 9 i0 (.string ⟨#[]⟩) 1 16 Tryd.underlying22 hti hz0 hz1 hz2 rfl ?y0 (.slice a6 ht c6) ht (strsV P1) rfl (HOW2.out.alloc _) ⟨w7.heap.size, 0, none⟩ 1 1 [.string r2] rfl rfl (lit_one w7 r2) (one_text r2) (Nat.zero_lt_one) HZ.out.1 HZ.out.2 (size_alloc_le ck _) _ rfl ?yc; (case y0 => decide); (intro g8 c8 w8 ho8 hg8 _ _; have HO8 := Lib.hid ho8; have ck := grown_row (grownBy_alloc' ck _) hg8 (fun g hg => (HOW2.out.lt g hg).1))))
      have CK := Lib.hid ck
      clear ck
      rw [push_strs] at HO8
      go_wp2_with fail
      go_ret
      exact ⟨_, rfl, HO8.out, CK.out⟩
end Go.Proofs.YtmdogeampigfoaaDoor
