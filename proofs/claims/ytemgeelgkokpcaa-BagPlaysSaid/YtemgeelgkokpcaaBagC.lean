/- The walks of slices.Delete and IndexFunc at letters; of a bag's For. -/
import Derived.Test.YtemgeelgkokpcaaBagB
namespace Go.Proofs.Ytemgeelgkokpcaa
open Go.RowKit

set_option maxRecDepth 100000 in
set_option maxHeartbeats 3200000 in
theorem delete_let (B g n c : Nat) (L : List LetS) (i : Nat) (w : World) (h : w.ownsRow B 30 4 (.slice (some ⟨g, 0, none⟩) n c) n (letsV L)) (hi : i < n) (hn : n ≤ 1000) (j : Nat) (hj : j = i + 1) :
    Calls Try.prog 14 #[.slice (some ⟨g, 0, none⟩) n c, .int .i64 i, .int .i64 j] w fun e w' => e = .returned (.slice (some ⟨g, 0, none⟩) (n - 1) c) ∧ w'.ownsRow B 30 4 (.slice (some ⟨g, 0, none⟩) (n - 1) c) (n - 1) (letsV (L.eraseIdx i)) ∧ w.grownBy w' (some g) := by
  obtain ⟨i0, hti, hz0, hz1, hz2⟩ := info_parts infoLet
  have hL : L.length = n := by have := h.1; rw [letsV_len] at this; omega
  have hnc : n ≤ c ∧ c ≤ maxLen := by
    rcases h.2 with ⟨h', _⟩ | ⟨g', cap', cur, h', hb, hg, hnc, hcm, _⟩
    · simp at h'
    · simp only [Value.slice.injEq, Option.some.injEq, Addr.mk.injEq, and_true, true_and] at h'
      obtain ⟨rfl, rfl⟩ := h'
      exact ⟨hnc, hcm⟩
  have hnc1 := hnc.1
  have hnc2 := hnc.2
  unfold maxLen at hnc2
  have hfin := own_delete h i hi [.int .i64 0, .int .i64 0, .int .i64 0, .string ⟨#[]⟩] rfl
  obtain ⟨news, hnews⟩ : ∃ news, news = letsV (L.drop (i + 1)) := ⟨_, rfl⟩
  rw [← hnews] at hfin
  have hnl : news.length = (n - j) * 4 := by rw [hj, hnews, letsV_len, List.length_drop, hL]
  have hall : ∀ j, j < n * 4 → w.cell? ⟨g, j, none⟩ = (letsV L)[j]? := fun j hj => h.cellAt j hj
  have hget : ∀ t u, news[t]? = some u → w.drew.cell? ⟨g, (i + 1) * 4 + t, none⟩ = some u := fun t u hu => by
    have ht : t < news.length := (List.getElem?_eq_some_iff.1 hu).1
    have : w.cell? ⟨g, (i + 1) * 4 + t, none⟩ = some u := by
      rw [hall _ (by omega), ← hu, hnews, ← letsV_drop, List.getElem?_drop]
    exact this
  obtain ⟨A, hA, hsrc⟩ : ∃ A : Addr, (if c = j then (some ⟨g, 0, none⟩ : Option Addr) else some ⟨g, j * 4, none⟩) = some A ∧ Hid (∀ t u, news[t]? = some u → w.drew.cell? (A.add t) = some u) := by
    by_cases h0 : c = j
    · refine ⟨⟨g, 0, none⟩, by simp [h0], fun t u hu => ?_⟩
      have : news.length = 0 := by omega
      rw [List.length_eq_zero_iff.1 this] at hu
      simp at hu
    · refine ⟨⟨g, j * 4, none⟩, by simp [h0], fun t u hu => ?_⟩
      rw [show Addr.add ⟨g, j * 4, none⟩ t = (⟨g, (i + 1) * 4 + t, none⟩ : Addr) from by rw [← hj]; unfold Addr.add; split <;> simp_all]
      exact hget t u hu
  have s2 : Hid (∀ u ∈ news, u.oneCell' = true) := by rw [hnews]; exact letsV_onecell _
  have hfr := h.frozenAt
  have s3 : Hid (∀ j, j < news.length → (w.drew.cell? ⟨g, 0 + i * 4 + j, none⟩).isSome = true ∧ w.drew.frozen? ⟨g, 0 + i * 4 + j, none⟩ = false) := fun j hj => by
    rw [Nat.zero_add]
    refine ⟨?_, hfr _⟩
    have : w.cell? ⟨g, i * 4 + j, none⟩ = (letsV L)[i * 4 + j]? := hall _ (by omega)
    show (w.cell? ⟨g, i * 4 + j, none⟩).isSome = true
    rw [this, List.getElem?_eq_getElem (by rw [letsV_len]; omega)]
    rfl
  obtain ⟨W1, hW1⟩ : ∃ W1, w.drew.setCells g (0 + i * 4) news = W1 := ⟨_, rfl⟩
  have hb1 : ∀ j, j < n * 4 → (W1.cell? ⟨g, j, none⟩).isSome = true ∧ W1.frozen? ⟨g, j, none⟩ = false := fun j hj => by
    rcases h.2 with ⟨h', _⟩ | ⟨g', cap', cur, h', hb, hg, hnc, hcm, hcs, htake⟩
    · simp at h'
    · simp only [Value.slice.injEq, Option.some.injEq, Addr.mk.injEq, and_true, true_and] at h'
      obtain ⟨rfl, rfl⟩ := h'
      have h1 := heap_setCells news (0 + i * 4) w.drew cur hg (by rw [hnl, hcs]; omega)
      rw [hW1] at h1
      refine ⟨?_, free_of h1 j⟩
      rw [cell_of h1, Array.getElem?_eq_getElem (by simp [hnl, hcs]; omega)]
      rfl
  have hcl : ∀ ty, (Builtin.clear_ #[26] ty #[.slice (some ⟨g, (n - 1) * 4, none⟩) 1 (c - (n - 1))]).run Try.prog W1 = .ok (.tuple #[]) (W1.setCells g ((n - 1) * 4) [.int .i64 0, .int .i64 0, .int .i64 0, .string ⟨#[]⟩]) :=
    fun ty => clear_let W1 ty g ((n - 1) * 4) (c - (n - 1)) (fun j hj => (hb1 _ (by omega)).1) (fun j hj => (hb1 _ (by omega)).2)
  have hfin' : (W1.setCells g ((n - 1) * 4) [.int .i64 0, .int .i64 0, .int .i64 0, .string ⟨#[]⟩]).ownsRow B 30 4 (.slice (some ⟨g, 0, none⟩) (n - 1) c) (n - 1) (letsV (L.eraseIdx i)) ∧ w.grownBy (W1.setCells g ((n - 1) * 4) [.int .i64 0, .int .i64 0, .int .i64 0, .string ⟨#[]⟩]) (some g) := by
    rw [← hW1, Nat.zero_add]
    have e : ∀ (vs : List Value) (o : Nat) (u : World), u.drew.setCells g o vs = (u.setCells g o vs).drew := by
      intro vs
      induction vs with
      | nil => intro o u; rfl
      | cons v r ih => intro o u; rw [World.setCells, World.setCells]; exact ih (o + 1) (u.setCell ⟨g, o, none⟩ v)
    rw [e, e]
    exact ⟨hfin.1, grownBy_drew hfin.2⟩
  obtain ⟨m, hm⟩ : ∃ m, n - 1 = m := ⟨_, rfl⟩
  rw [hm] at hcl hfin' ⊢
  have HF := Lib.hid hfin'
  have HS := Lib.hid hnl
  have HW := Lib.hid hW1
  have im : i + (n - j) = m := by omega
  have d1 : (i : Int) ≤ (j : Int) := by omega
  have d2 : (j : Int) ≤ (n : Int) := by omega
  have d3 : (n : Int) ≤ (c : Int) := by omega
  have d4 : ((i : Int) == (j : Int)) = false := beq_eq_false_iff_ne.2 (by omega)
  have d5 : (i : Int) ≤ (c : Int) := by omega
  have d6 : ¬ (c = m) := by omega
  have d7 : (m : Int) ≤ (n : Int) := by omega
  have d8 : (m : Int) ≤ (c : Int) := by omega
  have hroom : i + (n - j) ≤ c := by omega
  have k1 : n - m = 1 := by omega
  clear hm hfin hnews hnl hall hget hfr hb1 hfin' hW1 h hL hnc hnc2
  have HJ := Lib.hid hj
  clear hj
  go_enter Try.func14, Try.ntmps14
  go_wp2_with fail
  go_region_law (refine step_append_room rfl (.tmp 22) (.tmp 25) 26 rfl 30 i0 4 Try.underlying26 hti hz1 g 0 i c rfl A (n - j) (c - j) news (by simp [Act.eval, Act.put, hA]) HS.out hsrc.out s2.out hroom s3.out ?_; rw [HW.out])
  go_wp2_with fail
  go_ret
  exact ⟨rfl, HF.out.1, HF.out.2⟩
end Go.Proofs.Ytemgeelgkokpcaa
