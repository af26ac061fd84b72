/- Lemmas for the law's arms: what is found from a place on; the end of a row. No walk. -/
import Derived.Test.YtemgeelgkokpcaaBagX
import Derived.Test.YtemgeelgkokpcaaBagI
namespace Go.Proofs.Ytemgeelgkokpcaa
open Go.RowKit

theorem addZB (g j : Nat) : (⟨g, 0, none⟩ : Addr).add j = ⟨g, j, none⟩ := by unfold Addr.add; split <;> simp_all
def wantL (L : List LetS) (z : Int) (kk : Nat) : Int := match (L.drop kk).findIdx? (fun x => decide (x.t = z)) with | none => -1 | some j => ((kk + j : Nat) : Int)
theorem wantL_end (L : List LetS) (z : Int) : wantL L z L.length = -1 := by unfold wantL; rw [List.drop_length]; rfl
theorem wantL_zero (L : List LetS) (z : Int) : wantL L z 0 = forL L z := by
  unfold wantL forL
  rw [List.drop_zero]
  cases L.findIdx? (fun x => decide (x.t = z)) with
  | none => rfl
  | some j => simp
theorem wantL_step (L : List LetS) (z : Int) (m : Nat) (x : LetS) (hx : L[m]? = some x) : wantL L z m = if x.t = z then (m : Int) else wantL L z (m + 1) := by
  obtain ⟨hm, hxe⟩ := List.getElem?_eq_some_iff.1 hx
  unfold wantL
  rw [List.drop_eq_getElem_cons hm, hxe, List.findIdx?_cons]
  by_cases h : x.t = z
  · rw [if_pos h]; simp [h]
  · rw [if_neg h]
    simp only [h, decide_false, Bool.false_eq_true, if_false]
    cases (L.drop (m + 1)).findIdx? (fun x => decide (x.t = z)) with
    | none => rfl
    | some j => simp; omega
theorem own_dropB (g n cap : Nat) (L : List LetS) (p1 : Nat) (hp : p1 ≤ n) : ∃ A : Addr, (if cap = p1 then (some ⟨g, 0, none⟩ : Option Addr) else some ⟨g, p1 * 4, none⟩) = some A ∧
    ∀ (base : Nat) (w' : World), w'.ownsRow base 30 4 (.slice (some ⟨g, 0, none⟩) n cap) n (letsV L) → ∀ j u, (letsV (L.drop p1))[j]? = some u → w'.cell? (A.add j) = some u := by
  by_cases h0 : cap = p1
  · refine ⟨⟨g, 0, none⟩, by simp [h0], fun base w' h j u hu => ?_⟩
    have hl := h.1
    rw [letsV_len] at hl
    have hnc : n ≤ cap := by
      rcases h.2 with ⟨h', _⟩ | ⟨g', cap', cur, h', hb, hg, hnc, _⟩
      · simp at h'
      · simp only [Value.slice.injEq, Option.some.injEq, Addr.mk.injEq, and_true, true_and] at h'
        obtain ⟨rfl, rfl⟩ := h'
        exact hnc
    rw [List.drop_of_length_le (by omega)] at hu
    simp [letsV] at hu
  · refine ⟨⟨g, p1 * 4, none⟩, by simp [h0], fun base w' h j u hu => ?_⟩
    have hl := h.1
    rw [letsV_len] at hl
    have hj := (List.getElem?_eq_some_iff.1 hu).1
    rw [letsV_len, List.length_drop] at hj
    rw [show Addr.add ⟨g, p1 * 4, none⟩ j = (⟨g, p1 * 4 + j, none⟩ : Addr) from by unfold Addr.add; split <;> simp_all, h.cellAt _ (by omega), ← hu, ← letsV_drop, List.getElem?_drop]
theorem take_dropB (L : List LetS) (p p1 : Nat) (h : p + 1 = p1) : letsV (L.take p) ++ letsV (L.drop p1) = letsV (L.eraseIdx p) := by
  rw [← h, ← letsV_append, ← List.eraseIdx_eq_take_drop_succ]
end Go.Proofs.Ytemgeelgkokpcaa
