/- The walk of slices.Delete of one letter. -/
import Derived.Test.YtemgeelgkokpcaaBagA
import Derived.Lib.SliceRun
namespace Go.Proofs.Ytemgeelgkokpcaa
open Go.RowKit

theorem zero_let (w : World) : (zeroValue 30).run Try.prog w = .ok (.agg #[.int .i64 0, .int .i64 0, .int .i64 0, .string ⟨#[]⟩]) w := by
  obtain ⟨i0, hi, hz0, hz1, hz2⟩ := info_parts infoLet
  simp [zeroValue, typeInfo, hi, hz0]
theorem clear_let (w : World) (ty : TypeId) (b o c : Nat) (hc : ∀ j, j < 4 → (w.cell? ⟨b, o + j, none⟩).isSome = true) (hf : ∀ j, j < 4 → w.frozen? ⟨b, o + j, none⟩ = false) :
    (Builtin.clear_ #[26] ty #[.slice (some ⟨b, o, none⟩) 1 c]).run Try.prog w = .ok (.tuple #[]) (w.setCells b o [.int .i64 0, .int .i64 0, .int .i64 0, .string ⟨#[]⟩]) := by
  have hst := run_storeCells_cells (P := Try.prog) b o [.int .i64 0, .int .i64 0, .int .i64 0, .string ⟨#[]⟩] 0 w (by simpa using hc) (by simpa using hf) (by intro v hv'; simp only [List.mem_cons, List.not_mem_nil, or_false] at hv'; rcases hv' with rfl | rfl | rfl | rfl <;> rfl)
  simp only [Nat.add_zero] at hst
  have hz : (Builtin.zeroCells (Value.agg #[.int .i64 0, .int .i64 0, .int .i64 0, .string ⟨#[]⟩]).cells 1) = #[.int .i64 0, .int .i64 0, .int .i64 0, .string ⟨#[]⟩] := by kernel_rfl
  simp [Builtin.clear_, run_underlying Try.underlying26, zero_let, hz, hst]
theorem grownBy_setCellsG {a : World} {g : Nat} : ∀ (vs : List Value) (o : Nat) (b : World), a.grownBy b (some g) → a.grownBy (b.setCells g o vs) (some g)
  | [], _, _, h => h
  | v :: r, o, b, h => by rw [World.setCells]; exact grownBy_setCellsG r (o + 1) _ (grownBy_setCell h o v)
/-- one letter taken out of its row, what stands behind moved ahead; zeros at the end -/
theorem own_delete {w : World} {B g n c : Nat} {L : List LetS} (h : w.ownsRow B 30 4 (.slice (some ⟨g, 0, none⟩) n c) n (letsV L)) (i : Nat) (hi : i < n) (z : List Value) (hz : z.length = 4) :
    ((w.setCells g (i * 4) (letsV (L.drop (i + 1)))).setCells g ((n - 1) * 4) z).ownsRow B 30 4 (.slice (some ⟨g, 0, none⟩) (n - 1) c) (n - 1) (letsV (L.eraseIdx i)) ∧ w.grownBy ((w.setCells g (i * 4) (letsV (L.drop (i + 1)))).setCells g ((n - 1) * 4) z) (some g) := by
  have hl := h.1
  rw [letsV_len] at hl
  have hl : L.length = n := by omega
  rcases h.2 with ⟨h', _⟩ | ⟨g', cap', cur, h', hb, hg, hnc, hcm, hcs, htake⟩
  · simp at h'
  · simp only [Value.slice.injEq, Option.some.injEq, Addr.mk.injEq, and_true, true_and] at h'
    obtain ⟨rfl, rfl⟩ := h'
    have hnl : (letsV (L.drop (i + 1))).length = (n - (i + 1)) * 4 := by rw [letsV_len, List.length_drop, hl]
    have h1 := heap_setCells (letsV (L.drop (i + 1))) (i * 4) w cur hg (by rw [hnl, hcs]; omega)
    have h2 := heap_setCells z ((n - 1) * 4) _ _ h1 (by simp [hnl, hz, hcs]; omega)
    have e1 : (cur.toList.take (i * 4) ++ letsV (L.drop (i + 1)) ++ cur.toList.drop (i * 4 + (letsV (L.drop (i + 1))).length)).take ((n - 1) * 4) = letsV (L.eraseIdx i) := by
      have e2 : cur.toList.take (i * 4) = letsV (L.take i) := by
        rw [← letsV_take, ← htake, List.take_take, Nat.min_eq_left (by omega)]
      rw [e2, ← letsV_append, ← List.eraseIdx_eq_take_drop_succ, List.take_append, List.take_of_length_le (by rw [letsV_len, List.length_eraseIdx_of_lt (by omega), hl]; omega), letsV_len, List.length_eraseIdx_of_lt (by omega), hl, Nat.sub_self, List.take_zero, List.append_nil]
    refine ⟨⟨by rw [letsV_len, List.length_eraseIdx_of_lt (by omega), hl], .inr ⟨g, c, _, rfl, hb, h2, by omega, hcm, ?_, ?_⟩⟩, ?_⟩
    · simp [hnl, hz, hcs]; omega
    · simp only [List.toList_toArray]
      rw [e1, List.append_assoc, List.take_append, List.take_of_length_le (by rw [letsV_len, List.length_eraseIdx_of_lt (by omega), hl]; omega), letsV_len, List.length_eraseIdx_of_lt (by omega), hl, Nat.sub_self, List.take_zero, List.append_nil]
    · exact grownBy_setCellsG z _ _ (grownBy_setCellsG _ _ _ (World.grownBy.refl w _))
end Go.Proofs.Ytemgeelgkokpcaa
