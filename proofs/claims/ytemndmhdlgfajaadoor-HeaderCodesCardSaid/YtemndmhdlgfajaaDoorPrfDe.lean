/- The walk of Decode. -/
import Derived.Test.YtemndmhdlgfajaaDoorHeaderCodesB1
import Derived.Test.YtemndmhdlgfajaaDoorHeaderCodesB6
import Derived.Test.YtemndmhdlgfajaaDoorHeaderCodesB2
import Derived.Test.YtemndmhdlgfajaaDoorPrfV
import Derived.Deep.AppendLies
namespace Go.Proofs.YtemndmhdlgfajaaDoor
open Go.RowKit Go.Maps
attribute [local irreducible] shaL

theorem rd_num1 {w : World} {b : Nat} {s : RSt} (h : RdAt w b s.rest s.err) (hm : s.rest.size ≤ maxLen) :
    Calls Tryd.prog 50 #[.pointer (some ⟨b, 0, none⟩), .int .i64 1] w fun e w' => e = .returned (.int .u64 (s.num 1).1) ∧ RdAt w' b (s.num 1).2.rest (s.num 1).2.err ∧ w.grownBy w' (some b) := by
  refine (rnum_any 1 w (some ⟨b, 0, none⟩) (some s) ⟨b, rfl, h⟩ (by rintro x ⟨⟩; exact hm)).mono ?_
  rintro e w' ⟨rfl, hw, g⟩
  obtain ⟨b', e', hw⟩ := hw
  cases e'
  exact ⟨rfl, hw, g⟩
theorem rd_text1 {w : World} {b : Nat} {s : RSt} (h : RdAt w b s.rest s.err) (hm : s.rest.size ≤ maxLen) :
    Calls Tryd.prog 53 #[.pointer (some ⟨b, 0, none⟩)] w fun e w' => e = .returned (.string s.text.1) ∧ RdAt w' b s.text.2.rest s.text.2.err ∧ w.grownBy w' (some b) := by
  refine (rtext_any w (some ⟨b, 0, none⟩) (some s) ⟨b, rfl, h⟩ (by rintro x ⟨⟩; exact hm)).mono ?_
  rintro e w' ⟨rfl, hw, g⟩
  obtain ⟨b', e', hw⟩ := hw
  cases e'
  exact ⟨rfl, hw, g⟩
theorem text_rest_le (s : RSt) : s.text.2.rest.size ≤ s.rest.size := by
  have h1 := (rest_le s 2).1
  have hf : ∀ (s : RSt) e, (s.fail e).rest.size = s.rest.size := by intro s e; unfold RSt.fail; split <;> rfl
  unfold RSt.text
  split
  · show ((s.num 2).2.fail 4).rest.size ≤ _
    rw [hf]; exact h1
  · exact Nat.le_trans (rest_le _ _).2 h1
theorem readK_rest_le (s : RSt) : ∀ i, (readK s i).2.rest.size ≤ s.rest.size
  | 0 => Nat.le_refl _
  | i + 1 => Nat.le_trans (text_rest_le _) (readK_rest_le s i)
/-- what Decode tells -/
def DecPost (j : ByteArray) (w : World) (e : Ending) (w' : World) : Prop :=
  ((decS j).s.done ≠ 0 ∧ e = .returned (.tuple #[.agg emptyP, .int .i64 (decS j).s.done])) ∨
  ((decS j).s.done = 0 ∧ ((decS j).L.length > 128 ∨ (decS j).t > 1) ∧ e = .returned (.tuple #[.agg emptyP, .int .i64 4])) ∨
  ((decS j).s.done = 0 ∧ (decS j).L.length ≤ 128 ∧ (decS j).t ≤ 1 ∧ ∃ bv, e = .returned (.tuple #[.agg #[bv, .bool (decide ((decS j).t = 1)), .string (decS j).k, .string (decS j).y], .int .i64 0]) ∧ w'.ownsRow w.heap.size 9 1 bv (decS j).L.length (strsV (decS j).L))
end Go.Proofs.YtemndmhdlgfajaaDoor
