/- The walk of a Reader's End. -/
import Derived.Test.YtemgeelgkokpcaaDoorOctetR
namespace Go.Proofs.YtemgeelgkokpcaaDoor
open Go.RowKit

set_option maxHeartbeats 400000 in
theorem end_any (w : World) (p : Option Addr) (st : Option RSt) (h : RsAt w p st) :
    Calls Tryd.prog 29 #[.pointer p] w fun e w' => e = .returned (.int .i64 ((st.map fun s => s.done).getD 1)) ∧ w = w' := by
  cases st with
  | none =>
    obtain rfl := h
    go_enter Tryd.func29, Tryd.ntmps29
    go_wp2
    go_ret
    exact ⟨rfl, rfl⟩
  | some st =>
    obtain ⟨b, rfl, hb⟩ := h
    have c0 := cell_of hb 0
    have c1 := cell_of hb 1
    simp at c0 c1
    clear hb
    go_enter Tryd.func29, Tryd.ntmps29
    go_wp2
    · go_ret
      have h1 : st.err = 0 := by assumption
      have h2 : (!st.rest.toList.isEmpty) = true := by assumption
      refine ⟨?_, rfl⟩
      rw [emp] at h2
      simp at h2
      simp [RSt.done, h1, h2]
    · go_ret
      have h1 : st.err = 0 := by assumption
      have h2 : (!st.rest.toList.isEmpty) = false := by assumption
      refine ⟨?_, rfl⟩
      rw [emp] at h2
      simp at h2
      simp [RSt.done, h1, h2]
    · go_ret
      have h1 : ¬ st.err = 0 := by assumption
      refine ⟨?_, rfl⟩
      simp [RSt.done, h1]

/-- what a call leaves of a Reader -/
def RsLeft (st : Option RSt) (f : RSt → RSt) (w : World) (p : Option Addr) (w' : World) : Prop := RsAt w' p (st.map f) ∧ w.grownBy w' (prow p)

end Go.Proofs.YtemgeelgkokpcaaDoor
