/- The walk of a disk's On. -/
import Derived.Test.YtfomchkmedoenaaSecE
namespace Go.Proofs.Ytfomchkmedoenaa
open Go.RowKit

theorem on_nil (w : World) : Calls Try.prog 16 #[.pointer none] w fun e w' => e = .returned (.bool false) ∧ w = w' := by
  go_enter Try.func16, Try.ntmps16
  go_wp2_with fail
  go_ret
  exact ⟨rfl, rfl⟩
theorem on_cell (b : Nat) (on : Bool) (w : World) (h : w.cell? ⟨b, 2, none⟩ = some (.bool on)) : Calls Try.prog 16 #[.pointer (some ⟨b, 0, none⟩)] w fun e w' => e = .returned (.bool on) ∧ w = w' := by
  go_enter Try.func16, Try.ntmps16
  go_wp2_with fail
  go_ret
  exact ⟨rfl, rfl⟩
theorem on_at (F : Nat → Prop) (b : Nat) (D : DiskS) (w : World) (hm : DiskAt F w b D) : Calls Try.prog 16 #[.pointer (some ⟨b, 0, none⟩)] w fun e w' => e = .returned (.bool D.on) ∧ w = w' := by
  obtain ⟨lv, wv, kv, m, f1, f2, f3, f4⟩ := hm
  exact on_cell b D.on w (by rw [cell_of m.disk]; rfl)
end Go.Proofs.Ytfomchkmedoenaa
