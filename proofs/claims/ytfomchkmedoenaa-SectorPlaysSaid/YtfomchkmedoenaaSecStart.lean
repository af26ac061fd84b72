/- The walk of a disk's Start. -/
import Derived.Test.YtfomchkmedoenaaSecE
namespace Go.Proofs.Ytfomchkmedoenaa
open Go.RowKit

theorem start_nil (w : World) : Calls Try.prog 13 #[.pointer none] w fun e w' => e = .returned (.tuple #[]) ∧ w = w' := by
  go_enter Try.func13, Try.ntmps13
  go_wp2_with fail
  go_end0
  exact ⟨rfl, rfl⟩
theorem start_cell (b : Nat) (on : Bool) (w : World) (h : w.cell? ⟨b, 2, none⟩ = some (.bool on)) (hf : w.frozen? ⟨b, 2, none⟩ = false) : Calls Try.prog 13 #[.pointer (some ⟨b, 0, none⟩)] w fun e w' => e = .returned (.tuple #[]) ∧ w.setCell ⟨b, 2, none⟩ (.bool true) = w' := by
  go_enter Try.func13, Try.ntmps13
  go_wp2_with fail
  go_end0
  exact ⟨rfl, rfl⟩

theorem start_at (F : Nat → Prop) (b : Nat) (D : DiskS) (w : World) (hm : DiskAt F w b D) : Calls Try.prog 13 #[.pointer (some ⟨b, 0, none⟩)] w fun e w' => e = .returned (.tuple #[]) ∧ DiskAt F w' b { D with on := true } ∧ Turn (fun i => i = b) w w' := by
  obtain ⟨lv, wv, kv, m, f1, f2, f3, f4⟩ := hm
  refine (start_cell b D.on w (by rw [cell_of m.disk]; rfl) (free_of m.disk 2)).mono ?_
  rintro e w' ⟨rfl, rfl⟩
  have t : Turn (fun i => i = b) w (w.setCell ⟨b, 2, none⟩ (.bool true)) := (Turn.refl (fun i => i = b) w).setCell (fun _ => rfl) _ _
  exact ⟨rfl, ⟨lv, wv, kv, m.setHead t (fuse := D.fuse) (heap_setCell m.disk 2 _), f1, f2, f3, f4⟩, t⟩
end Go.Proofs.Ytfomchkmedoenaa
