/- A disk's Start, beside blocks of the caller's own. · The walk of a disk's On. -/
import Derived.Test.YtbakhdbnfmoceaaGreatDoorSecK
import Derived.Test.YtbakhdbnfmoceaaGreatDoorSecStart
import Derived.Test.YtbakhdbnfmoceaaGreatDoorSecABCDE
namespace Go.Proofs.YtbakhdbnfmoceaaGreatDoor
open Go.RowKit

section
variable {n0 : Nat} {X : List Nat} {w : World} {b : Nat} {D : DiskS}
theorem start_k (hm : KDisk n0 X w b D) : Calls Tryz.prog 15 #[.pointer (some ⟨b, 0, none⟩)] w fun e w' => e = .returned (.tuple #[]) ∧ KDisk n0 X w' b { D with on := true } ∧ Turn (rest n0 X) w w' :=
  (start_at _ b D w hm).mono fun e w' q => ⟨q.1, KDisk.of q.2.1 (fun i _ z => z.1), q.2.2.mono (fun i _ e => by rw [e]; exact hm.own.1)⟩
end
end Go.Proofs.YtbakhdbnfmoceaaGreatDoor

namespace Go.Proofs.YtbakhdbnfmoceaaGreatDoor
open Go.RowKit

theorem on_nil (w : World) : Calls Tryz.prog 13 #[.pointer none] w fun e w' => e = .returned (.bool false) ∧ w = w' := by
  go_enter Tryz.func13, Tryz.ntmps13
  go_wp2_with fail
  go_ret
  exact ⟨rfl, rfl⟩
theorem on_cell (b : Nat) (on : Bool) (w : World) (h : w.cell? ⟨b, 2, none⟩ = some (.bool on)) : Calls Tryz.prog 13 #[.pointer (some ⟨b, 0, none⟩)] w fun e w' => e = .returned (.bool on) ∧ w = w' := by
  go_enter Tryz.func13, Tryz.ntmps13
  go_wp2_with fail
  go_ret
  exact ⟨rfl, rfl⟩
theorem on_at (F : Nat → Prop) (b : Nat) (D : DiskS) (w : World) (hm : DiskAt F w b D) : Calls Tryz.prog 13 #[.pointer (some ⟨b, 0, none⟩)] w fun e w' => e = .returned (.bool D.on) ∧ w = w' := by
  obtain ⟨lv, wv, kv, m, f1, f2, f3, f4⟩ := hm
  exact on_cell b D.on w (by rw [cell_of m.disk]; rfl)
end Go.Proofs.YtbakhdbnfmoceaaGreatDoor
