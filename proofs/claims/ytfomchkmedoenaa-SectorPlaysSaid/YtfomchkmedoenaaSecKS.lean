/- A disk's Start, beside blocks of the caller's own. -/
import Derived.Test.YtfomchkmedoenaaSecK
import Derived.Test.YtfomchkmedoenaaSecStart
namespace Go.Proofs.Ytfomchkmedoenaa
open Go.RowKit

section
variable {n0 : Nat} {X : List Nat} {w : World} {b : Nat} {D : DiskS}
theorem start_k (hm : KDisk n0 X w b D) : Calls Try.prog 13 #[.pointer (some ⟨b, 0, none⟩)] w fun e w' => e = .returned (.tuple #[]) ∧ KDisk n0 X w' b { D with on := true } ∧ Turn (rest n0 X) w w' :=
  (start_at _ b D w hm).mono fun e w' q => ⟨q.1, KDisk.of q.2.1 (fun i _ z => z.1), q.2.2.mono (fun i _ e => by rw [e]; exact hm.own.1)⟩
end
end Go.Proofs.Ytfomchkmedoenaa
