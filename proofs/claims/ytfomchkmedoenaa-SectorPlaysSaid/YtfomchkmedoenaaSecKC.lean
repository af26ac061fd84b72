/- A disk's Copy, beside blocks of the caller's own. -/
import Derived.Test.YtfomchkmedoenaaSecK
import Derived.Test.YtfomchkmedoenaaSecCopy
namespace Go.Proofs.Ytfomchkmedoenaa
open Go.RowKit

section
variable {n0 : Nat} {X : List Nat} {w : World} {b : Nat} {D : DiskS}
theorem copy_k (hX : ∀ x ∈ X, x < w.heap.size) (hn : n0 ≤ w.heap.size) (hm : KDisk n0 X w b D) (hl : D.last.length ≤ 100000) (hkl : D.keep.length ≤ 140737488351232) (hwl : D.wait.length ≤ 1000000000) :
    Calls Try.prog 14 #[.pointer (some ⟨b, 0, none⟩)] w fun e w' => ∃ b', e = .returned (.pointer (some ⟨b', 0, none⟩)) ∧ KDisk n0 X w' b' D ∧ w.grownBy w' none :=
  (copy_at _ b D w hm hl hkl hwl).mono fun e w' ⟨b', q1, q2, q3⟩ => ⟨b', q1, KDisk.of q2 (fun i _ q => ⟨Nat.le_trans hn q.1, fun hx => absurd (hX i hx) (by have := q.1; omega)⟩), q3⟩
end
end Go.Proofs.Ytfomchkmedoenaa
