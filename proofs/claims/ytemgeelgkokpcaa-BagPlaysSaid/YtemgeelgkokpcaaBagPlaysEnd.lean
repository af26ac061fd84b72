/- The law BagPlays, below. -/
import Derived.Test.YtemgeelgkokpcaaBagPlaysLaw
namespace Go.Proofs.Ytemgeelgkokpcaa
open Go.RowKit

theorem bagPlays_below (aa : Option Addr) (an ac : Nat) (A : List ActB) (w : World) (hA : ActsB w (.slice aa an ac) A) (hO : ∀ x ∈ A, x.ok) (hm : an ≤ maxLen) :
    Calls Try.prog 3 #[.slice aa an ac] w fun e w' => e = .returned (.bool true) ∧ Below w.heap.size w w' :=
  (bagPlays_walk aa an ac A w hA hO hm).mono fun _ _ h => ⟨h.1, below_grownBy h.2⟩
end Go.Proofs.Ytemgeelgkokpcaa
