/- The law ItemCodes, below. -/
import Derived.Test.YtemgeelgkokpcaaDoorItemCodesLaw
import Derived.Test.YtemgeelgkokpcaaDoorOpenNods
namespace Go.Proofs.YtemgeelgkokpcaaDoor
open Go.RowKit

theorem itemCodes_below (aa : Option Addr) (an ac : Nat) (L : List NodI) (w : World) (hL : NodsAt w (.slice aa an ac) L) (hI : InOk L) (hc : an ≤ ac) (hm : ac ≤ maxLen) (hT : IT w.heap.size w) :
    Calls Tryd.prog 3 #[.slice aa an ac] w fun e w' => e = .returned (.bool true) ∧ Below w.heap.size w w' :=
  (itemCodes_walk aa an ac L w hL hI hc hm hT).mono fun _ _ h => ⟨h.1, below_grownBy h.2⟩
end Go.Proofs.YtemgeelgkokpcaaDoor
