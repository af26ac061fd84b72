/- The law ItemAsks, below. -/
import Derived.Test.YtemgeelgkokpcaaDoorItemAsksLaw
import Derived.Test.YtemgeelgkokpcaaDoorOpenNods
namespace Go.Proofs.YtemgeelgkokpcaaDoor
open Go.RowKit

theorem itemAsks_below (aa : Option Addr) (an ac : Nat) (L : List NodI) (i k : Int) (w : World) (hL : NodsAt w (.slice aa an ac) L) (hI : InOk L) (hc : an ≤ ac) (hm : ac ≤ maxLen) (hT : IT w.heap.size w) :
    Calls Tryd.prog 4 #[.slice aa an ac, .int .i64 i, .int .i64 k] w fun e w' => e = .returned (.bool true) ∧ Below w.heap.size w w' :=
  (itemAsks_walk aa an ac L i k w hL hI hc hm hT).mono fun _ _ h => ⟨h.1, below_grownBy h.2⟩
end Go.Proofs.YtemgeelgkokpcaaDoor
