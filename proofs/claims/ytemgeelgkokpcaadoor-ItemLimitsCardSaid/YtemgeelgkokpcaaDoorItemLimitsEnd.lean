/- The law ItemLimits, below. -/
import Derived.Test.YtemgeelgkokpcaaDoorItemLimitsLaw
namespace Go.Proofs.YtemgeelgkokpcaaDoor
open Go.RowKit

theorem itemLimits_below (a b c : Int) (w : World) (hT : IT w.heap.size w) :
    Calls Tryd.prog 5 #[.int .i64 a, .int .i64 b, .int .i64 c] w fun e w' => e = .returned (.bool true) ∧ Below w.heap.size w w' :=
  (itemLimits_walk a b c w hT).mono fun _ _ h => ⟨h.1, below_grownBy h.2⟩
end Go.Proofs.YtemgeelgkokpcaaDoor
