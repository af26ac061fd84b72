/- The law RosterAdds, at a world that is ready. -/
import Derived.Test.YtioahjdojgcfdaaDoorRosterAddsLaw
import Derived.Test.YtioahjdojgcfdaaDoorRosterAddsB3
namespace Go.Proofs.YtioahjdojgcfdaaDoor
open Go.RowKit
attribute [local irreducible] shaL

theorem normAt_ready {w : World} (h : Ready w) : NormAt w := fun s w' hs g => (normal_at s w' (by omega) (h.below (below_grownBy g))).mono fun _ _ k => ⟨k.1, grownBy_below k.2⟩
theorem rosterAdds_below (la : Option Addr) (ln lc : Nat) (LIN : List LA) (at_ : Int) (w : World) (hl : LAsAt w (.slice la ln lc) LIN) (hs : ∀ x ∈ LIN, x.n.size ≤ maxLen) (hln : ln ≤ maxLen) (hat : -9223372036854775808 ≤ at_ ∧ at_ ≤ 9223372036854775807) (hn : Ready w) :
    Calls Tryd.prog 8 #[.slice la ln lc, .int .i64 at_] w fun e w' => e = .returned (.bool true) ∧ Below w.heap.size w w' :=
  (rosterAdds_walk la ln lc LIN at_ w hl hs hln hat (normAt_ready hn)).mono fun _ _ h => ⟨h.1, below_grownBy h.2⟩
end Go.Proofs.YtioahjdojgcfdaaDoor
