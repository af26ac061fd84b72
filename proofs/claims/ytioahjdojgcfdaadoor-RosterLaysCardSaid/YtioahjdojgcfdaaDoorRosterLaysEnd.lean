/- The law RosterLays, at a world that is ready. -/
import Derived.Test.YtioahjdojgcfdaaDoorRosterLaysLaw
import Derived.Test.YtioahjdojgcfdaaDoorRosterLaysB3
namespace Go.Proofs.YtioahjdojgcfdaaDoor
open Go.RowKit
attribute [local irreducible] shaL

theorem normAt_ready {w : World} (h : Ready w) : NormAt w := fun s w' hs g => (normal_at s w' (by omega) (h.below (below_grownBy g))).mono fun _ _ k => ⟨k.1, grownBy_below k.2⟩
theorem rosterLays_below (c : Int) (hc : 0 ≤ c ∧ c ≤ 255) (lb : ByteArray) (w : World) (hr : ShaReady w) (hn : Ready w) :
    Calls Tryd.prog 9 #[.int .u8 c, .string lb] w fun e w' => e = .returned (.bool true) ∧ Below w.heap.size w w' := by
  obtain ⟨c, rfl⟩ := Int.eq_ofNat_of_zero_le hc.1
  exact (rosterLays_walk c (by omega) lb w hr (normAt_ready hn)).mono fun _ _ h => ⟨h.1, below_grownBy h.2⟩
end Go.Proofs.YtioahjdojgcfdaaDoor
