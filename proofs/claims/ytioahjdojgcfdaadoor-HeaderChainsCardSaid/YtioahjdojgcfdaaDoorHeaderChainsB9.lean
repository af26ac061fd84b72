/- The walk of the law HeaderParses. · The walk of the law HeaderCodes. -/
import Derived.Test.YtioahjdojgcfdaaDoorHdrT
import Derived.Test.YtioahjdojgcfdaaDoorHeaderChainsB6
import Derived.Test.YtioahjdojgcfdaaDoorHdrS
import Derived.Test.YtioahjdojgcfdaaDoorHdrR
namespace Go.Proofs.YtioahjdojgcfdaaDoor
open Go.RowKit
attribute [local irreducible] shaL

theorem HdrS.small_of {x : HdrS} (h : x.err = 0) : x.small := by
  obtain ⟨f1, f2, f3, f4⟩ := HdrS.fits h
  obtain ⟨_, g2, g3⟩ := HdrS.fit h
  have hp : 2 ^ x.d.toNat ≤ 16 := pow4 (by omega)
  exact ⟨by omega, by omega, by omega, fun s hs => by have := nodeOk_size (g3 s hs); omega⟩
theorem hdrZ_small : hdrZ.small := ⟨by show (0 : Nat) ≤ _; decide, by show (0 : Nat) ≤ _; decide, by show (0 : Nat) ≤ _; decide, fun s hs => by cases hs⟩
end Go.Proofs.YtioahjdojgcfdaaDoor

namespace Go.Proofs.YtioahjdojgcfdaaDoor
open Go.RowKit
attribute [local irreducible] shaL

theorem own_le {w : World} {B n : Nat} {t : TypeId} {a : Option Addr} {c : Nat} {xs : List Value} (h : w.ownsRow B t 1 (.slice a n c) n xs) : n ≤ c := by
  rcases h.2 with ⟨q, h0⟩ | ⟨g', cap', cur, e, _, _, h1, _⟩
  · omega
  · injection e with e1 e2 e3
    subst e3
    exact h1
end Go.Proofs.YtioahjdojgcfdaaDoor
