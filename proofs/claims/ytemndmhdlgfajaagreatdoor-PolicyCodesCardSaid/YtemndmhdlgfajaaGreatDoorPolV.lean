/- Verify of what a key signed; a key's root has 16 bytes. -/
import Derived.Test.YtemndmhdlgfajaaGreatDoorPolicyCodesB5
import Derived.Test.YtemndmhdlgfajaaGreatDoorXmssC
import Derived.Handy
import Derived.Deep.DeepCutAuto
import Derived.Deep.RegionHeld3
namespace Go.Proofs.YtemndmhdlgfajaaGreatDoor
open Go.RowKit
attribute [local irreducible] shaL

def aliceL : ByteArray := ⟨#[97, 108, 105, 99, 101]⟩
def seedA : ByteArray := ⟨#[97]⟩
theorem verify_own (seed m : ByteArray) (h i : Nat) (hh : h ≤ 6) (hi : i < 2 ^ h) (hm : m.size ≤ 1000000000000) (ca pa : Option Addr) (cc pc : Nat) (w : World) (hc : StrsAt w (.slice ca 35 cc) (chainsS seed i m)) (hp : StrsAt w (.slice pa h pc) (pathS h (leavesS seed h) i)) (hr : ShaReady w) :
    Calls Tryz.prog 12 #[.agg #[.string (openS seed), .string (rootK seed h), .int .i64 h], .string m, .agg #[.int .i64 i, .slice ca 35 cc, .slice pa h pc]] w fun e w' => e = .returned (.bool true) ∧ w.grownBy w' none :=
  verify_any (openS seed) (rootK seed h) m h i _ _ ca cc pa pc true hh hi (openS_size seed) hm (chains_35 seed m i) (chains_16 seed m i) (pathS_length h _ _) (path_small seed h i) (by rw [sign_climbs seed m h i hi]; simp) w hc hp hr
theorem rootS_16 : ∀ (h : Nat) (l : List ByteArray), l.length = 2 ^ h → (∀ s ∈ l, s.size = 16) → (rootS h l).size = 16
  | 0, [], e, _ => by simp at e
  | 0, a :: _, _, q => q a List.mem_cons_self
  | h + 1, l, e, q => rootS_16 h _ (aboveS_length _ _ (by rw [e, Nat.pow_succ, Nat.mul_comm])) (aboveS_sizes l)
theorem rootK_16 (seed : ByteArray) (h : Nat) : (rootK seed h).size = 16 := rootS_16 h _ (leavesS_length seed h) (leavesS_sizes seed h)
end Go.Proofs.YtemndmhdlgfajaaGreatDoor
