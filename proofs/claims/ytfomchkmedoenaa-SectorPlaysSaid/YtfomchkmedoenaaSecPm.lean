/- SectorPlays: the walk of the document's Torn. -/
import Derived.Test.YtfomchkmedoenaaSecFull
import Derived.Test.YtfomchkmedoenaaSecPl
import Derived.BigQuiet
import Derived.Deep.QuietTactic
namespace Go.Proofs.Ytfomchkmedoenaa
open Go.RowKit

/-- Torn, as texts -/
def tornT (o s : ByteArray) (k : Nat) : ByteArray := s.extract 0 (min k 64) ++ o.extract (min k 64) 64
set_option maxRecDepth 100000 in
set_option maxHeartbeats 800000 in
theorem torn_any (o s : ByteArray) (ho : o.size = 64) (hs : s.size = 64) (k : Nat) (w : World) :
    Calls Try.prog 8 #[.string o, .string s, .int .i64 k] w fun e w' => e = .returned (.string (tornT o s k)) ∧ w.grownBy w' none := by
  obtain ⟨T, hT⟩ : ∃ T, tornT o s k = T := ⟨_, rfl⟩
  rw [hT]
  unfold tornT at hT
  by_cases hk : 64 < k
  · have q1 : (64 : Int) < (k : Int) := by omega
    rw [Nat.min_eq_right (by omega)] at hT
    have HT := Lib.hid hT
    clear hT hk
    go_enter Try.func8, Try.ntmps8
    go_wp2_with fail
    go_region
    go_wp2_with fail
    go_ret
    refine ⟨?_, grownBy_drew (World.grownBy.refl _ _)⟩
    rw [← HT.out, show o.extract 64 64 = ByteArray.empty from by simp, ByteArray.append_empty]
    rfl
  · have q1 : ¬ (64 : Int) < (k : Int) := by omega
    have q2 : (k : Int) ≤ 64 := by omega
    have q3 : (0 : Int) ≤ (k : Int) := by omega
    rw [Nat.min_eq_left (by omega)] at hT
    have HT := Lib.hid hT
    clear hT hk
    go_enter Try.func8, Try.ntmps8
    go_wp2_with fail
    go_region
    go_wp2_with fail
    go_ret
    exact ⟨by rw [← HT.out]; rfl, grownBy_drew (World.grownBy.refl _ _)⟩
end Go.Proofs.Ytfomchkmedoenaa
