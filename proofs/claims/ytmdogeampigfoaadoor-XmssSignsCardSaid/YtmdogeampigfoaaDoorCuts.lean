/- Texts cut short; lists of texts by a function; small numbers of bytes. No walk. -/
import Derived.Test.YtmdogeampigfoaaDoorWotsSpec
import Derived.WalkKit
namespace Go.Proofs.YtmdogeampigfoaaDoor
open Go.RowKit

/-- a text's first bytes -/
def cutAt (n : Nat) (s : ByteArray) : ByteArray := if s.size ≤ n then s else s.extract 0 n
theorem cutAt_size (n : Nat) (s : ByteArray) : (cutAt n s).size ≤ n := by
  unfold cutAt
  split
  · assumption
  · rw [ByteArray.size_extract]; omega
theorem cutAt_le (n : Nat) (s : ByteArray) (h : s.size ≤ n) : cutAt n s = s := if_pos h
theorem cutAt_gt (n : Nat) (s : ByteArray) (h : ¬ s.size ≤ n) : cutAt n s = s.extract 0 n := if_neg h
def allS (f : Nat → ByteArray) (k : Nat) : List ByteArray := (List.range k).map f
theorem allS_length (f : Nat → ByteArray) (k : Nat) : (allS f k).length = k := by simp [allS]
theorem allS_succ (f : Nat → ByteArray) (k : Nat) : allS f (k + 1) = allS f k ++ [f k] := by simp [allS, List.range_succ]
theorem allS_sizes (f : Nat → ByteArray) (k N : Nat) (h : ∀ i, (f i).size ≤ N) : ∀ s ∈ allS f k, s.size ≤ N := by
  intro s hs
  obtain ⟨i, _, rfl⟩ := List.mem_map.1 hs
  exact h i
theorem u8and3_all : ((List.range 256).all fun k => bits .and .u8 (k : Int) 3 == ((k % 4 : Nat) : Int)) = true := by decide +kernel
theorem u8and3 (k : Nat) (h : k < 256) : bits .and .u8 (k : Int) 3 = ((k % 4 : Nat) : Int) := eq_of_beq (List.all_eq_true.1 u8and3_all k (List.mem_range.2 h))
end Go.Proofs.YtmdogeampigfoaaDoor
