/- Plain functions for package logbook. No walk. -/
import Derived.Test.YtbakhdbnfmoceaaGreatDoorWotsSpec
namespace Go.Proofs.YtbakhdbnfmoceaaGreatDoor
open Go.RowKit
attribute [local irreducible] shaL

/-- how many parts a record of so many bytes has -/
def partsN (n : Nat) : Nat := if n < 1 then 1 else (n - 1) / 39 + 1
theorem partsN_pos (n : Nat) : 1 ≤ partsN n := by unfold partsN; split <;> omega
theorem partsN_le (n : Nat) (h : n ≤ 900) : partsN n ≤ 24 := by unfold partsN; split <;> omega
theorem partsN_in (n i : Nat) (h : i < partsN n) : 39 * i ≤ n := by unfold partsN at h; split at h <;> omega
theorem partsN_mid (n i : Nat) (h : i + 1 < partsN n) : 39 * (i + 1) ≤ n := by unfold partsN at h; split at h <;> omega
theorem partsN_last (n i : Nat) (h : i + 1 = partsN n) : n ≤ 39 * (i + 1) := by unfold partsN at h; split at h <;> omega
theorem partsN_part (n i : Nat) (h : i < partsN n) : min (39 * (i + 1)) n - 39 * i ≤ 39 := by omega
/-- a record's name -/
def nameS (turn num : Nat) (s : ByteArray) : ByteArray := (tagS 7 [str (be turn 4), str (be num 2), s]).extract 0 8
theorem nameS_size (turn num : Nat) (s : ByteArray) : (nameS turn num s).size = 8 := by
  unfold nameS
  rw [ByteArray.size_extract, tagS_size]
  rfl
/-- a part of a record -/
def partS (s : ByteArray) (i : Nat) : ByteArray := s.extract (39 * i) (min (39 * (i + 1)) s.size)
theorem partS_size (s : ByteArray) (i : Nat) : (partS s i).size = min (39 * (i + 1)) s.size - 39 * i := by
  unfold partS
  rw [ByteArray.size_extract]
  omega
/-- what a part's sector begins with -/
def bodyL (turn num : Nat) (s : ByteArray) (i : Nat) : List UInt8 :=
  be turn 4 ++ be num 2 ++ be i 1 ++ be (partsN s.size) 1 ++ be (partS s i).size 1 ++ (nameS turn num s).data.toList ++ (partS s i).data.toList ++ List.replicate (39 - (partS s i).size) 0
theorem bodyL_length (turn num : Nat) (s : ByteArray) (i : Nat) : (bodyL turn num s i).length = 56 := by
  have h1 : (nameS turn num s).data.toList.length = 8 := nameS_size turn num s
  have h2 : (partS s i).data.toList.length = (partS s i).size := rfl
  have h3 := partS_size s i
  unfold bodyL
  simp only [List.length_append, be_length, List.length_replicate, h1, h2]
  omega
/-- a part's sector -/
def sumS (body : ByteArray) : ByteArray := body ++ (tagS 8 [body]).extract 0 8
def secS (turn num : Nat) (s : ByteArray) (i : Nat) : ByteArray := sumS (str (bodyL turn num s i))
theorem secS_size (turn num : Nat) (s : ByteArray) (i : Nat) : (secS turn num s i).size = 64 := by
  unfold secS sumS
  rw [ByteArray.size_append, ByteArray.size_extract, tagS_size, str_size, bodyL_length]
  rfl
/-- a record's sectors: the first k of them -/
def nextK (turn num : Nat) (s : ByteArray) (k : Nat) : List ByteArray := (List.range k).map (secS turn num s)
theorem nextK_length (turn num : Nat) (s : ByteArray) (k : Nat) : (nextK turn num s k).length = k := by simp [nextK]
theorem nextK_succ (turn num : Nat) (s : ByteArray) (k : Nat) : nextK turn num s (k + 1) = nextK turn num s k ++ [secS turn num s k] := by simp [nextK, List.range_succ]
def nextS (turn num : Nat) (s : ByteArray) : List ByteArray := nextK turn num s (partsN s.size)
theorem nextS_length (turn num : Nat) (s : ByteArray) : (nextS turn num s).length = partsN s.size := nextK_length _ _ _ _
theorem nextS_size (turn num : Nat) (s : ByteArray) : ∀ t ∈ nextS turn num s, t.size = 64 := by
  intro t ht
  obtain ⟨i, _, rfl⟩ := List.mem_map.1 ht
  exact secS_size _ _ _ _
end Go.Proofs.YtbakhdbnfmoceaaGreatDoor
