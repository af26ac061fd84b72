/- Plain words: items as trees; their depth, bytes, text, nodes. No walk. -/
import Derived.Test.YtemgeelgkokpcaaDoorMem
import Derived.Test.YtemgeelgkokpcaaDoorTurn
import Derived.Test.YtemgeelgkokpcaaDoorOctetSpec
import Derived.IntWalk
import Derived.Lib.ItoaNum
namespace Go.Proofs.YtemgeelgkokpcaaDoor
open Go.RowKit

inductive Tr where
  | num (n : Int)
  | text (s : ByteArray)
  | list (l : List Tr)
mutual
def depT : Tr → Nat
  | .num _ => 1
  | .text _ => 1
  | .list l => depTs l + 1
def depTs : List Tr → Nat
  | [] => 0
  | t :: r => max (depT t) (depTs r)
end
mutual
def cntT : Tr → Nat
  | .num _ => 1
  | .text _ => 1
  | .list l => cntTs l + 1
def cntTs : List Tr → Nat
  | [] => 0
  | t :: r => cntT t + cntTs r
end
/-- the bytes of an int64, as a uint64 -/
def u64 (n : Int) : Nat := (n % 18446744073709551616).toNat
mutual
def encT : Tr → List UInt8
  | .num n => 1 :: be (u64 n) 8
  | .text s => 2 :: (be s.size 2 ++ s.data.toList)
  | .list l => 3 :: (be l.length 2 ++ encTs l)
def encTs : List Tr → List UInt8
  | [] => []
  | t :: r => encT t ++ encTs r
end
/- why an item has no bytes; of a list the first one of its items -/
mutual
def errT : Tr → Int
  | .num _ => 0
  | .text s => if 4096 < s.size then 2 else 0
  | .list l => if 256 < l.length then 22 else errTs l
def errTs : List Tr → Int
  | [] => 0
  | t :: r => if errT t ≠ 0 then errT t else errTs r
end
/- numbers are int64s -/
mutual
def okT : Tr → Prop
  | .num n => -9223372036854775808 ≤ n ∧ n ≤ 9223372036854775807
  | .text s => s.size ≤ 1000000
  | .list l => l.length ≤ 1000000 ∧ okTs l
def okTs : List Tr → Prop
  | [] => True
  | t :: r => okT t ∧ okTs r
end
def hexI (n : Nat) : UInt8 := if n < 10 then UInt8.ofNat (48 + n) else UInt8.ofNat (87 + n)
def plainB (c : UInt8) : Bool := decide (32 ≤ c.toNat) && (decide (c.toNat ≤ 126) && (decide (c.toNat ≠ 34) && decide (c.toNat ≠ 92)))
def quoteB (c : UInt8) : List UInt8 := if plainB c then [c] else [92, 120, hexI (c.toNat / 16), hexI (c.toNat % 16)]
def quoteL (s : List UInt8) : List UInt8 := 34 :: (s.flatMap quoteB ++ [34])
mutual
def showT : Tr → List UInt8
  | .num n => Lib.itoa n
  | .text s => quoteL s.data.toList
  | .list l => 91 :: showTs 0 l
/-- the items from place k on, and the bracket behind them -/
def showTs : Nat → List Tr → List UInt8
  | _, [] => [93]
  | k, t :: r => (if 0 < k then [32] else []) ++ (showT t ++ showTs (k + 1) r)
end
/-- a node of the document's -/
structure NodeR where
  k : Int
  n : Int
  t : ByteArray
  c : Int
mutual
def nodT : Tr → List NodeR
  | .num n => [⟨1, n, ⟨#[]⟩, 0⟩]
  | .text s => [⟨2, 0, s, 0⟩]
  | .list l => ⟨3, 0, ⟨#[]⟩, l.length⟩ :: nodTs l
def nodTs : List Tr → List NodeR
  | [] => []
  | t :: r => nodT t ++ nodTs r
end
theorem depT_pos : ∀ t : Tr, 1 ≤ depT t
  | .num _ => Nat.le_refl _
  | .text _ => Nat.le_refl _
  | .list l => by rw [depT]; omega
theorem encTs_append : ∀ (a b : List Tr), encTs (a ++ b) = encTs a ++ encTs b
  | [], b => by simp [encTs]
  | t :: r, b => by rw [List.cons_append, encTs, encTs, encTs_append r b, List.append_assoc]
theorem nodTs_append : ∀ (a b : List Tr), nodTs (a ++ b) = nodTs a ++ nodTs b
  | [], b => by simp [nodTs]
  | t :: r, b => by rw [List.cons_append, nodTs, nodTs, nodTs_append r b, List.append_assoc]
theorem depTs_append : ∀ (a b : List Tr), depTs (a ++ b) = max (depTs a) (depTs b)
  | [], b => by simp [depTs]
  | t :: r, b => by rw [List.cons_append, depTs, depTs, depTs_append r b]; omega
theorem cntTs_append : ∀ (a b : List Tr), cntTs (a ++ b) = cntTs a + cntTs b
  | [], b => by simp [cntTs]
  | t :: r, b => by rw [List.cons_append, cntTs, cntTs, cntTs_append r b]; omega
theorem okTs_append : ∀ (a b : List Tr), okTs (a ++ b) ↔ okTs a ∧ okTs b
  | [], b => by simp [okTs]
  | t :: r, b => by rw [List.cons_append, okTs, okTs, okTs_append r b, and_assoc]
theorem okTs_mem : ∀ {l : List Tr} {t : Tr}, okTs l → t ∈ l → okT t
  | t :: r, x, h, hx => by
    rw [okTs] at h
    rcases List.mem_cons.1 hx with rfl | q
    · exact h.1
    · exact okTs_mem h.2 q
theorem cntTs_mem : ∀ {l : List Tr} {t : Tr}, t ∈ l → cntT t ≤ cntTs l
  | t :: r, x, hx => by
    rw [cntTs]
    rcases List.mem_cons.1 hx with rfl | q
    · omega
    · have := cntTs_mem q; omega
theorem depTs_mem : ∀ {l : List Tr} {t : Tr}, t ∈ l → depT t ≤ depTs l
  | t :: r, x, hx => by
    rw [depTs]
    rcases List.mem_cons.1 hx with rfl | q
    · omega
    · have := depTs_mem q; omega
theorem errTs_append : ∀ (a b : List Tr), errTs (a ++ b) = if errTs a ≠ 0 then errTs a else errTs b
  | [], b => by simp [errTs]
  | t :: r, b => by
    rw [List.cons_append, errTs, errTs, errTs_append r b]
    by_cases h : errT t = 0 <;> simp [h]
theorem errTs_take {l : List Tr} {k : Nat} {t : Tr} (h0 : errTs (l.take k) = 0) (h : l[k]? = some t) : errTs (l.take (k + 1)) = errT t := by
  rw [List.take_add_one, h, Option.toList_some, errTs_append, h0, if_neg (by simp), errTs, errTs]
  by_cases h : errT t = 0 <;> simp [h]
theorem errTs_at {l : List Tr} {k : Nat} {t : Tr} (h0 : errTs (l.take k) = 0) (h : l[k]? = some t) (he : errT t ≠ 0) : errTs l = errT t := by
  have h1 := errTs_take h0 h
  rw [← List.take_append_drop (k + 1) l, errTs_append, h1, if_pos he]
theorem encTs_take {l : List Tr} {k : Nat} {t : Tr} (h : l[k]? = some t) : encTs (l.take (k + 1)) = encTs (l.take k) ++ encT t := by
  rw [List.take_add_one, h, Option.toList_some, encTs_append, encTs, encTs, List.append_nil]
theorem encTs_take_len {l : List Tr} {k : Nat} {t : Tr} (h : l[k]? = some t) : (encTs (l.take k)).length + (encT t).length ≤ (encTs l).length := by
  have h1 := encTs_take h
  have h2 : encTs l = encTs (l.take (k + 1)) ++ encTs (l.drop (k + 1)) := by rw [← encTs_append, List.take_append_drop]
  rw [h2, h1]
  simp only [List.length_append]
  omega
theorem cntTs_len : ∀ l : List Tr, l.length ≤ cntTs l
  | [] => Nat.le_refl _
  | t :: r => by
    have h1 := cntTs_len r
    have h2 : 1 ≤ cntT t := by cases t <;> rw [cntT] <;> omega
    rw [cntTs, List.length_cons]
    omega
end Go.Proofs.YtemgeelgkokpcaaDoor
