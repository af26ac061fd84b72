/- Small laws on worlds. No walk; no type of the program. · Plain functions for package octet: the bytes of a number. Nothing here names the program. · Bits of numbers of kind i64 that are not below 0. No walk. · The walks of bits' functions. · The walks of bits' loops. · Texts out of rows of bytes. No walk. · Arrays of sixteen bytes: sliced, loaded, held against one another. No walk. · Plain functions for package sha: SHA-256 on numbers. Nothing here names the program. · Plain functions for package digits. Nothing here names the program. · Worlds that turn but in some blocks; the blocks from a number on that are not the caller's own. No walk; no type of the program. · Below, to whatever depth. · Numbers in pieces of 16 bits; the roots of primes. Plain; no walk. · Slices of integers in memory. No walk. · A row's post, where the call has only made memory. No walk. -/
import Derived.Test.YtgaenpbdfelhhaaDoorRows
import Derived.WalkKit
import Derived.Lib.Hide
import Derived.Deep.Draws
import Derived.Laws.IdiomCopy
import Derived.Laws.Bits64b
import Derived.WalkSpells
import Derived.WalkLawsBesides
import Derived.Laws.IdiomStrings
import Derived.Deep.LoopGhost
import Derived.Deep.DeepCutAuto
import Derived.Deep.RegionWith
import Derived.ChangeKeysEq
import Derived.Deep.MidRow
import Derived.ProofKit
import Derived.OpenShut
import Derived.ShutString
namespace Go.Proofs.YtgaenpbdfelhhaaDoor
open Go.RowKit

theorem grownBy_trans {a b c : World} {row : Option Nat} (h : a.grownBy b row) (k : b.grownBy c row) : a.grownBy c row :=
  ⟨k.os.trans h.os, k.tape.trans h.tape, k.output.trans h.output, Nat.le_trans h.size k.size, fun i hi hne => (k.block i (Nat.lt_of_lt_of_le hi h.size) hne).trans (h.block i hi hne)⟩
theorem grownBy_any {a b : World} (h : a.grownBy b none) (row : Option Nat) : a.grownBy b row := ⟨h.os, h.tape, h.output, h.size, fun i hi _ => h.block i hi (by simp)⟩
theorem grownBy_below {a b : World} (h : Below a.heap.size a b) : a.grownBy b none := ⟨h.os, h.tape, h.output, h.size, fun i hi _ => h.block i hi⟩
theorem below_grownBy {a b : World} (h : a.grownBy b none) : Below a.heap.size a b := ⟨h.os, h.tape, h.output, h.size, fun i hi => h.block i hi (by simp)⟩
theorem grownBy_drew {a b : World} {row : Option Nat} (h : a.grownBy b row) : a.grownBy b.drew row := ⟨h.os, h.tape, h.output, h.size, h.block⟩
theorem grownBy_setCell {a b : World} {r : Nat} (h : a.grownBy b (some r)) (o : Nat) (u : Value) : a.grownBy (b.setCell ⟨r, o, none⟩ u) (some r) :=
  ⟨h.os, h.tape, h.output, by simpa [World.setCell] using h.size, fun i hi hne => (Below.heap_setCell _ _ _ _ (by intro e; exact hne (by simpa using e))).trans (h.block i hi hne)⟩
theorem grownBy_alloc' {a b : World} {row : Option Nat} (h : a.grownBy b row) (o : Obj) : a.grownBy (b.alloc o) row :=
  ⟨h.os, h.tape, h.output, by simp; have := h.size; omega, fun i hi hne => (Below.heap_alloc _ _ _ (Nat.lt_of_lt_of_le hi h.size)).trans (h.block i hi hne)⟩
theorem cell_of {w : World} {b : Nat} {cs : Array Value} {t : TypeId} {fr : Nat × Nat} (h : w.heap[b]? = some (.cells cs t fr)) (j : Nat) : w.cell? ⟨b, j, none⟩ = cs[j]? := by
  simp [World.cell?, h]
theorem free_of {w : World} {b : Nat} {cs : Array Value} {t : TypeId} (h : w.heap[b]? = some (.cells cs t (0, 0))) (j : Nat) : w.frozen? ⟨b, j, none⟩ = false := by
  simp [World.frozen?, h]
theorem heap_setCell {w : World} {b : Nat} {cs : Array Value} {t : TypeId} {fr : Nat × Nat} (h : w.heap[b]? = some (.cells cs t fr)) (j : Nat) (u : Value) :
    (w.setCell ⟨b, j, none⟩ u).heap[b]? = some (.cells (cs.setIfInBounds j u) t fr) := by
  simp [World.setCell, Array.getElem?_modify, h]
theorem heap_alloc_at (w : World) (o : Obj) (k : Nat) (h : w.heap.size = k) : (w.alloc o).heap[k]? = some o := by
  show (w.heap.push o)[k]? = _
  simp [← h]
theorem grownBy_setNew {a b : World} {row : Option Nat} (h : a.grownBy b row) {k : Nat} (hk : a.heap.size ≤ k) (o : Nat) (u : Value) : a.grownBy (b.setCell ⟨k, o, none⟩ u) row :=
  ⟨h.os, h.tape, h.output, by simpa [World.setCell] using h.size, fun i hi hne => (Below.heap_setCell _ _ _ _ (by show i ≠ k; omega)).trans (h.block i hi hne)⟩
theorem grownBy_drewN {a b : World} {row : Option Nat} (h : a.grownBy b row) (n : Nat) : a.grownBy (b.drewN n) row := ⟨h.os, h.tape, h.output, h.size, h.block⟩
theorem size_setCell (w : World) (a : Addr) (u : Value) : (w.setCell a u).heap.size = w.heap.size := by simp [World.setCell]
theorem heap_setCell_ne (w : World) (k o : Nat) (u : Value) {i : Nat} (h : k ≠ i) : (w.setCell ⟨k, o, none⟩ u).heap[i]? = w.heap[i]? := Below.heap_setCell _ _ _ _ (fun e => h e.symm)
theorem emp (s : ByteArray) : s.toList.isEmpty = decide (s.size = 0) := by
  rw [ByteArray.toList_eq, Bool.eq_iff_iff]
  simp [List.isEmpty_iff, ← ByteArray.size_data, Array.size_eq_zero_iff]
theorem wrap_u64 (n : Nat) (h : n ≤ 18446744073709551615) : IntKind.u64.wrap (n : Int) = (n : Int) := by
  simp only [IntKind.wrap, IntKind.bits, IntKind.signed, IntKind.min, IntKind.max]; simp; omega
/-- a run of cells, as one block -/
theorem heap_setCells {t : TypeId} {b : Nat} : ∀ (vs : List Value) (o : Nat) (w : World) (cs : Array Value), w.heap[b]? = some (.cells cs t (0, 0)) → o + vs.length ≤ cs.size →
    (w.setCells b o vs).heap[b]? = some (.cells (cs.toList.take o ++ vs ++ cs.toList.drop (o + vs.length)).toArray t (0, 0))
  | [], o, w, cs, h, _ => by simp [World.setCells, h]
  | v :: r, o, w, cs, h, hl => by
    rw [World.setCells]
    have h1 := heap_setCell h o v
    simp only [List.length_cons] at hl
    rw [heap_setCells r (o + 1) _ _ h1 (by simp; omega)]
    congr 2
    apply congrArg
    have ho : o < cs.toList.length := by simp; omega
    rw [Array.toList_setIfInBounds, List.set_eq_take_append_cons_drop, if_pos ho]
    have e1 : (cs.toList.take o).length = o := by simp; omega
    have e2 : (cs.toList.take o ++ v :: cs.toList.drop (o + 1)).take (o + 1) = cs.toList.take o ++ [v] := by
      rw [List.take_append, e1]
      simp [List.take_take]
    have e3 : (cs.toList.take o ++ v :: cs.toList.drop (o + 1)).drop (o + 1 + r.length) = cs.toList.drop (o + (r.length + 1)) := by
      rw [List.drop_append, e1, List.drop_of_length_le (by omega)]
      rw [show o + 1 + r.length - o = r.length + 1 from by omega, List.drop_succ_cons, List.drop_drop]
      rw [List.nil_append]
      congr 1
      omega
    rw [e2, e3]
    simp
theorem size_setCells (b : Nat) : ∀ (vs : List Value) (o : Nat) (w : World), (w.setCells b o vs).heap.size = w.heap.size
  | [], _, _ => rfl
  | v :: r, o, w => by rw [World.setCells, size_setCells b r, size_setCell]
theorem heap_setCells_ne {b i : Nat} (h : b ≠ i) : ∀ (vs : List Value) (o : Nat) (w : World), (w.setCells b o vs).heap[i]? = w.heap[i]?
  | [], _, _ => rfl
  | v :: r, o, w => by rw [World.setCells, heap_setCells_ne h r, heap_setCell_ne _ _ _ _ h]
theorem grownBy_setCellsNew {a : World} {row : Option Nat} {k : Nat} (hk : a.heap.size ≤ k) : ∀ (vs : List Value) (o : Nat) (b : World), a.grownBy b row → a.grownBy (b.setCells k o vs) row
  | [], _, _, h => h
  | v :: r, o, b, h => by rw [World.setCells]; exact grownBy_setCellsNew hk r (o + 1) _ (grownBy_setNew h hk o v)
theorem cell_lt {w : World} {b o : Nat} {v : Value} (h : w.cell? ⟨b, o, none⟩ = some v) : b < w.heap.size := by
  rcases Nat.lt_or_ge b w.heap.size with h1 | h1
  · exact h1
  · simp [World.cell?, Array.getElem?_eq_none h1] at h
theorem _root_.Go.World.grownBy.heap {w w' : World} {row : Option Nat} (h : w.grownBy w' row) {g : Nat} {o : Obj} (hg : w.heap[g]? = some o) (hr : row ≠ some g) : w'.heap[g]? = some o := by
  rw [h.block g (Array.getElem?_eq_some_iff.1 hg).1 (fun e => hr e.symm)]
  exact hg
end Go.Proofs.YtgaenpbdfelhhaaDoor

namespace Go.Proofs.YtgaenpbdfelhhaaDoor

/-- the bytes of a number, the highest first -/
def be (n : Nat) : Nat → List UInt8
  | 0 => []
  | k + 1 => be (n / 256) k ++ [UInt8.ofNat (n % 256)]
theorem be_length (n k : Nat) : (be n k).length = k := by
  induction k generalizing n with
  | zero => rfl
  | succ k ih => simp [be, ih]
theorem be_cons (n k : Nat) : be n (k + 1) = UInt8.ofNat (n / 256 ^ k % 256) :: be n k := by
  induction k generalizing n with
  | zero => simp [be]
  | succ k ih =>
    rw [be, ih, be, Nat.div_div_eq_div_mul, Nat.pow_succ, Nat.mul_comm]
    rfl

/-- a text out of bytes -/
def str (l : List UInt8) : ByteArray := ⟨l.toArray⟩
theorem str_size (l : List UInt8) : (str l).size = l.length := rfl
theorem str_data (l : List UInt8) : (str l).data.toList = l := rfl

/-- the row's cells behind i rounds -/
def rowAt (n k i : Nat) : List Value := (List.replicate (k - i) (0 : UInt8) ++ be n i).map fun c => .int .u8 c.toNat

theorem rowAt_zero (n k : Nat) : (madeCells #[Value.int .u8 0] k).toList = rowAt n k 0 := by
  apply List.ext_getElem?
  intro i
  simp [madeCells, rowAt, be, List.getElem?_replicate]
  by_cases h : i < k <;> simp [h, Nat.mod_one]

theorem rowAt_succ (n k j : Nat) (h : j < k) : rowAt n k (j + 1) = (rowAt n k j).set (k - 1 - j) (.int .u8 (↑n / 2 ^ (8 * j) % 256)) := by
  have e : (UInt8.ofNat (n / 256 ^ j % 256)).toNat = n / 256 ^ j % 256 := by simp
  have p : (2 : Int) ^ (8 * j) = 256 ^ j := by rw [Int.pow_mul]; rfl
  unfold rowAt
  rw [be_cons, show k - j = (k - (j + 1)) + 1 from by omega, List.replicate_succ', List.map_append, List.map_append, List.map_append, List.append_assoc]
  rw [List.set_append_right _ _ (by simp; omega)]
  simp [show k - 1 - j - (k - (j + 1)) = 0 from by omega]
  rw [p]

theorem rowAt_cell (n k j : Nat) (h : j < k) : (rowAt n k j)[k - 1 - j]? = some (.int .u8 0) := by
  unfold rowAt
  rw [List.map_append, List.getElem?_append_left (by simp; omega)]
  simp [List.getElem?_replicate]
  omega

theorem rowAt_end (n k : Nat) : rowAt n k k = (be n k).map fun c => .int .u8 c.toNat := by
  simp [rowAt]
end Go.Proofs.YtgaenpbdfelhhaaDoor

namespace Go.Proofs.YtgaenpbdfelhhaaDoor
open Go.RowKit

theorem wrap_i64_nat (n : Nat) (h : n < 9223372036854775808) : IntKind.i64.wrap (n : Int) = (n : Int) := by
  simp only [IntKind.wrap, IntKind.bits, IntKind.signed, IntKind.min, IntKind.max]; simp; omega
theorem bits_and_i64_nat (a b : Nat) (ha : a < 9223372036854775808) (hb : b < 9223372036854775808) :
    bits .and .i64 (a : Int) (b : Int) = ((a &&& b : Nat) : Int) := by
  have hx : a &&& b < 2 ^ 63 := Nat.and_lt_two_pow _ (by omega)
  have h1 : (BitVec.ofInt 64 (a : Int)).toNat = a := by
    rw [BitVec.ofInt_natCast, BitVec.toNat_ofNat]; exact Nat.mod_eq_of_lt (by omega)
  have h2 : (BitVec.ofInt 64 (b : Int)).toNat = b := by
    rw [BitVec.ofInt_natCast, BitVec.toNat_ofNat]; exact Nat.mod_eq_of_lt (by omega)
  show IntKind.i64.wrap ((BitVec.ofInt 64 (a : Int) &&& BitVec.ofInt 64 (b : Int)).toNat : Int) = _
  rw [BitVec.toNat_and, h1, h2, wrap_i64_nat _ (by omega)]
theorem bits_or_i64_nat (a b : Nat) (ha : a < 9223372036854775808) (hb : b < 9223372036854775808) :
    bits .or .i64 (a : Int) (b : Int) = ((a ||| b : Nat) : Int) := by
  have hx : a ||| b < 2 ^ 63 := Nat.or_lt_two_pow (by omega) (by omega)
  have h1 : (BitVec.ofInt 64 (a : Int)).toNat = a := by
    rw [BitVec.ofInt_natCast, BitVec.toNat_ofNat]; exact Nat.mod_eq_of_lt (by omega)
  have h2 : (BitVec.ofInt 64 (b : Int)).toNat = b := by
    rw [BitVec.ofInt_natCast, BitVec.toNat_ofNat]; exact Nat.mod_eq_of_lt (by omega)
  show IntKind.i64.wrap ((BitVec.ofInt 64 (a : Int) ||| BitVec.ofInt 64 (b : Int)).toNat : Int) = _
  rw [BitVec.toNat_or, h1, h2, wrap_i64_nat _ (by omega)]
theorem bits_xor_i64_nat (a b : Nat) (ha : a < 9223372036854775808) (hb : b < 9223372036854775808) :
    bits .xor .i64 (a : Int) (b : Int) = ((a ^^^ b : Nat) : Int) := by
  have hx : a ^^^ b < 2 ^ 63 := Nat.xor_lt_two_pow (by omega) (by omega)
  have h1 : (BitVec.ofInt 64 (a : Int)).toNat = a := by
    rw [BitVec.ofInt_natCast, BitVec.toNat_ofNat]; exact Nat.mod_eq_of_lt (by omega)
  have h2 : (BitVec.ofInt 64 (b : Int)).toNat = b := by
    rw [BitVec.ofInt_natCast, BitVec.toNat_ofNat]; exact Nat.mod_eq_of_lt (by omega)
  show IntKind.i64.wrap ((BitVec.ofInt 64 (a : Int) ^^^ BitVec.ofInt 64 (b : Int)).toNat : Int) = _
  rw [BitVec.toNat_xor, h1, h2, wrap_i64_nat _ (by omega)]
theorem and_one_i64 (m : Nat) (h : m < 9223372036854775808) : bits .and .i64 (m : Int) 1 = ((m % 2 : Nat) : Int) := by
  have := bits_and_i64_nat m 1 h (by decide)
  rw [Nat.and_one_is_mod] at this
  exact this
end Go.Proofs.YtgaenpbdfelhhaaDoor

namespace Go.Proofs.YtgaenpbdfelhhaaDoor
open Go.RowKit

/-- the bit of a text -/
def bitS (s : ByteArray) (i : Nat) : Nat := ((s.data.toList[i / 8]?).getD 0).toNat / 2 ^ (7 - i % 8) % 2
theorem bitS_le (s : ByteArray) (i : Nat) : bitS s i ≤ 1 := by unfold bitS; omega
theorem bitS_out (s : ByteArray) (i : Nat) (h : s.size ≤ i / 8) : bitS s i = 0 := by
  unfold bitS
  rw [List.getElem?_eq_none (by simpa using h)]
  simp
theorem bitS_in (s : ByteArray) (i q r : Nat) (hq : i / 8 = q) (hr : i % 8 = r) (h : q < s.size) : bitS s i = s[q].toNat / 2 ^ (7 - r) % 2 := by
  unfold bitS
  subst hq hr
  rw [List.getElem?_eq_getElem (by simpa using h)]
  rfl

set_option maxHeartbeats 400000 in
theorem place_any (r q : Nat) (hr : r < 8) (d : Nat) (hd : d = 8 * q + r) (hb : d < 9223372036854775808) (w : World) :
    Calls Tryd.prog 58 #[.int .i64 d] w fun e w' => e = .returned (.int .i64 ((7 - r : Nat) : Int)) ∧ w = w' := by
  have h1 : (d : Int) % 8 = (r : Int) := by omega
  have h2 : (7 : Int) - (r : Int) = ((7 - r : Nat) : Int) := by omega
  have h3 : ((7 - r : Nat) : Int) < 8 := by omega
  go_enter Tryd.func58, Tryd.ntmps58
  go_wp2_with fail
  go_ret
  exact ⟨congrArg (fun z => Ending.returned (.int .i64 z)) (by omega), rfl⟩

set_option maxHeartbeats 400000 in
theorem bands_any (d : Nat) (hb : d < 9223372036854775808) (w : World) :
    Calls Tryd.prog 57 #[.int .i64 d] w fun e w' => e = .returned (.bool (decide (d ≤ 16))) ∧ w = w' := by
  have h0 : (0 : Int) ≤ (d : Int) := by omega
  by_cases h : d ≤ 16
  · have h1 : (d : Int) ≤ 16 := by omega
    go_enter Tryd.func57, Tryd.ntmps57
    go_wp2_with fail
    go_ret
    exact ⟨by simp [h], rfl⟩
  · have h1 : ¬ (d : Int) ≤ 16 := by omega
    go_enter Tryd.func57, Tryd.ntmps57
    go_wp2_with fail
    go_ret
    exact ⟨by simp [h], rfl⟩
theorem bands_neg (z : Int) (hz : z < 0) (w : World) :
    Calls Tryd.prog 57 #[.int .i64 z] w fun e w' => e = .returned (.bool false) ∧ w = w' := by
  have h0 : ¬ (0 : Int) ≤ z := by omega
  go_enter Tryd.func57, Tryd.ntmps57
  go_wp2_with fail
  go_ret
  exact ⟨rfl, rfl⟩

theorem shr_bit (c k : Nat) (hc : c < 256) : (c : Int) / 2 ^ k = ((c / 2 ^ k : Nat) : Int) := by
  rw [Int.natCast_ediv]; simp
set_option maxRecDepth 100000 in
set_option maxHeartbeats 1600000 in
theorem bit_any (s : ByteArray) (hs : s.size ≤ maxLen) (d : Nat) (hb : d < 9223372036854775808) (w : World) :
    Calls Tryd.prog 63 #[.string s, .int .i64 d] w fun e w' => e = .returned (.int .i64 (bitS s d : Nat)) ∧ w.grownBy w' none := by
  unfold maxLen at hs
  obtain ⟨q, hq⟩ : ∃ q, d / 8 = q := ⟨_, rfl⟩
  obtain ⟨r, hr⟩ : ∃ r, d % 8 = r := ⟨_, rfl⟩
  have h0 : (0 : Int) ≤ (d : Int) := by omega
  have h00 : ¬ (d : Int) < 0 := by omega
  have hdq : (d : Int) / 8 = (q : Int) := by omega
  by_cases hin : q < s.size
  · have e := bitS_in s d q r hq hr hin
    have h1 : ¬ (s.size : Int) ≤ (q : Int) := by omega
    have h2 : (q : Int) < (s.size : Int) := by omega
    have h3 : (0 : Int) ≤ (q : Int) := by omega
    have h4 := wrap_i64_nat q (by omega)
    have HC := Lib.hid (fun w => place_any r q (by omega) d (by omega) hb w)
    have hr7 : 7 - r < 8 := by omega
    generalize 7 - r = k at HC e hr7
    have hc := s[q].toNat_lt
    have hx : (s[q].toNat : Int) / 2 ^ k = ((s[q].toNat / 2 ^ k : Nat) : Int) := shr_bit _ k hc
    have hy : s[q].toNat / 2 ^ k < 256 := Nat.lt_of_le_of_lt (Nat.div_le_self _ _) hc
    have hz := and_one_i64 (s[q].toNat / 2 ^ k) (by omega)
    rw [← e] at hz
    generalize s[q].toNat / 2 ^ k = m at hx hy hz
    have hm : (m : Int) < 256 := by omega
    have hmw := wrap_i64_nat m (by omega)
    clear e hc
    have hk0 : (0 : Int) ≤ (k : Int) := by omega
    have hk8 : (k : Int) < 8 := by omega
    go_enter Tryd.func63, Tryd.ntmps63
    go_wp2_with fail
    go_region_with ((go_at_call 58; refine (HC.out _).mono ?_; rintro e w1 ⟨rfl, rfl⟩))
    all_goals
      go_wp2_with fail
      go_ret
      exact ⟨by first | rfl | (show Ending.returned (.int .i64 _) = _; rfl), grownBy_drew (World.grownBy.refl _ _)⟩
  · have e := bitS_out s d (by omega)
    have h1 : (s.size : Int) ≤ (q : Int) := by omega
    rw [e]
    go_enter Tryd.func63, Tryd.ntmps63
    go_wp2_with fail
    go_ret
    exact ⟨rfl, World.grownBy.refl _ _⟩
end Go.Proofs.YtgaenpbdfelhhaaDoor

namespace Go.Proofs.YtgaenpbdfelhhaaDoor
open Go.RowKit

/-- the number of the first bits -/
def bandN (s : ByteArray) : Nat → Nat
  | 0 => 0
  | k + 1 => 2 * bandN s k + bitS s k
theorem bandN_lt (s : ByteArray) : ∀ k, bandN s k < 2 ^ k
  | 0 => by simp [bandN]
  | k + 1 => by
    have := bandN_lt s k
    have := bitS_le s k
    rw [bandN, Nat.pow_succ]
    omega
theorem or_bit (n b : Nat) (hb : b ≤ 1) : 2 * n ||| b = 2 * n + b := by
  have := Nat.two_pow_add_eq_or_of_lt (i := 1) (b := b) (by omega) n
  simp at this
  rw [← this]
theorem band_cap (k : Nat) (h : k ≤ 16) : 2 ^ k ≤ 65536 := Nat.le_trans (Nat.pow_le_pow_right (by decide) h) (by decide)
/-- are the first bits alike? -/
def belowB (a b : ByteArray) (n : Nat) : Bool := (List.range n).all fun i => bitS a i == bitS b i
theorem belowB_succ (a b : ByteArray) (n : Nat) : belowB a b (n + 1) = (belowB a b n && (bitS a n == bitS b n)) := by
  simp [belowB, List.range_succ, List.all_append]
theorem belowB_iff (a b : ByteArray) (n : Nat) : belowB a b n = true ↔ ∀ i, i < n → bitS a i = bitS b i := by
  simp [belowB]

set_option maxRecDepth 100000 in
set_option maxHeartbeats 1600000 in
theorem band_any (s : ByteArray) (hs : s.size ≤ maxLen) (d : Nat) (hd : d ≤ 16) (w : World) :
    Calls Tryd.prog 37 #[.string s, .int .i64 d] w fun e w' => e = .returned (.int .i64 (bandN s d : Nat)) ∧ w.grownBy w' none := by
  have HB := Lib.hid (fun (i : Nat) (hi : i ≤ 16) (w : World) => bit_any s hs i (by omega) w)
  have HM := Lib.hid (bands_any d (by omega))
  have HD := Lib.hid hd
  have h16 : decide (d ≤ 16) = true := by simp [hd]
  rw [h16] at HM
  clear hs h16
  go_enter Tryd.func37, Tryd.ntmps37
  go_wp2_with fail
  refine (HM.out _).mono ?_
  rintro e w1 ⟨rfl, rfl⟩
  clear HM
  go_wp2_with fail
  go_loopw [5, 6, 11, 12, 13, 14, 15, 16, 17, 18, 19, 20] (fun nv _ iv _ _ _ _ _ _ _ _ _ wr => ∃ (k : Nat), k ≤ d ∧ iv = .int .i64 k ∧ nv = .int .i64 (bandN s k : Nat) ∧ Hid (w.grownBy wr none)) (fun _ _ iv _ _ _ _ _ _ _ _ _ _ => d - (intOf iv).toNat)
  case atStart => exact ⟨0, Nat.zero_le _, rfl, rfl, World.grownBy.refl _ _⟩
  case round =>
    obtain ⟨k, hk, rfl, rfl, HW⟩ := hrel
    have hb := bandN_lt s k
    have hc := band_cap k (by omega)
    have hu : bandN s (k + 1) = 2 * bandN s k + bitS s k := rfl
    have hbl := bitS_le s k
    by_cases hlt : k < d
    · have d1 : (k : Int) < (d : Int) := by omega
      have HK := Lib.hid (HB.out k (by omega))
      generalize bandN s k = n at hb hu
      generalize bitS s k = b at hu hbl HK
      have e1 : (n : Int) * 2 = ((2 * n : Nat) : Int) := by omega
      have e2 := bits_or_i64_nat (2 * n) b (by omega) (by omega)
      rw [or_bit n b hbl, ← hu] at e2
      have HU := Lib.hid hu
      have e3 : (n : Int) < 65536 := by omega
      have e2 : bits .or .i64 (2 * (n : Int)) (b : Int) = ((bandN s (k + 1) : Nat) : Int) := by rw [show (2 * (n : Int)) = ((2 * n : Nat) : Int) from by omega]; exact e2
      clear hu
      go_wp2_with fail
      refine (HK.out _).mono ?_
      rintro e w2 ⟨rfl, g2⟩
      go_wp2_with fail
      go_roundw
      case rel => exact ⟨k + 1, by omega, by go_num, by first | rfl | simp [*], grownBy_trans HW.out g2⟩
      case measure => simp [intOf]; omega
    · have hkd : k = d := by omega
      subst hkd
      have d1 : ¬ (k : Int) < (k : Int) := by omega
      go_wp2_with fail
      go_ret
      exact ⟨rfl, HW.out⟩

set_option maxRecDepth 100000 in
set_option maxHeartbeats 1600000 in
theorem below_any (a b : ByteArray) (ha : a.size ≤ maxLen) (hb : b.size ≤ maxLen) (m : Nat) (hm8 : m ≤ 128) (w : World) :
    Calls Tryd.prog 55 #[.string a, .string b, .int .i64 m] w fun e w' => e = .returned (.bool (belowB a b m)) ∧ w.grownBy w' none := by
  have HA := Lib.hid (fun (i : Nat) (hi : i ≤ 128) (w : World) => bit_any a ha i (by omega) w)
  have HB := Lib.hid (fun (i : Nat) (hi : i ≤ 128) (w : World) => bit_any b hb i (by omega) w)
  have h1 : ¬ (128 : Int) < (m : Int) := by omega
  have h2 : (m : Int) ≤ 128 := by omega
  clear ha hb
  go_enter Tryd.func55, Tryd.ntmps55
  go_wp2_with fail
  go_loopw [7, 10, 11, 12, 13, 14, 15, 16, 17, 18, 19, 20] (fun _ iv _ _ _ _ _ _ _ _ _ _ wr => ∃ (k : Nat), k ≤ m ∧ iv = .int .i64 k ∧ Hid (belowB a b k = true) ∧ Hid (w.grownBy wr none)) (fun _ iv _ _ _ _ _ _ _ _ _ _ _ => m - (intOf iv).toNat)
  case atStart => exact ⟨0, Nat.zero_le _, rfl, rfl, World.grownBy.refl _ _⟩
  case round =>
    obtain ⟨k, hk, rfl, HK, HW⟩ := hrel
    by_cases hlt : k < m
    · have d1 : (k : Int) < (m : Int) := by omega
      have hs := belowB_succ a b k
      rw [HK.out, Bool.true_and] at hs
      have H1 := Lib.hid (HA.out k (by omega))
      have H2 := Lib.hid (HB.out k (by omega))
      by_cases hxy : bitS a k = bitS b k
      · have e1 : ((bitS a k : Nat) : Int) = ((bitS b k : Nat) : Int) := by rw [hxy]
        rw [hxy, beq_self_eq_true] at hs
        have HS := Lib.hid hs
        clear hs
        have e2 : (((bitS a k : Nat) : Int) != ((bitS b k : Nat) : Int)) = false := by rw [e1]; simp
        generalize bitS a k = x at *
        generalize bitS b k = y at *
        go_wp2_with fail
        refine (H1.out _).mono ?_
        rintro e w2 ⟨rfl, g2⟩
        go_wp2_with fail
        refine (H2.out _).mono ?_
        rintro e w3 ⟨rfl, g3⟩
        go_wp2_with fail
        go_roundw
        case rel => exact ⟨k + 1, by omega, by go_num, HS.out, grownBy_trans HW.out (grownBy_trans g2 g3)⟩
        case measure => simp [intOf]; omega
      · have hf : belowB a b m = false := by
          cases h : belowB a b m with
          | false => rfl
          | true => exact absurd ((belowB_iff a b m).1 h k hlt) hxy
        have e2 : (((bitS a k : Nat) : Int) != ((bitS b k : Nat) : Int)) = true := by simp; omega
        have HF := Lib.hid hf
        clear hs hf
        generalize bitS a k = x at *
        generalize bitS b k = y at *
        go_wp2_with fail
        refine (H1.out _).mono ?_
        rintro e w2 ⟨rfl, g2⟩
        go_wp2_with fail
        refine (H2.out _).mono ?_
        rintro e w3 ⟨rfl, g3⟩
        go_wp2_with fail
        go_ret
        exact ⟨by rw [HF.out]; rfl, grownBy_trans HW.out (grownBy_trans g2 g3)⟩
    · have hkd : k = m := by omega
      subst hkd
      have d1 : ¬ (k : Int) < (k : Int) := by omega
      go_wp2_with fail
      go_ret
      exact ⟨by rw [HK.out]; rfl, HW.out⟩

end Go.Proofs.YtgaenpbdfelhhaaDoor

namespace Go.Proofs.YtgaenpbdfelhhaaDoor
open Go.RowKit

def bytesV (l : List UInt8) : List Value := l.map fun c => .int .u8 c.toNat
theorem infoB : (Tryd.prog.info? 5).map (fun i => (i.zero, i.size, i.bytes)) = some (some (.int .u8 0), 1, 1) := by kernel_rfl
theorem made_bytes (n : Nat) : (madeCells #[Value.int .u8 0] n).toList = bytesV (List.replicate n 0) := by
  apply List.ext_getElem?
  intro i
  simp [madeCells, bytesV, List.getElem?_replicate]
  by_cases h : i < n <;> simp [h, Nat.mod_one]
/-- 'string(b)', b a row of the call's own that holds bytes -/
theorem own_str {wr : World} {B g k cap : Nat} {l : List UInt8} (h : wr.ownsRow B 5 1 (.slice (some ⟨g, 0, none⟩) k cap) k (bytesV l)) :
    (convert 72 9 (.slice (some ⟨g, 0, none⟩) k cap)).run Tryd.prog wr = .ok (.string (str l)) wr := by
  have hl : l.length = k := by simpa [bytesV] using h.1
  subst hl
  refine run_convert_bytes_back wr 72 9 5 _ cap l Tryd.underlying72 Tryd.underlying5 Tryd.underlying9 fun j hj => ?_
  rw [show Addr.add ⟨g, 0, none⟩ j = (⟨g, j, none⟩ : Addr) from by simp [Addr.add]; omega, h.cellAt j (by simpa using hj)]
  simp [bytesV, List.getElem?_eq_getElem hj]
/-- 'string(b[:])', b a block of bytes -/
theorem blk_str {w : World} {g : Nat} {l : List UInt8} {t : TypeId} (h : w.heap[g]? = some (.cells (bytesV l).toArray t (0, 0))) (cap : Nat) :
    (convert 72 9 (.slice (some ⟨g, 0, none⟩) l.length cap)).run Tryd.prog w = .ok (.string (str l)) w := by
  refine run_convert_bytes_back w 72 9 5 _ cap l Tryd.underlying72 Tryd.underlying5 Tryd.underlying9 fun j hj => ?_
  rw [show Addr.add ⟨g, 0, none⟩ j = (⟨g, j, none⟩ : Addr) from by simp [Addr.add]; omega, cell_of h, List.getElem?_toArray]
  simp [bytesV, List.getElem?_eq_getElem hj]
end Go.Proofs.YtgaenpbdfelhhaaDoor

namespace Go.Proofs.YtgaenpbdfelhhaaDoor
open Go.RowKit

theorem sixteen_size (l : List UInt8) (h : l.length = 16) : (bytesV l).toArray.size = 16 := by simp [bytesV, h]
theorem sixteen_info (l : List UInt8) (h : l.length = 16) : (Tryd.prog.info? 98).map (·.size) = some (bytesV l).toArray.size := by
  have e : (Tryd.prog.info? 98).map (·.size) = some 16 := by kernel_rfl
  rw [e, sixteen_size l h]
theorem slice_sixteen (B : Nat) (w : World) : (Instr.sliceAt 98 (.pointer (some ⟨B, 0, none⟩)) none none none).run Tryd.prog w = .ok (.slice (some ⟨B, 0, none⟩) 16 16) w := by
  have hl : Tryd.prog.arrayLen 98 = 16 := by kernel_rfl
  have he : Tryd.prog.elem 98 = 5 := by kernel_rfl
  obtain ⟨i0, h0⟩ : ∃ i0, Tryd.prog.info? 5 = some i0 := Option.isSome_iff_exists.1 (by kernel_rfl)
  have hc : Tryd.prog.cellsOf 5 = 1 := by kernel_rfl
  rw [run_sliceAt_array_all w 98 ⟨B, 0, none⟩ (by rw [hl, he]; exact Tryd.underlying98), hl, he, run_sizeOf w h0, hc]
  simp [Result.andThen, slicedAt, Addr.add]
theorem eqItems_bytes (d : Nat) (la lb : List UInt8) (w : World) : ∀ is : List Nat, (∀ i ∈ is, i < la.length ∧ i < lb.length) →
    (Op.eqItems (d + 1) 5 1 (bytesV la).toArray (bytesV lb).toArray is).run Tryd.prog w = .ok (is.all fun i => la.getD i 0 == lb.getD i 0) w
  | [], _ => by simp [Op.eqItems]
  | i :: is, h => by
    have hp : Tryd.prog.plainKey 5 = true := by kernel_rfl
    obtain ⟨ha, hb⟩ := h i (by simp)
    have xa : (bytesV la).toArray[i * 1]? = some (.int .u8 (la.getD i 0).toNat) := by
      simp [bytesV, List.getElem?_eq_getElem ha, List.getD_eq_getElem?_getD]
    have xb : (bytesV lb).toArray[i * 1]? = some (.int .u8 (lb.getD i 0).toNat) := by
      simp [bytesV, List.getElem?_eq_getElem hb, List.getD_eq_getElem?_getD]
    have ih := eqItems_bytes d la lb w is (fun j hj => h j (by simp [hj]))
    have e : (((la.getD i 0).toNat : Int) == ((lb.getD i 0).toNat : Int)) = (la.getD i 0 == lb.getD i 0) := by
      rw [Bool.eq_iff_iff, beq_iff_eq, beq_iff_eq, ← UInt8.toNat_inj]
      omega
    simp only [Op.eqItems, Sem.run_bind, run_part_plain w hp xa, run_part_plain w hp xb, Result.andThen_ok, run_equalIn_int w d _ _ _ _ _ Tryd.underlying5, e, List.all_cons]
    cases la.getD i 0 == lb.getD i 0
    · simp
    · simpa using ih
set_option maxRecDepth 100000 in
theorem sixteen_eq (la lb : List UInt8) (ha : la.length = 16) (hb : lb.length = 16) (w : World) :
    (Op.equalIn 10000 98 (.agg (bytesV la).toArray) (.agg (bytesV lb).toArray)).run Tryd.prog w = .ok (la == lb) w := by
  obtain ⟨i0, h0⟩ : ∃ i0, Tryd.prog.info? 5 = some i0 := Option.isSome_iff_exists.1 (by kernel_rfl)
  have hc : Tryd.prog.cellsOf 5 = 1 := by kernel_rfl
  rw [run_equalIn_array w 9999 _ _ Tryd.underlying98 h0, hc, eqItems_bytes 9998 la lb w _ (fun i hi => by have := List.mem_range.1 hi; omega)]
  congr 1
  rw [Bool.eq_iff_iff, List.all_eq_true, beq_iff_eq]
  constructor
  · intro h
    apply List.ext_getElem (by omega)
    intro i h1 h2
    have := h i (List.mem_range.2 (by omega))
    simpa [List.getD_eq_getElem?_getD, List.getElem?_eq_getElem h1, List.getElem?_eq_getElem h2] using this
  · rintro rfl
    simp
end Go.Proofs.YtgaenpbdfelhhaaDoor

namespace Go.Proofs.YtgaenpbdfelhhaaDoor

/-! words -/
/-- a word turned to the right -/
def rotr (n x : Nat) : Nat := x / 2 ^ n + x % 2 ^ n * 2 ^ (32 - n)
def sig0 (x : Nat) : Nat := (rotr 7 x ^^^ rotr 18 x) ^^^ x / 2 ^ 3
def sig1 (x : Nat) : Nat := (rotr 17 x ^^^ rotr 19 x) ^^^ x / 2 ^ 10
def Sig0 (x : Nat) : Nat := (rotr 2 x ^^^ rotr 13 x) ^^^ rotr 22 x
def Sig1 (x : Nat) : Nat := (rotr 6 x ^^^ rotr 11 x) ^^^ rotr 25 x
def chs (e f g : Nat) : Nat := (e &&& f) ^^^ ((4294967295 - e) &&& g)
def maj (a b c : Nat) : Nat := ((a &&& b) ^^^ (a &&& c)) ^^^ (b &&& c)

theorem rotr_lt {n x : Nat} (hn : n ≤ 32) (hx : x < 4294967296) : rotr n x < 4294967296 := by
  unfold rotr
  have h1 : x / 2 ^ n < 2 ^ (32 - n) := by
    rw [Nat.div_lt_iff_lt_mul (Nat.two_pow_pos n), ← Nat.pow_add, Nat.sub_add_cancel hn]; exact hx
  have h2 : x % 2 ^ n + 1 ≤ 2 ^ n := Nat.mod_lt _ (Nat.two_pow_pos n)
  have h3 : (x % 2 ^ n + 1) * 2 ^ (32 - n) ≤ 2 ^ n * 2 ^ (32 - n) := Nat.mul_le_mul_right _ h2
  rw [← Nat.pow_add, Nat.add_sub_cancel' hn, Nat.add_mul] at h3
  have h4 : (2 : Nat) ^ 32 = 4294967296 := by decide
  omega
theorem xor_lt {a b : Nat} (ha : a < 4294967296) (hb : b < 4294967296) : a ^^^ b < 4294967296 := Nat.xor_lt_two_pow (n := 32) ha hb
theorem and_lt {a b : Nat} (ha : a < 4294967296) : a &&& b < 4294967296 := Nat.lt_of_le_of_lt Nat.and_le_left ha
theorem div_lt32 {a n : Nat} (ha : a < 4294967296) : a / 2 ^ n < 4294967296 := Nat.lt_of_le_of_lt (Nat.div_le_self _ _) ha
theorem sig0_lt {x : Nat} (hx : x < 4294967296) : sig0 x < 4294967296 := xor_lt (xor_lt (rotr_lt (by decide) hx) (rotr_lt (by decide) hx)) (div_lt32 hx)
theorem sig1_lt {x : Nat} (hx : x < 4294967296) : sig1 x < 4294967296 := xor_lt (xor_lt (rotr_lt (by decide) hx) (rotr_lt (by decide) hx)) (div_lt32 hx)
theorem Sig0_lt {x : Nat} (hx : x < 4294967296) : Sig0 x < 4294967296 := xor_lt (xor_lt (rotr_lt (by decide) hx) (rotr_lt (by decide) hx)) (rotr_lt (by decide) hx)
theorem Sig1_lt {x : Nat} (hx : x < 4294967296) : Sig1 x < 4294967296 := xor_lt (xor_lt (rotr_lt (by decide) hx) (rotr_lt (by decide) hx)) (rotr_lt (by decide) hx)
theorem chs_lt {e f g : Nat} (he : e < 4294967296) : chs e f g < 4294967296 := xor_lt (and_lt he) (and_lt (by omega))
theorem maj_lt {a b c : Nat} (ha : a < 4294967296) (hb : b < 4294967296) : maj a b c < 4294967296 := xor_lt (xor_lt (and_lt ha) (and_lt ha)) (and_lt hb)

/-! the state: eight words -/
structure St where
  a : Nat
  b : Nat
  c : Nat
  d : Nat
  e : Nat
  f : Nat
  g : Nat
  h : Nat
def St.ok (s : St) : Prop := s.a < 4294967296 ∧ s.b < 4294967296 ∧ s.c < 4294967296 ∧ s.d < 4294967296 ∧ s.e < 4294967296 ∧ s.f < 4294967296 ∧ s.g < 4294967296 ∧ s.h < 4294967296
def St.list (s : St) : List Nat := [s.a, s.b, s.c, s.d, s.e, s.f, s.g, s.h]
def start : St := ⟨1779033703, 3144134277, 1013904242, 2773480762, 1359893119, 2600822924, 528734635, 1541459225⟩
def rootsL : List Nat := [1116352408, 1899447441, 3049323471, 3921009573, 961987163, 1508970993, 2453635748, 2870763221, 3624381080, 310598401, 607225278, 1426881987, 1925078388, 2162078206, 2614888103, 3248222580, 3835390401, 4022224774, 264347078, 604807628, 770255983, 1249150122, 1555081692, 1996064986, 2554220882, 2821834349, 2952996808, 3210313671, 3336571891, 3584528711, 113926993, 338241895, 666307205, 773529912, 1294757372, 1396182291, 1695183700, 1986661051, 2177026350, 2456956037, 2730485921, 2820302411, 3259730800, 3345764771, 3516065817, 3600352804, 4094571909, 275423344, 430227734, 506948616, 659060556, 883997877, 958139571, 1322822218, 1537002063, 1747873779, 1955562222, 2024104815, 2227730452, 2361852424, 2428436474, 2756734187, 3204031479, 3329325298]

def t1 (s : St) (k w : Nat) : Nat := (s.h + Sig1 s.e + chs s.e s.f s.g + k + w) % 4294967296
def t2 (s : St) : Nat := (Sig0 s.a + maj s.a s.b s.c) % 4294967296
def St.step (s : St) (k w : Nat) : St := ⟨(t1 s k w + t2 s) % 4294967296, s.a, s.b, s.c, (s.d + t1 s k w) % 4294967296, s.e, s.f, s.g⟩
theorem step_ok {s : St} (h : s.ok) (k w : Nat) : (s.step k w).ok := by
  obtain ⟨ha, hb, hc, hd, he, hf, hg, hh⟩ := h
  exact ⟨Nat.mod_lt _ (by decide), ha, hb, hc, Nat.mod_lt _ (by decide), he, hf, hg⟩
def St.add (s v : St) : St := ⟨(s.a + v.a) % 4294967296, (s.b + v.b) % 4294967296, (s.c + v.c) % 4294967296, (s.d + v.d) % 4294967296, (s.e + v.e) % 4294967296, (s.f + v.f) % 4294967296, (s.g + v.g) % 4294967296, (s.h + v.h) % 4294967296⟩
theorem add_ok (s v : St) : (s.add v).ok := ⟨Nat.mod_lt _ (by decide), Nat.mod_lt _ (by decide), Nat.mod_lt _ (by decide), Nat.mod_lt _ (by decide), Nat.mod_lt _ (by decide), Nat.mod_lt _ (by decide), Nat.mod_lt _ (by decide), Nat.mod_lt _ (by decide)⟩

/-! the schedule -/
/-- four bytes as a word -/
def word (b : List UInt8) (i : Nat) : Nat := (((b.getD (4 * i) 0).toNat * 256 + (b.getD (4 * i + 1) 0).toNat) * 256 + (b.getD (4 * i + 2) 0).toNat) * 256 + (b.getD (4 * i + 3) 0).toNat
theorem word_lt (b : List UInt8) (i : Nat) : word b i < 4294967296 := by
  unfold word
  have h0 := (b.getD (4 * i) 0).toNat_lt
  have h1 := (b.getD (4 * i + 1) 0).toNat_lt
  have h2 := (b.getD (4 * i + 2) 0).toNat_lt
  have h3 := (b.getD (4 * i + 3) 0).toNat_lt
  omega
/-- the first n words of a block -/
def words (b : List UInt8) (n : Nat) : List Nat := (List.range n).map (word b)
/-- the word behind some -/
def nextW (l : List Nat) : Nat := (l.getD (l.length - 16) 0 + sig0 (l.getD (l.length - 15) 0) + l.getD (l.length - 7) 0 + sig1 (l.getD (l.length - 2) 0)) % 4294967296
def more : Nat → List Nat → List Nat
  | 0, l => l
  | n + 1, l => more n (l ++ [nextW l])
def sched (b : List UInt8) : List Nat := more 48 (words b 16)
theorem more_length (n : Nat) (l : List Nat) : (more n l).length = l.length + n := by
  induction n generalizing l with
  | zero => rfl
  | succ n ih => rw [more, ih]; simp; omega
theorem more_succ (n : Nat) (l : List Nat) : more (n + 1) l = more n l ++ [nextW (more n l)] := by
  induction n generalizing l with
  | zero => rfl
  | succ n ih => rw [more, ih (l ++ [nextW l])]; rfl
theorem sched_length (b : List UInt8) : (sched b).length = 64 := by simp [sched, more_length, words]
theorem nextW_lt (l : List Nat) : nextW l < 4294967296 := Nat.mod_lt _ (by decide)
theorem more_lt (n : Nat) (l : List Nat) (h : ∀ x ∈ l, x < 4294967296) : ∀ x ∈ more n l, x < 4294967296 := by
  induction n generalizing l with
  | zero => exact h
  | succ n ih =>
    refine ih _ fun x hx => ?_
    rcases List.mem_append.1 hx with hx | hx
    · exact h x hx
    · rw [List.mem_singleton.1 hx]; exact nextW_lt l
theorem words_lt (b : List UInt8) (n : Nat) : ∀ x ∈ words b n, x < 4294967296 := by
  intro x hx
  obtain ⟨i, _, rfl⟩ := List.mem_map.1 hx
  exact word_lt b i
theorem sched_lt (b : List UInt8) : ∀ x ∈ sched b, x < 4294967296 := more_lt _ _ (words_lt b 16)
theorem getD_lt {l : List Nat} {N : Nat} (h : ∀ x ∈ l, x < N) (hN : 0 < N) (i : Nat) : l.getD i 0 < N := by
  rw [List.getD_eq_getElem?_getD]
  cases e : l[i]? with
  | none => exact hN
  | some x => exact h x (List.mem_of_getElem? e)

/-! a block taken in -/
def roundsTo (s : St) (ks ws : List Nat) : Nat → St
  | 0 => s
  | i + 1 => (roundsTo s ks ws i).step (ks.getD i 0) (ws.getD i 0)
theorem roundsTo_ok {s : St} (h : s.ok) (ks ws : List Nat) (i : Nat) : (roundsTo s ks ws i).ok := by
  induction i with
  | zero => exact h
  | succ i ih => exact step_ok ih _ _
/-- the state behind a block -/
def St.mix (s : St) (b : List UInt8) : St := s.add (roundsTo s rootsL (sched b) 64)
theorem mix_ok (s : St) (b : List UInt8) : (s.mix b).ok := add_ok _ _
theorem start_ok : start.ok := by unfold St.ok start; decide

/-- the state behind n blocks of some bytes -/
def blocksTo (s : St) (l : List UInt8) : Nat → St
  | 0 => s
  | n + 1 => (blocksTo s l n).mix ((l.drop (64 * n)).take 64)

/-- bytes with their padding -/
def pad (l : List UInt8) : List UInt8 := l ++ 128 :: List.replicate ((119 - l.length % 64) % 64) 0 ++ be (8 * l.length) 8
theorem pad_length (l : List UInt8) : (pad l).length = 64 * ((l.length + 72) / 64) := by
  simp [pad, be_length]
  omega
def St.bytes (s : St) : List UInt8 := s.list.flatMap fun x => be x 4
/-- the digest -/
def shaL (l : List UInt8) : List UInt8 := (blocksTo start (pad l) ((l.length + 72) / 64)).bytes
theorem shaL_length (l : List UInt8) : (shaL l).length = 32 := by
  simp [shaL, St.bytes, St.list, be_length]
theorem abc_is : shaL [97, 98, 99] = [186, 120, 22, 191, 143, 1, 207, 234, 65, 65, 64, 222, 93, 174, 34, 35, 176, 3, 97, 163, 150, 23, 122, 156, 180, 16, 255, 97, 242, 0, 21, 173] := by kernel_rfl
end Go.Proofs.YtgaenpbdfelhhaaDoor

namespace Go.Proofs.YtgaenpbdfelhhaaDoor

def leftI (n : Int) : Int := if 0 ≤ n ∧ n ≤ 15 then 15 - n else 0
def lefts (L : List Int) : List Int := L.map leftI
def sumI (L : List Int) : Int := L.foldl (· + ·) 0
def halvesI (b : UInt8) : List Int := [(b.toNat : Int) / 16, (b.toNat : Int) % 16]
def digL (l : List UInt8) : List Int := l.flatMap halvesI
def chk (n : Int) : List Int := [n / 256, n / 16 % 16, n % 16]
/-- a digest's digits, and its check's -/
def digs (l : List UInt8) : List Int := digL l ++ chk (sumI (lefts (digL l)))

theorem lefts_length (L : List Int) : (lefts L).length = L.length := by simp [lefts]
theorem leftI_yes (n : Int) (h : 0 ≤ n) (h2 : n ≤ 15) : leftI n = 15 - n := if_pos ⟨h, h2⟩
theorem leftI_no (n : Int) (h : ¬ (0 ≤ n ∧ n ≤ 15)) : leftI n = 0 := if_neg h
theorem leftI_bd (n : Int) : 0 ≤ leftI n ∧ leftI n ≤ 15 := by unfold leftI; split <;> omega
theorem sumI_nil : sumI [] = 0 := rfl
theorem sumI_snoc (L : List Int) (x : Int) : sumI (L ++ [x]) = sumI L + x := by simp [sumI]
theorem sumI_foldl (L : List Int) : ∀ k : Int, L.foldl (· + ·) k = k + sumI L := by
  induction L with
  | nil => intro k; simp [sumI]
  | cons x L ih =>
    intro k
    have e : sumI (x :: L) = 0 + x + sumI L := by unfold sumI; rw [List.foldl_cons, ih (0 + x)]; rfl
    rw [List.foldl_cons, ih (k + x), e]
    omega
theorem sumI_append (L M : List Int) : sumI (L ++ M) = sumI L + sumI M := by
  unfold sumI
  rw [List.foldl_append, sumI_foldl M]
  rfl
theorem sumI_bd (L : List Int) (h : ∀ x ∈ L, 0 ≤ x ∧ x ≤ 15) : 0 ≤ sumI L ∧ sumI L ≤ 15 * L.length := by
  suffices ∀ (k : Int), k + 0 ≤ L.foldl (· + ·) k ∧ L.foldl (· + ·) k ≤ k + 15 * L.length by simpa [sumI] using this 0
  induction L with
  | nil => intro k; simp
  | cons x L ih =>
    intro k
    have hx := h x (by simp)
    have := ih (fun y hy => h y (by simp [hy])) (k + x)
    simp only [List.foldl_cons, List.length_cons]
    omega
theorem digL_length (l : List UInt8) : (digL l).length = 2 * l.length := by
  induction l with
  | nil => rfl
  | cons c l ih =>
    have : digL (c :: l) = halvesI c ++ digL l := rfl
    rw [this, List.length_append, ih]
    simp [halvesI]
    omega
theorem digL_bd (l : List UInt8) : ∀ x ∈ digL l, 0 ≤ x ∧ x ≤ 15 := by
  intro x hx
  obtain ⟨b, _, hb⟩ := List.mem_flatMap.1 hx
  have hc := b.toNat_lt
  simp only [halvesI, List.mem_cons, List.not_mem_nil, or_false] at hb
  rcases hb with rfl | rfl <;> omega
theorem lefts_bd (L : List Int) : ∀ x ∈ lefts L, 0 ≤ x ∧ x ≤ 15 := by
  intro x hx
  obtain ⟨y, _, rfl⟩ := List.mem_map.1 hx
  exact leftI_bd y
theorem digL_snoc (l : List UInt8) (c : UInt8) : digL (l ++ [c]) = digL l ++ halvesI c := by simp [digL]
theorem digL_take (s : ByteArray) (k : Nat) (h : k < s.size) : digL (s.data.toList.take (k + 1)) = digL (s.data.toList.take k) ++ [(s[k].toNat : Int) / 16, (s[k].toNat : Int) % 16] := by
  rw [List.take_succ_eq_append_getElem (by simpa using h), digL_snoc]
  rfl
theorem sum_lefts_bd (l : List UInt8) : 0 ≤ sumI (lefts (digL l)) ∧ sumI (lefts (digL l)) ≤ 30 * l.length := by
  have := sumI_bd (lefts (digL l)) (lefts_bd _)
  rw [lefts_length, digL_length] at this
  omega
theorem digs_length (l : List UInt8) : (digs l).length = 2 * l.length + 3 := by
  unfold digs
  rw [List.length_append, digL_length]
  rfl
theorem digs_bd (l : List UInt8) (h : l.length = 16) : ∀ x ∈ digs l, 0 ≤ x ∧ x ≤ 15 := by
  intro x hx
  rcases List.mem_append.1 hx with hx | hx
  · exact digL_bd l x hx
  · have := sum_lefts_bd l
    simp only [chk, List.mem_cons, List.not_mem_nil, or_false] at hx
    rcases hx with rfl | rfl | rfl <;> omega
end Go.Proofs.YtgaenpbdfelhhaaDoor

namespace Go.Proofs.YtgaenpbdfelhhaaDoor
open Go.RowKit

/-- w' is as w was, but for the blocks of S, and new ones -/
structure Turn (S : Nat → Prop) (w w' : World) : Prop where
  os : w'.os = w.os
  tape : w'.tape = w.tape
  output : w'.output = w.output
  size : w.heap.size ≤ w'.heap.size
  block : ∀ i, i < w.heap.size → ¬ S i → w'.heap[i]? = w.heap[i]?
/-- the blocks that were made between two worlds -/
def madeIn (w w' : World) (i : Nat) : Prop := w.heap.size ≤ i ∧ i < w'.heap.size
theorem Turn.refl (S : Nat → Prop) (w : World) : Turn S w w := ⟨rfl, rfl, rfl, Nat.le_refl _, fun _ _ _ => rfl⟩
theorem Turn.mono {S T : Nat → Prop} {w w' : World} (h : Turn S w w') (hs : ∀ i, i < w.heap.size → S i → T i) : Turn T w w' := ⟨h.os, h.tape, h.output, h.size, fun i hi hn => h.block i hi (fun q => hn (hs i hi q))⟩
theorem Turn.trans {S T : Nat → Prop} {a b c : World} (h : Turn S a b) (k : Turn T b c) (hs : ∀ i, i < a.heap.size → T i → S i) : Turn S a c :=
  ⟨k.os.trans h.os, k.tape.trans h.tape, k.output.trans h.output, Nat.le_trans h.size k.size, fun i hi hn => (k.block i (Nat.lt_of_lt_of_le hi h.size) (fun q => hn (hs i hi q))).trans (h.block i hi hn)⟩
theorem Turn.then {S : Nat → Prop} {a b c : World} (h : Turn S a b) (k : Turn S b c) : Turn S a c := h.trans k (fun _ _ q => q)
theorem Turn.grown {S : Nat → Prop} {a b c : World} (h : Turn S a b) (k : b.grownBy c none) : Turn S a c := h.then ⟨k.os, k.tape, k.output, k.size, fun i hi _ => k.block i hi (by simp)⟩
theorem Turn.of_grown {S : Nat → Prop} {a b : World} (k : a.grownBy b none) : Turn S a b := (Turn.refl S a).grown k
theorem Turn.row {S : Nat → Prop} {a b c : World} (h : Turn S a b) {row : Option Nat} (k : b.grownBy c row) (hs : ∀ i, i < a.heap.size → row = some i → S i) : Turn S a c :=
  h.trans (T := fun i => row = some i) ⟨k.os, k.tape, k.output, k.size, fun i hi hn => k.block i hi (fun e => hn e.symm)⟩ hs
theorem Turn.drew {S : Nat → Prop} {a b : World} (h : Turn S a b) : Turn S a b.drew := ⟨h.os, h.tape, h.output, h.size, h.block⟩
theorem Turn.alloc {S : Nat → Prop} {a b : World} (h : Turn S a b) (o : Obj) : Turn S a (b.alloc o) := h.grown (World.grownBy_alloc b o none)
theorem Turn.setCell {S : Nat → Prop} {a b : World} (h : Turn S a b) {k : Nat} (hk : k < a.heap.size → S k) (o : Nat) (u : Value) : Turn S a (b.setCell ⟨k, o, none⟩ u) :=
  ⟨h.os, h.tape, h.output, by rw [size_setCell]; exact h.size, fun i hi hn => by rw [heap_setCell_ne _ _ _ _ (fun e => hn (by rw [← e]; exact hk (by omega)))]; exact h.block i hi hn⟩
theorem Turn.setCells {S : Nat → Prop} {a b : World} (h : Turn S a b) {k : Nat} (hk : k < a.heap.size → S k) (o : Nat) (vs : List Value) : Turn S a (b.setCells k o vs) :=
  ⟨by rw [← h.os]; induction vs generalizing o b with | nil => rfl | cons v r ih => exact ih (b := b.setCell _ v) (h.setCell hk o v) _,
   by rw [← h.tape]; induction vs generalizing o b with | nil => rfl | cons v r ih => exact ih (b := b.setCell _ v) (h.setCell hk o v) _,
   by rw [← h.output]; induction vs generalizing o b with | nil => rfl | cons v r ih => exact ih (b := b.setCell _ v) (h.setCell hk o v) _,
   by rw [size_setCells]; exact h.size, fun i hi hn => by rw [heap_setCells_ne (fun e => hn (by rw [← e]; exact hk (by omega)))]; exact h.block i hi hn⟩
theorem Turn.below {S : Nat → Prop} {B : Nat} {w0 w w' : World} (h : Below B w0 w) (k : Turn S w w') (hB : B ≤ w.heap.size) (hs : ∀ i, i < B → ¬ S i) : Below B w0 w' :=
  ⟨k.os.trans h.os, k.tape.trans h.tape, k.output.trans h.output, Nat.le_trans h.size k.size, fun i hi => (k.block i (Nat.lt_of_lt_of_le hi hB) (hs i hi)).trans (h.block i hi)⟩
theorem Turn.cell {S : Nat → Prop} {w w' : World} (h : Turn S w w') {b : Nat} (hb : b < w.heap.size) (hn : ¬ S b) (o : Nat) : w'.cell? ⟨b, o, none⟩ = w.cell? ⟨b, o, none⟩ := World.cell?_of_block (h.block b hb hn)
theorem Turn.heap {S : Nat → Prop} {w w' : World} (h : Turn S w w') {b : Nat} {o : Obj} (hb : w.heap[b]? = some o) (hn : ¬ S b) : w'.heap[b]? = some o := by
  rw [h.block b (Array.getElem?_eq_some_iff.1 hb).1 hn]; exact hb

/-- an own row lies on, where its block does not turn -/
theorem own_turn {S : Nat → Prop} {w w' : World} {B : Nat} {e : TypeId} {size n : Nat} {v : Value} {xs : List Value} (h : w.ownsRow B e size v n xs) (k : Turn S w w') (hs : ∀ g, v.ownBlock = some g → ¬ S g) : w'.ownsRow B e size v n xs := by
  refine ⟨h.1, ?_⟩
  rcases h.2 with h' | ⟨g, cap, cur, rfl, b, hg, r⟩
  · exact .inl h'
  · exact .inr ⟨g, cap, cur, rfl, b, k.heap hg (hs g rfl), r⟩

/-- the blocks from n0 on that are none of X -/
def rest (n0 : Nat) (X : List Nat) (i : Nat) : Prop := n0 ≤ i ∧ i ∉ X
theorem Turn.inX {n0 : Nat} {X : List Nat} {w w' : World} {x : Nat} {o : Obj} (k : Turn (rest n0 X) w w') (hx : x ∈ X) (h : w.heap[x]? = some o) : w'.heap[x]? = some o := k.heap h (fun q => q.2 hx)
theorem Turn.bel {n0 : Nat} {X : List Nat} {w0 w w' : World} (k : Turn (rest n0 X) w w') (h : Below n0 w0 w) (hn : n0 ≤ w.heap.size) : Below n0 w0 w' := k.below h hn (fun i hi q => by have := q.1; omega)
theorem rest_mono {n0 : Nat} {X Y : List Nat} (h : ∀ x ∈ X, x ∈ Y) {w w' : World} (k : Turn (rest n0 Y) w w') : Turn (rest n0 X) w w' := k.mono (fun _ _ q => ⟨q.1, fun hx => q.2 (h _ hx)⟩)

end Go.Proofs.YtgaenpbdfelhhaaDoor

namespace Go.Proofs.YtgaenpbdfelhhaaDoor
open Go.RowKit

set_option maxRecDepth 100000 in
set_option maxHeartbeats 1600000 in
theorem below_over (a b : ByteArray) (ha : a.size ≤ maxLen) (hb : b.size ≤ maxLen) (z : Int) (hz : 128 < z) (w : World) :
    Calls Tryd.prog 55 #[.string a, .string b, .int .i64 z] w fun e w' => e = .returned (.bool (belowB a b 128)) ∧ w.grownBy w' none := by
  have HA := Lib.hid (fun (i : Nat) (hi : i ≤ 128) (w : World) => bit_any a ha i (by omega) w)
  have HB := Lib.hid (fun (i : Nat) (hi : i ≤ 128) (w : World) => bit_any b hb i (by omega) w)
  have h2 : ¬ z ≤ 128 := by omega
  clear ha hb
  go_enter Tryd.func55, Tryd.ntmps55
  go_wp2_with fail
  go_loopw [7, 10, 11, 12, 13, 14, 15, 16, 17, 18, 19, 20] (fun _ iv _ _ _ _ _ _ _ _ _ _ wr => ∃ (k : Nat), k ≤ 128 ∧ iv = .int .i64 k ∧ Hid (belowB a b k = true) ∧ Hid (w.grownBy wr none)) (fun _ iv _ _ _ _ _ _ _ _ _ _ _ => 128 - (intOf iv).toNat)
  case atStart => exact ⟨0, Nat.zero_le _, rfl, rfl, World.grownBy.refl _ _⟩
  case round =>
    obtain ⟨k, hk, rfl, HK, HW⟩ := hrel
    by_cases hlt : k < 128
    · have d1 : (k : Int) < 128 := by omega
      have hs := belowB_succ a b k
      rw [HK.out, Bool.true_and] at hs
      have H1 := Lib.hid (HA.out k (by omega))
      have H2 := Lib.hid (HB.out k (by omega))
      by_cases hxy : bitS a k = bitS b k
      · have e1 : ((bitS a k : Nat) : Int) = ((bitS b k : Nat) : Int) := by rw [hxy]
        rw [hxy, beq_self_eq_true] at hs
        have HS := Lib.hid hs
        clear hs
        have e2 : (((bitS a k : Nat) : Int) != ((bitS b k : Nat) : Int)) = false := by rw [e1]; simp
        generalize bitS a k = x at *
        generalize bitS b k = y at *
        go_wp2_with fail
        refine (H1.out _).mono ?_
        rintro e w2 ⟨rfl, g2⟩
        go_wp2_with fail
        refine (H2.out _).mono ?_
        rintro e w3 ⟨rfl, g3⟩
        go_wp2_with fail
        go_roundw
        case rel => exact ⟨k + 1, by omega, by go_num, HS.out, grownBy_trans HW.out (grownBy_trans g2 g3)⟩
        case measure => simp [intOf]; omega
      · have hf : belowB a b 128 = false := by
          cases h : belowB a b 128 with
          | false => rfl
          | true => exact absurd ((belowB_iff a b 128).1 h k hlt) hxy
        have e2 : (((bitS a k : Nat) : Int) != ((bitS b k : Nat) : Int)) = true := by simp; omega
        have HF := Lib.hid hf
        clear hs hf
        generalize bitS a k = x at *
        generalize bitS b k = y at *
        go_wp2_with fail
        refine (H1.out _).mono ?_
        rintro e w2 ⟨rfl, g2⟩
        go_wp2_with fail
        refine (H2.out _).mono ?_
        rintro e w3 ⟨rfl, g3⟩
        go_wp2_with fail
        go_ret
        exact ⟨by rw [HF.out]; rfl, grownBy_trans HW.out (grownBy_trans g2 g3)⟩
    · have hkd : k = 128 := by omega
      subst hkd
      have d1 : ¬ ((128 : Nat) : Int) < 128 := by omega
      go_wp2_with fail
      go_ret
      exact ⟨by rw [HK.out]; rfl, HW.out⟩
set_option maxRecDepth 100000 in
theorem below_neg (a b : ByteArray) (z : Int) (hz : z < 0) (w : World) :
    Calls Tryd.prog 55 #[.string a, .string b, .int .i64 z] w fun e w' => e = .returned (.bool true) ∧ w.grownBy w' none := by
  have h1 : ¬ (128 : Int) < z := by omega
  have h2 : z ≤ 128 := by omega
  have h3 : ¬ (0 : Int) < z := by omega
  go_enter Tryd.func55, Tryd.ntmps55
  go_wp2_with fail
  refine wp_loop_rounds 1 ?_
  rw [rounds_succ]
  go_wp2_with fail
  go_ret
  exact ⟨rfl, World.grownBy.refl _ _⟩
/-- a depth, from 0 to 128 -/
def capD (z : Int) : Nat := (min (max z 0) 128).toNat
theorem capD_le (z : Int) : capD z ≤ 128 := by unfold capD; omega
theorem below_int (a b : ByteArray) (ha : a.size ≤ maxLen) (hb : b.size ≤ maxLen) (z : Int) (w : World) :
    Calls Tryd.prog 55 #[.string a, .string b, .int .i64 z] w fun e w' => e = .returned (.bool (belowB a b (capD z))) ∧ w.grownBy w' none := by
  by_cases h1 : z < 0
  · have : capD z = 0 := by unfold capD; omega
    rw [this]
    exact below_neg a b z h1 w
  · by_cases h2 : 128 < z
    · have : capD z = 128 := by unfold capD; omega
      rw [this]
      exact below_over a b ha hb z h2 w
    · obtain ⟨m, rfl⟩ : ∃ m : Nat, z = (m : Int) := ⟨z.toNat, by omega⟩
      have : capD (m : Int) = m := by unfold capD; omega
      rw [this]
      exact below_any a b ha hb m (by omega) w
end Go.Proofs.YtgaenpbdfelhhaaDoor

namespace Go.Proofs.YtgaenpbdfelhhaaDoor

/-- the value of pieces, the lowest first -/
def V : List Nat → Nat
  | [] => 0
  | d :: l => d + 65536 * V l
def Dig (l : List Nat) : Prop := ∀ i, l.getD i 0 < 65536

theorem V_take_drop (l : List Nat) (n : Nat) : V l = V (l.take n) + 65536 ^ n * V (l.drop n) := by
  induction n generalizing l with
  | zero => simp [V]
  | succ n ih =>
    cases l with
    | nil => simp [V]
    | cons d l =>
      simp only [List.take_succ_cons, List.drop_succ_cons, V]
      rw [ih l, Nat.pow_succ, Nat.mul_add]
      rw [Nat.add_assoc, Nat.mul_comm (65536 ^ n) 65536, Nat.mul_assoc]
theorem V_set (l : List Nat) (i x : Nat) (h : i < l.length) : V (l.set i x) + l.getD i 0 * 65536 ^ i = V l + x * 65536 ^ i := by
  induction l generalizing i with
  | nil => cases h
  | cons d l ih =>
    cases i with
    | zero => simp [V]; omega
    | succ i =>
      have := ih i (by simpa using h)
      simp only [List.set_cons_succ, V, List.getD_cons_succ, Nat.pow_succ]
      have e1 : l.getD i 0 * (65536 ^ i * 65536) = 65536 * (l.getD i 0 * 65536 ^ i) := by rw [← Nat.mul_assoc, Nat.mul_comm]
      have e2 : x * (65536 ^ i * 65536) = 65536 * (x * 65536 ^ i) := by rw [← Nat.mul_assoc, Nat.mul_comm]
      rw [e1, e2]
      omega
theorem V_zero (n : Nat) : V (List.replicate n 0) = 0 := by
  induction n with
  | zero => rfl
  | succ n ih => rw [List.replicate_succ, V, ih]
theorem Dig.cons {d : Nat} {l : List Nat} (h : Dig (d :: l)) : d < 65536 ∧ Dig l := ⟨h 0, fun i => by simpa using h (i + 1)⟩
theorem V_lt (l : List Nat) (h : Dig l) : V l < 65536 ^ l.length := by
  induction l with
  | nil => simp [V]
  | cons d l ih =>
    obtain ⟨h1, h2⟩ := h.cons
    have := ih h2
    rw [V, List.length_cons, Nat.pow_succ]
    omega
theorem V_succ (l : List Nat) (k : Nat) (h : k < l.length) : V (l.take (k + 1)) = V (l.take k) + l.getD k 0 * 65536 ^ k := by
  induction k generalizing l with
  | zero =>
    cases l with
    | nil => cases h
    | cons d l => simp [V]
  | succ k ih =>
    cases l with
    | nil => cases h
    | cons d l =>
      have := ih l (by simpa using h)
      simp only [List.take_succ_cons, V, List.getD_cons_succ] at this ⊢
      rw [this, Nat.pow_succ, Nat.mul_add, ← Nat.mul_assoc (l.getD k 0), Nat.mul_comm (l.getD k 0 * 65536 ^ k) 65536]
      omega
theorem V_drop (l : List Nat) (k : Nat) (h : k < l.length) : V (l.drop k) = l.getD k 0 + 65536 * V (l.drop (k + 1)) := by
  rw [List.drop_eq_getElem_cons h, V, List.getD_eq_getElem?_getD, List.getElem?_eq_getElem h]
  rfl

/-! the product, as it is reckoned -/
def tIn (ai i : Nat) (b : List Nat) (out : List Nat) : Nat → List Nat × Nat
  | 0 => (out, 0)
  | k + 1 => ((tIn ai i b out k).1.set (i + k) (((tIn ai i b out k).1.getD (i + k) 0 + ai * b.getD k 0 + (tIn ai i b out k).2) % 65536), ((tIn ai i b out k).1.getD (i + k) 0 + ai * b.getD k 0 + (tIn ai i b out k).2) / 65536)
def tOut (a b : List Nat) : Nat → List Nat
  | 0 => List.replicate (a.length + b.length) 0
  | i + 1 => (tIn (a.getD i 0) i b (tOut a b i) b.length).1.set (i + b.length) ((tIn (a.getD i 0) i b (tOut a b i) b.length).1.getD (i + b.length) 0 + (tIn (a.getD i 0) i b (tOut a b i) b.length).2)
def timesL (a b : List Nat) : List Nat := tOut a b a.length

theorem getD_set (l : List Nat) (i j x : Nat) : (l.set i x).getD j 0 = if i = j ∧ j < l.length then x else l.getD j 0 := by
  rw [List.getD_eq_getElem?_getD, List.getElem?_set, List.getD_eq_getElem?_getD]
  by_cases h : i = j
  · subst h
    by_cases h2 : i < l.length
    · simp [h2]
    · simp [h2]
  · simp [h]
theorem dig_set {l : List Nat} (h : Dig l) (i x : Nat) (hx : x < 65536) : Dig (l.set i x) := fun j => by
  rw [getD_set]
  split
  · exact hx
  · exact h j
theorem t_lt {o ai b c : Nat} (ho : o < 65536) (ha : ai < 65536) (hb : b < 65536) (hc : c < 65536) : o + ai * b + c < 4294967296 := by
  have : ai * b ≤ 65535 * 65535 := Nat.mul_le_mul (by omega) (by omega)
  omega

structure InOk (ai i : Nat) (b out : List Nat) (k : Nat) : Prop where
  len : (tIn ai i b out k).1.length = out.length
  dig : Dig (tIn ai i b out k).1
  carry : (tIn ai i b out k).2 < 65536
  far : ∀ j, i + b.length ≤ j → (tIn ai i b out k).1.getD j 0 = out.getD j 0
  val : V (tIn ai i b out k).1 + (tIn ai i b out k).2 * 65536 ^ (i + k) = V out + ai * V (b.take k) * 65536 ^ i
theorem inOk {ai i : Nat} {b out : List Nat} (ha : ai < 65536) (hb : Dig b) (ho : Dig out) (hl : i + b.length < out.length) (k : Nat) (hk : k ≤ b.length) : InOk ai i b out k := by
  induction k with
  | zero => exact ⟨rfl, ho, by simp [tIn], fun _ _ => rfl, by simp [tIn, V]⟩
  | succ k ih =>
    obtain ⟨h1, h2, h3, h4, h5⟩ := ih (by omega)
    have ht := t_lt (h2 (i + k)) ha (hb k) h3
    refine ⟨?_, ?_, ?_, ?_, ?_⟩
    · rw [tIn]; simp only; rw [List.length_set, h1]
    · rw [tIn]; exact dig_set h2 _ _ (Nat.mod_lt _ (by decide))
    · rw [tIn]; simp only; omega
    · intro j hj
      rw [tIn]
      simp only
      rw [getD_set, if_neg (by omega), h4 j hj]
    · rw [tIn]
      simp only
      have hs := V_set (tIn ai i b out k).1 (i + k) (((tIn ai i b out k).1.getD (i + k) 0 + ai * b.getD k 0 + (tIn ai i b out k).2) % 65536) (by omega)
      have hv := V_succ b k (by omega)
      rw [hv]
      generalize (tIn ai i b out k).1 = o at *
      generalize (tIn ai i b out k).2 = c at *
      generalize o.getD (i + k) 0 = d at *
      generalize b.getD k 0 = e at *
      generalize V (b.take k) = Vb at *
      obtain ⟨P, hP⟩ : ∃ P, P = 65536 ^ (i + k) := ⟨_, rfl⟩
      obtain ⟨R, hR⟩ : ∃ R, R = 65536 ^ i := ⟨_, rfl⟩
      have hPR : P = 65536 ^ k * R := by rw [hP, hR, ← Nat.pow_add, Nat.add_comm]
      rw [← Nat.add_assoc i k 1, Nat.pow_succ, ← hP, ← hR]
      rw [← hP, ← hR] at h5
      rw [← hP] at hs
      have e1 : (d + ai * e + c) / 65536 * (P * 65536) = (65536 * ((d + ai * e + c) / 65536)) * P := by rw [Nat.mul_comm P, ← Nat.mul_assoc, Nat.mul_comm _ 65536]
      rw [e1]
      have e2 : (d + ai * e + c) % 65536 * P + 65536 * ((d + ai * e + c) / 65536) * P = (d + ai * e + c) * P := by rw [← Nat.add_mul, Nat.mod_add_div]
      have e3 : (d + ai * e + c) * P = d * P + ai * e * P + c * P := by rw [Nat.add_mul, Nat.add_mul]
      have e4 : ai * (Vb + e * 65536 ^ k) * R = ai * Vb * R + ai * e * P := by
        rw [hPR, Nat.mul_add, Nat.add_mul, ← Nat.mul_assoc, ← Nat.mul_assoc]
      rw [e4]
      omega

structure OutOk (a b : List Nat) (i : Nat) : Prop where
  len : (tOut a b i).length = a.length + b.length
  dig : Dig (tOut a b i)
  far : ∀ j, i + b.length ≤ j → (tOut a b i).getD j 0 = 0
  val : V (tOut a b i) = V (a.take i) * V b
theorem outOk {a b : List Nat} (ha : Dig a) (hb : Dig b) (i : Nat) (hi : i ≤ a.length) : OutOk a b i := by
  induction i with
  | zero =>
    refine ⟨by simp [tOut], fun j => ?_, fun j _ => ?_, by simp [tOut, V, V_zero]⟩
    · rw [tOut, List.getD_eq_getElem?_getD, List.getElem?_replicate]; split <;> simp
    · rw [tOut, List.getD_eq_getElem?_getD, List.getElem?_replicate]; split <;> simp
  | succ i ih =>
    obtain ⟨h1, h2, h3, h4⟩ := ih (by omega)
    have hin := inOk (i := i) (ha i) hb h2 (by omega) b.length (Nat.le_refl _)
    obtain ⟨g1, g2, g3, g4, g5⟩ := hin
    have hz := g4 (i + b.length) (Nat.le_refl _)
    rw [h3 _ (Nat.le_refl _)] at hz
    refine ⟨?_, ?_, ?_, ?_⟩
    · rw [tOut, List.length_set, g1, h1]
    · rw [tOut]; exact dig_set g2 _ _ (by rw [hz]; omega)
    · intro j hj
      rw [tOut, getD_set, if_neg (by omega), g4 j (by omega), h3 j (by omega)]
    · rw [tOut]
      have hs := V_set (tIn (a.getD i 0) i b (tOut a b i) b.length).1 (i + b.length) ((tIn (a.getD i 0) i b (tOut a b i) b.length).1.getD (i + b.length) 0 + (tIn (a.getD i 0) i b (tOut a b i) b.length).2) (by omega)
      rw [hz] at hs ⊢
      rw [Nat.zero_add] at hs ⊢
      rw [Nat.zero_mul, Nat.add_zero] at hs
      rw [hs, g5, h4, List.take_of_length_le (Nat.le_refl _), V_succ a i (by omega), Nat.add_mul]
      rw [Nat.mul_assoc, Nat.mul_assoc, Nat.mul_comm (V b)]
theorem V_times {a b : List Nat} (ha : Dig a) (hb : Dig b) : V (timesL a b) = V a * V b := by
  have := (outOk ha hb a.length (Nat.le_refl _)).val
  rwa [List.take_of_length_le (Nat.le_refl _)] at this
theorem timesL_length {a b : List Nat} (ha : Dig a) (hb : Dig b) : (timesL a b).length = a.length + b.length := (outOk ha hb a.length (Nat.le_refl _)).len
theorem timesL_dig {a b : List Nat} (ha : Dig a) (hb : Dig b) : Dig (timesL a b) := (outOk ha hb a.length (Nat.le_refl _)).dig

/-! is a power above a number? -/
theorem above_split (m : List Nat) (hm : Dig m) (n p : Nat) (hn : n ≤ m.length) : (decide (p < V (m.drop n)) || (decide (V (m.drop n) = p) && decide (V (m.take n) ≠ 0))) = decide (p * 65536 ^ n < V m) := by
  have h1 := V_take_drop m n
  have hd : Dig (m.take n) := fun i => by
    rw [List.getD_eq_getElem?_getD, List.getElem?_take]
    split
    · rw [← List.getD_eq_getElem?_getD]; exact hm i
    · simp
  have h2 := V_lt _ hd
  rw [List.length_take, Nat.min_eq_left hn] at h2
  generalize V (m.drop n) = hi at *
  generalize V (m.take n) = lo at *
  generalize V m = v at *
  generalize 65536 ^ n = N at *
  rw [Bool.eq_iff_iff]
  simp only [Bool.or_eq_true, Bool.and_eq_true, decide_eq_true_eq]
  rw [h1]
  constructor
  · rintro (h | ⟨rfl, h⟩)
    · have : (p + 1) * N ≤ hi * N := Nat.mul_le_mul_right _ h
      rw [Nat.add_mul, Nat.mul_comm hi] at this
      omega
    · rw [Nat.mul_comm]; omega
  · intro h
    rcases Nat.lt_or_ge p hi with h' | h'
    · exact .inl h'
    · have : hi * N ≤ p * N := Nat.mul_le_mul_right _ h'
      rw [Nat.mul_comm hi] at this
      have e : N * hi = p * N ∨ N * hi < p * N := by omega
      rcases e with e | e
      · right
        have hN : 0 < N := by omega
        have : hi = p := by
          rw [Nat.mul_comm] at e
          exact Nat.eq_of_mul_eq_mul_right hN e
        exact ⟨this, by omega⟩
      · exfalso
        have : hi < p := by
          rcases Nat.lt_or_ge hi p with q | q
          · exact q
          · have := Nat.mul_le_mul_right N q
            rw [Nat.mul_comm hi] at this
            omega
        have : (hi + 1) * N ≤ p * N := Nat.mul_le_mul_right _ this
        rw [Nat.add_mul, Nat.mul_comm hi] at this
        omega
def pieces (y : Nat) : List Nat := [y % 65536, y / 65536 % 65536, y / 4294967296]
theorem pieces_dig (y : Nat) (h : y < 281474976710656) : Dig (pieces y) := fun i => by
  unfold pieces
  match i with
  | 0 => simp; omega
  | 1 => simp; omega
  | 2 => simp; omega
  | i + 3 => simp
theorem V_pieces (y : Nat) : V (pieces y) = y := by
  simp [pieces, V]
  omega
def aboveP (y p : Nat) (cube : Bool) : Bool := if cube then decide (p * 65536 ^ 6 < y * y * y) else decide (p * 65536 ^ 4 < y * y)

/-! the roots -/
def rootTo (p : Nat) (cube : Bool) : Nat → Nat
  | 0 => 0
  | j + 1 => if aboveP (rootTo p cube j + 68719476736 / 2 ^ j) p cube then rootTo p cube j else rootTo p cube j + 68719476736 / 2 ^ j
theorem rootTo_lt (p : Nat) (cube : Bool) (j : Nat) (hj : j ≤ 37) : rootTo p cube j + 137438953472 / 2 ^ j ≤ 137438953472 := by
  induction j with
  | zero => simp [rootTo]
  | succ j ih =>
    have := ih (by omega)
    have e : 137438953472 / 2 ^ j = 2 * (68719476736 / 2 ^ j) := by
      obtain ⟨r, hr⟩ : ∃ r, 36 = j + r := ⟨36 - j, by omega⟩
      have e1 : (68719476736 : Nat) = 2 ^ j * 2 ^ r := by rw [← Nat.pow_add, ← hr]
      have e2 : (137438953472 : Nat) = 2 ^ j * (2 * 2 ^ r) := by rw [Nat.mul_left_comm, ← e1]
      rw [e2, Nat.mul_div_cancel_left _ (Nat.two_pow_pos j), e1, Nat.mul_div_cancel_left _ (Nat.two_pow_pos j)]
    have e3 : 137438953472 / 2 ^ (j + 1) = 68719476736 / 2 ^ j := by
      rw [Nat.pow_succ, ← Nat.div_div_eq_div_mul, e]
      omega
    rw [rootTo, e3]
    split <;> omega
def rootR (p : Nat) (cube : Bool) : Nat := rootTo p cube 37 % 4294967296
/-- is there no divisor below d? -/
def noDiv (p d : Nat) : Bool := (List.range d).all fun k => k < 2 || p % k != 0
theorem noDiv_succ (p d : Nat) (h : 2 ≤ d) : noDiv p (d + 1) = (noDiv p d && (p % d != 0)) := by
  unfold noDiv
  have hd : decide (d < 2) = false := by rw [decide_eq_false_iff_not]; omega
  rw [List.range_succ, List.all_append]
  simp [hd]
def isP (p : Nat) : Bool := (List.range (p + 1)).all fun k => k < 2 || p < k * k || p % k != 0
theorem noDiv_isP (p d : Nat) (h1 : p < d * d) (h2 : ∀ k, k < d → 2 ≤ k → k * k ≤ p) : noDiv p d = isP p := by
  unfold noDiv isP
  rw [Bool.eq_iff_iff, List.all_eq_true, List.all_eq_true]
  simp only [List.mem_range, Bool.or_eq_true, decide_eq_true_eq, bne_iff_ne]
  constructor
  · intro h k hk
    rcases Nat.lt_or_ge k d with hd | hd
    · rcases h k hd with h | h
      · exact .inl (.inl h)
      · exact .inr h
    · left; right
      exact Nat.lt_of_lt_of_le h1 (Nat.mul_le_mul hd hd)
  · intro h k hk
    rcases Nat.lt_or_ge k 2 with h3 | h3
    · exact .inl h3
    · have hkk := h2 k hk h3
      have hkp : k ≤ p := Nat.le_trans (Nat.le_mul_self k) hkk
      rcases h k (by omega) with (h | h) | h
      · exact .inl h
      · omega
      · exact .inr h
/-- the primes below a number -/
def primesTo (q : Nat) : List Nat := (List.range q).filter fun p => 2 ≤ p && isP p
theorem primesTo_succ (q : Nat) (h : 2 ≤ q) : primesTo (q + 1) = primesTo q ++ if isP q then [q] else [] := by
  unfold primesTo
  rw [List.range_succ, List.filter_append]
  congr 1
  by_cases hp : isP q
  · simp [List.filter_cons, hp, h]
  · simp [List.filter_cons, hp]
theorem primesTo_mono (p q : Nat) (h : p ≤ q) : (primesTo p).length ≤ (primesTo q).length := by
  obtain ⟨r, rfl⟩ : ∃ r, q = p + r := ⟨q - p, by omega⟩
  unfold primesTo
  rw [List.range_add, List.filter_append, List.length_append]
  omega
theorem roots64 : (primesTo 312).map (rootR · true) = rootsL := by kernel_rfl
theorem roots8 : (primesTo 20).map (rootR · false) = start.list := by kernel_rfl
theorem primes311 : (primesTo 311).length = 63 := by kernel_rfl
theorem primes19 : (primesTo 19).length = 7 := by kernel_rfl
end Go.Proofs.YtgaenpbdfelhhaaDoor

namespace Go.Proofs.YtgaenpbdfelhhaaDoor
open Go.RowKit

def ints (L : List Int) : List Value := L.map (Value.int .i64)
theorem ints_length (L : List Int) : (ints L).length = L.length := by simp [ints]
theorem ints_append (L M : List Int) : ints (L ++ M) = ints L ++ ints M := by simp [ints]
theorem ints_at (L : List Int) (i : Nat) (h : i < L.length) : (ints L)[i]? = some (.int .i64 L[i]) := by simp [ints, List.getElem?_eq_getElem h]
/-- a slice that holds these numbers -/
def IntsAt (w : World) (v : Value) (L : List Int) : Prop :=
  ∃ a cap, v = .slice a L.length cap ∧ ∀ i (h : i < L.length), ∃ g o, a = some ⟨g, o, none⟩ ∧ w.cell? ⟨g, o + i, none⟩ = some (.int .i64 L[i])
theorem IntsAt.kept {w w' : World} {v : Value} {L : List Int} (h : IntsAt w v L) (hb : w.grownBy w' none) : IntsAt w' v L := by
  obtain ⟨a, cap, rfl, hc⟩ := h
  refine ⟨a, cap, rfl, fun i hi => ?_⟩
  obtain ⟨g, o, ha, hcell⟩ := hc i hi
  exact ⟨g, o, ha, hb.cell hcell (by simp)⟩
theorem IntsAt.nil (w : World) (a : Option Addr) (cap : Nat) : IntsAt w (.slice a 0 cap) [] := ⟨a, cap, rfl, fun i h => absurd h (by simp)⟩
theorem ints_of_own {w : World} {B n : Nat} {t : TypeId} {a : Option Addr} {cap : Nat} {L : List Int} (h : w.ownsRow B t 1 (.slice a n cap) n (ints L)) : IntsAt w (.slice a n cap) L := by
  have hl := h.1
  simp [ints] at hl
  subst hl
  refine ⟨a, cap, rfl, fun i hi => ?_⟩
  rcases h.2 with ⟨_, h0⟩ | ⟨g, cap', cur, he, hB, hg, hnc, hm, hcs, htake⟩
  · omega
  · cases he
    refine ⟨g, 0, rfl, ?_⟩
    rw [Nat.zero_add, cell_of hg]
    have : (ints L)[i]? = some (.int .i64 L[i]) := ints_at L i hi
    rw [← htake, List.getElem?_take, if_pos (by omega)] at this
    simpa using this
theorem own_kept {w w' : World} {B n : Nat} {t : TypeId} {v : Value} {xs : List Value} (h : w.ownsRow B t 1 v n xs) (hg : w.grownBy w' none) : w'.ownsRow B t 1 v n xs := by
  obtain ⟨hl, h⟩ := h
  refine ⟨hl, ?_⟩
  rcases h with h' | ⟨g, cap, cur, rfl, a, hgg, r⟩
  · exact .inl h'
  · refine .inr ⟨g, cap, cur, rfl, a, ?_, r⟩
    rw [hg.block g (Array.getElem?_eq_some_iff.1 hgg).1 (by simp)]
    exact hgg
end Go.Proofs.YtgaenpbdfelhhaaDoor

namespace Go.Proofs.YtgaenpbdfelhhaaDoor
open Go.ChangeShapes Go.WideShapes Go.ChangeAt Go.RowKit

variable {H : Type} {enc : TypeId × Value → H} {P : Program}

/-- The row's post where nothing that was there has turned ('again' is false: nothing is asked of what is frozen). -/
theorem post_of_below {f : Func} {s : ChangeSpec} {apart fresh handsOn : Bool} {W W' : World} {args : Array Value} {v : Value} {ds gs : List (DataW H)} {before pa pv : List MemPlace}
    (hW : DataW.Whole enc P f.params.toList s.vars apart W args.toList ds gs before)
    (hres : ∀ (b : Nat) (sp : Nat → Bool) (hd : Bool), DataW.TrodAll enc P W' b sp hd f.resultTypes.toList (v.resultList f.resultTypes.size) (s.fn H (ds ++ gs)).results [])
    (hargs : ∀ sp : Nat → Bool, (∀ p ∈ before, sp p.block = true) → DataW.TrodAll enc P W' 0 sp true f.params.toList args.toList (s.fn H (ds ++ gs)).args pa)
    (hvars : ∀ sp : Nat → Bool, (∀ p ∈ before, sp p.block = true) → DataW.TrodVars enc P W' sp s.vars (s.fn H (ds ++ gs)).vars pv)
    (hps : before = pa ++ pv) (hk : Below W.heap.size W W') :
    s.post enc P f apart fresh handsOn false W args v W' := by
  have hold : ∀ p ∈ before, (fun b => decide (b < W.heap.size)) p.block = true := fun p hp => by simpa using hW.lt p hp
  refine ⟨ds, gs, before, [], pa, pv, hW, hres _ _ _, hargs _ hold, hvars _ hold, World.keptBut_mono (fun p hp => ⟨hp, ?_⟩) (hk.frame (· ∈ before)), fun h => by cases h⟩
  rw [hps, List.mem_append] at hp
  exact Or.inr hp

/-- The same, what was handed in being read again by 'Below.trod'. -/
theorem post_of_below_at {f : Func} {s : ChangeSpec} {apart fresh handsOn : Bool} {W W' : World} {args : Array Value} {v : Value} {ds gs : List (DataW H)} {before pa pv : List MemPlace}
    (hW : DataW.Whole enc P f.params.toList s.vars apart W args.toList ds gs before)
    (hres : ∀ (b : Nat) (sp : Nat → Bool) (hd : Bool), DataW.TrodAll enc P W' b sp hd f.resultTypes.toList (v.resultList f.resultTypes.size) (s.fn H (ds ++ gs)).results [])
    (hargs : DataW.TrodAll enc P W' 0 (fun b => decide (b < W.heap.size)) true f.params.toList args.toList (s.fn H (ds ++ gs)).args pa)
    (hvars : DataW.TrodVars enc P W' (fun b => decide (b < W.heap.size)) s.vars (s.fn H (ds ++ gs)).vars pv)
    (hps : before = pa ++ pv) (hk : Below W.heap.size W W') :
    s.post enc P f apart fresh handsOn false W args v W' := by
  refine ⟨ds, gs, before, [], pa, pv, hW, hres _ _ _, hargs, hvars, World.keptBut_mono (fun p hp => ⟨hp, ?_⟩) (hk.frame (· ∈ before)), fun h => by cases h⟩
  rw [hps, List.mem_append] at hp
  exact Or.inr hp
end Go.Proofs.YtgaenpbdfelhhaaDoor
