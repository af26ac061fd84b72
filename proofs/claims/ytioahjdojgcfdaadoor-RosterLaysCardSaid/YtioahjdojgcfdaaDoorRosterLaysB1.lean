/- Plain functions for package octet: the bytes of a number. Nothing here names the program. · Small laws on worlds. No walk; no type of the program. · What a Writer and a Reader hold in memory. No walk. · The walks of octet.number, numMayBe, and of a Writer's calls. · The walks of a Writer's put and fail, Num, Text, Fixed. · What a Reader holds in memory. No walk. · The walks of a Reader's calls. · What a Reader reads of bytes that were written. No walk. · The walk of a Writer's Bytes. · Plain functions for package sha: SHA-256 on numbers. Nothing here names the program. · Plain functions for package digits. Nothing here names the program. · The walk of a Writer's Num. · The walk of a Writer's Fixed. · The walk of a Reader's End. -/
import Derived.WalkKit
import Derived.Test.YtioahjdojgcfdaaDoorRows
import Derived.Lib.Hide
import Derived.Deep.Draws
import Derived.Laws.IdiomCopy
import Derived.WalkSpells
import Derived.WalkLawsBesides
import Derived.Laws.IdiomStrings
import Derived.Lib.BufferWrite
import Derived.Laws.CopyOwn
import Derived.Deep.LoopGhost
import Derived.Deep.QuietTactic
import Derived.BigQuiet
namespace Go.Proofs.YtioahjdojgcfdaaDoor

/-- the bytes of a number, the highest first -/
def be (n : Nat) : Nat → List UInt8
  | 0 => []
  | k + 1 => be (n / 256) k ++ [UInt8.ofNat (n % 256)]
theorem be_length (n k : Nat) : (be n k).length = k := by
  induction k generalizing n with
  | zero => rfl
  | succ k ih => simp [be, ih]
theorem be_cons (n k : Nat) : be n (k + 1) = UInt8.ofNat (n / 256 ^ k % 256) :: be n k := by
  induction k generalizing n with
  | zero => simp [be]
  | succ k ih =>
    rw [be, ih, be, Nat.div_div_eq_div_mul, Nat.pow_succ, Nat.mul_comm]
    rfl

/-- a text out of bytes -/
def str (l : List UInt8) : ByteArray := ⟨l.toArray⟩
theorem str_size (l : List UInt8) : (str l).size = l.length := rfl
theorem str_data (l : List UInt8) : (str l).data.toList = l := rfl

/-- the row's cells behind i rounds -/
def rowAt (n k i : Nat) : List Value := (List.replicate (k - i) (0 : UInt8) ++ be n i).map fun c => .int .u8 c.toNat

theorem rowAt_zero (n k : Nat) : (madeCells #[Value.int .u8 0] k).toList = rowAt n k 0 := by
  apply List.ext_getElem?
  intro i
  simp [madeCells, rowAt, be, List.getElem?_replicate]
  by_cases h : i < k <;> simp [h, Nat.mod_one]

theorem rowAt_succ (n k j : Nat) (h : j < k) : rowAt n k (j + 1) = (rowAt n k j).set (k - 1 - j) (.int .u8 (↑n / 2 ^ (8 * j) % 256)) := by
  have e : (UInt8.ofNat (n / 256 ^ j % 256)).toNat = n / 256 ^ j % 256 := by simp
  have p : (2 : Int) ^ (8 * j) = 256 ^ j := by rw [Int.pow_mul]; rfl
  unfold rowAt
  rw [be_cons, show k - j = (k - (j + 1)) + 1 from by omega, List.replicate_succ', List.map_append, List.map_append, List.map_append, List.append_assoc]
  rw [List.set_append_right _ _ (by simp; omega)]
  simp [show k - 1 - j - (k - (j + 1)) = 0 from by omega]
  rw [p]

theorem rowAt_cell (n k j : Nat) (h : j < k) : (rowAt n k j)[k - 1 - j]? = some (.int .u8 0) := by
  unfold rowAt
  rw [List.map_append, List.getElem?_append_left (by simp; omega)]
  simp [List.getElem?_replicate]
  omega

theorem rowAt_end (n k : Nat) : rowAt n k k = (be n k).map fun c => .int .u8 c.toNat := by
  simp [rowAt]
end Go.Proofs.YtioahjdojgcfdaaDoor

namespace Go.Proofs.YtioahjdojgcfdaaDoor
open Go.RowKit

theorem grownBy_trans {a b c : World} {row : Option Nat} (h : a.grownBy b row) (k : b.grownBy c row) : a.grownBy c row :=
  ⟨k.os.trans h.os, k.tape.trans h.tape, k.output.trans h.output, Nat.le_trans h.size k.size, fun i hi hne => (k.block i (Nat.lt_of_lt_of_le hi h.size) hne).trans (h.block i hi hne)⟩
theorem grownBy_any {a b : World} (h : a.grownBy b none) (row : Option Nat) : a.grownBy b row := ⟨h.os, h.tape, h.output, h.size, fun i hi _ => h.block i hi (by simp)⟩
theorem grownBy_below {a b : World} (h : Below a.heap.size a b) : a.grownBy b none := ⟨h.os, h.tape, h.output, h.size, fun i hi _ => h.block i hi⟩
theorem below_grownBy {a b : World} (h : a.grownBy b none) : Below a.heap.size a b := ⟨h.os, h.tape, h.output, h.size, fun i hi => h.block i hi (by simp)⟩
theorem grownBy_drew {a b : World} {row : Option Nat} (h : a.grownBy b row) : a.grownBy b.drew row := ⟨h.os, h.tape, h.output, h.size, h.block⟩
theorem grownBy_setCell {a b : World} {r : Nat} (h : a.grownBy b (some r)) (o : Nat) (u : Value) : a.grownBy (b.setCell ⟨r, o, none⟩ u) (some r) :=
  ⟨h.os, h.tape, h.output, by simpa [World.setCell] using h.size, fun i hi hne => (Below.heap_setCell _ _ _ _ (by intro e; exact hne (by simpa using e))).trans (h.block i hi hne)⟩
theorem grownBy_alloc' {a b : World} {row : Option Nat} (h : a.grownBy b row) (o : Obj) : a.grownBy (b.alloc o) row :=
  ⟨h.os, h.tape, h.output, by simp; have := h.size; omega, fun i hi hne => (Below.heap_alloc _ _ _ (Nat.lt_of_lt_of_le hi h.size)).trans (h.block i hi hne)⟩
theorem cell_of {w : World} {b : Nat} {cs : Array Value} {t : TypeId} {fr : Nat × Nat} (h : w.heap[b]? = some (.cells cs t fr)) (j : Nat) : w.cell? ⟨b, j, none⟩ = cs[j]? := by
  simp [World.cell?, h]
theorem free_of {w : World} {b : Nat} {cs : Array Value} {t : TypeId} (h : w.heap[b]? = some (.cells cs t (0, 0))) (j : Nat) : w.frozen? ⟨b, j, none⟩ = false := by
  simp [World.frozen?, h]
theorem heap_setCell {w : World} {b : Nat} {cs : Array Value} {t : TypeId} {fr : Nat × Nat} (h : w.heap[b]? = some (.cells cs t fr)) (j : Nat) (u : Value) :
    (w.setCell ⟨b, j, none⟩ u).heap[b]? = some (.cells (cs.setIfInBounds j u) t fr) := by
  simp [World.setCell, Array.getElem?_modify, h]
theorem heap_alloc_at (w : World) (o : Obj) (k : Nat) (h : w.heap.size = k) : (w.alloc o).heap[k]? = some o := by
  show (w.heap.push o)[k]? = _
  simp [← h]
theorem grownBy_setNew {a b : World} {row : Option Nat} (h : a.grownBy b row) {k : Nat} (hk : a.heap.size ≤ k) (o : Nat) (u : Value) : a.grownBy (b.setCell ⟨k, o, none⟩ u) row :=
  ⟨h.os, h.tape, h.output, by simpa [World.setCell] using h.size, fun i hi hne => (Below.heap_setCell _ _ _ _ (by show i ≠ k; omega)).trans (h.block i hi hne)⟩
theorem grownBy_drewN {a b : World} {row : Option Nat} (h : a.grownBy b row) (n : Nat) : a.grownBy (b.drewN n) row := ⟨h.os, h.tape, h.output, h.size, h.block⟩
theorem size_setCell (w : World) (a : Addr) (u : Value) : (w.setCell a u).heap.size = w.heap.size := by simp [World.setCell]
theorem heap_setCell_ne (w : World) (k o : Nat) (u : Value) {i : Nat} (h : k ≠ i) : (w.setCell ⟨k, o, none⟩ u).heap[i]? = w.heap[i]? := Below.heap_setCell _ _ _ _ (fun e => h e.symm)
theorem emp (s : ByteArray) : s.toList.isEmpty = decide (s.size = 0) := by
  rw [ByteArray.toList_eq, Bool.eq_iff_iff]
  simp [List.isEmpty_iff, ← ByteArray.size_data, Array.size_eq_zero_iff]
theorem wrap_u64 (n : Nat) (h : n ≤ 18446744073709551615) : IntKind.u64.wrap (n : Int) = (n : Int) := by
  simp only [IntKind.wrap, IntKind.bits, IntKind.signed, IntKind.min, IntKind.max]; simp; omega
/-- a run of cells, as one block -/
theorem heap_setCells {t : TypeId} {b : Nat} : ∀ (vs : List Value) (o : Nat) (w : World) (cs : Array Value), w.heap[b]? = some (.cells cs t (0, 0)) → o + vs.length ≤ cs.size →
    (w.setCells b o vs).heap[b]? = some (.cells (cs.toList.take o ++ vs ++ cs.toList.drop (o + vs.length)).toArray t (0, 0))
  | [], o, w, cs, h, _ => by simp [World.setCells, h]
  | v :: r, o, w, cs, h, hl => by
    rw [World.setCells]
    have h1 := heap_setCell h o v
    simp only [List.length_cons] at hl
    rw [heap_setCells r (o + 1) _ _ h1 (by simp; omega)]
    congr 2
    apply congrArg
    have ho : o < cs.toList.length := by simp; omega
    rw [Array.toList_setIfInBounds, List.set_eq_take_append_cons_drop, if_pos ho]
    have e1 : (cs.toList.take o).length = o := by simp; omega
    have e2 : (cs.toList.take o ++ v :: cs.toList.drop (o + 1)).take (o + 1) = cs.toList.take o ++ [v] := by
      rw [List.take_append, e1]
      simp [List.take_take]
    have e3 : (cs.toList.take o ++ v :: cs.toList.drop (o + 1)).drop (o + 1 + r.length) = cs.toList.drop (o + (r.length + 1)) := by
      rw [List.drop_append, e1, List.drop_of_length_le (by omega)]
      rw [show o + 1 + r.length - o = r.length + 1 from by omega, List.drop_succ_cons, List.drop_drop]
      rw [List.nil_append]
      congr 1
      omega
    rw [e2, e3]
    simp
theorem size_setCells (b : Nat) : ∀ (vs : List Value) (o : Nat) (w : World), (w.setCells b o vs).heap.size = w.heap.size
  | [], _, _ => rfl
  | v :: r, o, w => by rw [World.setCells, size_setCells b r, size_setCell]
theorem heap_setCells_ne {b i : Nat} (h : b ≠ i) : ∀ (vs : List Value) (o : Nat) (w : World), (w.setCells b o vs).heap[i]? = w.heap[i]?
  | [], _, _ => rfl
  | v :: r, o, w => by rw [World.setCells, heap_setCells_ne h r, heap_setCell_ne _ _ _ _ h]
theorem grownBy_setCellsNew {a : World} {row : Option Nat} {k : Nat} (hk : a.heap.size ≤ k) : ∀ (vs : List Value) (o : Nat) (b : World), a.grownBy b row → a.grownBy (b.setCells k o vs) row
  | [], _, _, h => h
  | v :: r, o, b, h => by rw [World.setCells]; exact grownBy_setCellsNew hk r (o + 1) _ (grownBy_setNew h hk o v)
theorem cell_lt {w : World} {b o : Nat} {v : Value} (h : w.cell? ⟨b, o, none⟩ = some v) : b < w.heap.size := by
  rcases Nat.lt_or_ge b w.heap.size with h1 | h1
  · exact h1
  · simp [World.cell?, Array.getElem?_eq_none h1] at h
theorem _root_.Go.World.grownBy.heap {w w' : World} {row : Option Nat} (h : w.grownBy w' row) {g : Nat} {o : Obj} (hg : w.heap[g]? = some o) (hr : row ≠ some g) : w'.heap[g]? = some o := by
  rw [h.block g (Array.getElem?_eq_some_iff.1 hg).1 (fun e => hr e.symm)]
  exact hg
end Go.Proofs.YtioahjdojgcfdaaDoor

namespace Go.Proofs.YtioahjdojgcfdaaDoor
open Go.RowKit


/-- the pieces of a Writer, the last one first -/
def Chain (w : World) : Value → List ByteArray → Prop
  | v, [] => v = .pointer none
  | v, t :: ts => ∃ g v', v = .pointer (some ⟨g, 0, none⟩) ∧ w.heap[g]? = some (.cells #[v', .string t] 161 (0, 0)) ∧ Chain w v' ts

theorem Chain.ptr {w : World} {v : Value} {ts : List ByteArray} (h : Chain w v ts) : ∃ p, v = .pointer p := by
  cases ts with
  | nil => exact ⟨_, h⟩
  | cons t ts => obtain ⟨g, v', rfl, _⟩ := h; exact ⟨_, rfl⟩

theorem Chain.kept {w w' : World} {row : Option Nat} (hg : w.grownBy w' row) (hr : ∀ r, row = some r → ∀ v t, w.heap[r]? ≠ some (.cells #[v, .string t] 161 (0, 0))) :
    ∀ (ts : List ByteArray) (v : Value), Chain w v ts → Chain w' v ts
  | [], _, h => h
  | t :: ts, v, h => by
    obtain ⟨g, v', rfl, hb, hc⟩ := h
    refine ⟨g, v', rfl, ?_, Chain.kept hg hr ts v' hc⟩
    rw [hg.block g (Array.getElem?_eq_some_iff.1 hb).1 (fun e => hr g e.symm v' t hb)]
    exact hb

/-- a Writer's state: its pieces, the last one first; its error -/
structure WSt where
  ts : List ByteArray
  err : Int

def total (ts : List ByteArray) : Nat := (ts.map ByteArray.size).sum
def WSt.put (s : WSt) (t : ByteArray) : WSt := if s.err = 0 then ⟨t :: s.ts, 0⟩ else s
def WSt.fail (s : WSt) (e : Int) : WSt := if s.err = 0 then ⟨s.ts, e⟩ else s

/-- block b is a Writer in this state -/
def WrAt (w : World) (b : Nat) (s : WSt) : Prop :=
  ∃ last, w.heap[b]? = some (.cells #[last, .int .i64 (total s.ts : Nat), .int .i64 s.err] 114 (0, 0)) ∧ Chain w last s.ts

theorem WrAt.kept {w w' : World} {row : Option Nat} {b : Nat} {s : WSt} (h : WrAt w b s) (hg : w.grownBy w' row)
    (hb : row ≠ some b) (hr : ∀ r, row = some r → ∀ v t, w.heap[r]? ≠ some (.cells #[v, .string t] 161 (0, 0))) : WrAt w' b s := by
  obtain ⟨last, hl, hc⟩ := h
  refine ⟨last, ?_, hc.kept hg hr⟩
  rw [hg.block b (Array.getElem?_eq_some_iff.1 hl).1 (fun e => hb e.symm)]
  exact hl
theorem WrAt.grown {w w' : World} {b : Nat} {s : WSt} (h : WrAt w b s) (hg : w.grownBy w' none) : WrAt w' b s := h.kept hg (by simp) (by intro r e; cases e)
theorem WrAt.lt {w : World} {b : Nat} {s : WSt} (h : WrAt w b s) : b < w.heap.size := let ⟨_, hl, _⟩ := h; (Array.getElem?_eq_some_iff.1 hl).1

theorem total_cons (t : ByteArray) (ts : List ByteArray) : total (t :: ts) = t.size + total ts := by simp [total]

theorem WrAt.pushed {w : World} {b : Nat} {p : Option Addr} {s : ByteArray} {ts : List ByteArray} (hlt : b < w.heap.size)
    (hl : w.heap[b]? = some (.cells #[.pointer p, .int .i64 (total ts : Nat), .int .i64 0] 114 (0, 0))) (hc : Chain w (.pointer p) ts) :
    WrAt (((w.setCell ⟨b, 0, none⟩ (.pointer (some ⟨w.heap.size, 0, none⟩))).setCell ⟨b, 1, none⟩ (.int .i64 (↑(total ts) + ↑s.size))).alloc (.cells #[.pointer p, .string s] 161)) b ⟨s :: ts, 0⟩ ∧
    w.grownBy (((w.setCell ⟨b, 0, none⟩ (.pointer (some ⟨w.heap.size, 0, none⟩))).setCell ⟨b, 1, none⟩ (.int .i64 (↑(total ts) + ↑s.size))).alloc (.cells #[.pointer p, .string s] 161)) (some b) := by
  have hg : w.grownBy (((w.setCell ⟨b, 0, none⟩ (.pointer (some ⟨w.heap.size, 0, none⟩))).setCell ⟨b, 1, none⟩ (.int .i64 (↑(total ts) + ↑s.size))).alloc (.cells #[.pointer p, .string s] 161)) (some b) :=
    grownBy_alloc' (grownBy_setCell (grownBy_setCell (World.grownBy.refl _ _) _ _) _ _) _
  refine ⟨⟨.pointer (some ⟨w.heap.size, 0, none⟩), ?_, w.heap.size, .pointer p, rfl, ?_, ?_⟩, hg⟩
  · rw [Below.heap_alloc _ _ _ (by simpa [World.setCell] using hlt), heap_setCell (heap_setCell hl 0 _) 1 _, total_cons]
    simp
    omega
  · exact heap_alloc_at _ _ _ (by simp [World.setCell])
  · refine hc.kept hg ?_
    intro r e v t hr
    cases e
    rw [hl] at hr
    simp at hr

/-- a Writer's pointer: nil, or a block's head -/
def WsAt (w : World) (p : Option Addr) : Option WSt → Prop
  | none => p = none
  | some st => ∃ b, p = some ⟨b, 0, none⟩ ∧ WrAt w b st
/-- the block behind a pointer -/
def prow (p : Option Addr) : Option Nat := p.map Addr.block
/-- room for n bytes more -/
def WRoom (st : Option WSt) (n : Nat) : Prop := ∀ x, st = some x → n + total x.ts ≤ 9223372036854775807
theorem WsAt.grown {w w' : World} {p : Option Addr} {st : Option WSt} (h : WsAt w p st) (hg : w.grownBy w' none) : WsAt w' p st := by
  cases st with
  | none => exact h
  | some st => obtain ⟨b, hp, hw⟩ := h; exact ⟨b, hp, hw.grown hg⟩

/-- a number, written: or why not -/
def WSt.num (s : WSt) (n : Nat) (k : Int) : WSt := if 1 ≤ k ∧ k ≤ 8 ∧ n < 256 ^ k.toNat then s.put (str (be n k.toNat)) else s.fail 10
def WSt.text (s : WSt) (t : ByteArray) : WSt := if t.size ≤ 4096 then (s.put (str (be t.size 2))).put t else s.fail 2
def WSt.fixed (s : WSt) (t : ByteArray) (k : Int) : WSt := if (t.size : Int) = k then s.put t else s.fail 10

theorem total_put (s : WSt) (t : ByteArray) : total (s.put t).ts ≤ t.size + total s.ts := by
  unfold WSt.put
  split
  · rw [total_cons]; omega
  · omega
theorem total_fail (s : WSt) (e : Int) : total (s.fail e).ts = total s.ts := by
  unfold WSt.fail
  split <;> rfl

theorem num_fits (n k : Nat) (h1 : 1 ≤ k) : n / 2 ^ (8 * (k - 1)) ≤ 255 ↔ n < 256 ^ k := by
  have p : 2 ^ (8 * (k - 1)) = 256 ^ (k - 1) := by rw [Nat.pow_mul]
  rw [p]
  obtain ⟨j, rfl⟩ : ∃ j, k = j + 1 := ⟨k - 1, by omega⟩
  rw [Nat.add_sub_cancel, ← Nat.lt_succ_iff, Nat.div_lt_iff_lt_mul (Nat.pos_of_ne_zero (by simp)), Nat.pow_succ, Nat.mul_comm]
theorem num_fits_int (n k : Nat) (h1 : 1 ≤ k) : (n : Int) / 2 ^ (8 * (k - 1)) ≤ 255 ↔ n < 256 ^ k := by
  rw [← num_fits n k h1]
  have : ((n / 2 ^ (8 * (k - 1)) : Nat) : Int) = (n : Int) / 2 ^ (8 * (k - 1)) := by simp
  rw [← this]
  omega
theorem WsAt.fresh (w : World) : WsAt (w.alloc (.cells #[.pointer none, .int .i64 0, .int .i64 0] 114)) (some ⟨w.heap.size, 0, none⟩) (some ⟨[], 0⟩) :=
  ⟨_, rfl, .pointer none, heap_alloc_at _ _ _ rfl, rfl⟩
theorem WRoom.of (st : WSt) (n : Nat) (h : n + total st.ts ≤ 9223372036854775807) : WRoom (some st) n := by
  rintro x ⟨⟩
  exact h
end Go.Proofs.YtioahjdojgcfdaaDoor

namespace Go.Proofs.YtioahjdojgcfdaaDoor
open Go.RowKit

set_option maxHeartbeats 400000 in
theorem numMayBe_any (k : Int) (w : World) :
    Calls Tryd.prog 105 #[.int .i64 k] w fun e w' => e = .returned (.bool (decide (1 ≤ k) && decide (k ≤ 8))) ∧ w = w' := by
  by_cases h1 : 1 ≤ k
  · go_enter Tryd.func105, Tryd.ntmps105
    go_wp2
    go_ret
    exact ⟨by simp [h1], rfl⟩
  · go_enter Tryd.func105, Tryd.ntmps105
    go_wp2
    go_ret
    have h0 : decide (1 ≤ k) = false := decide_eq_false (by omega)
    exact ⟨by rw [h0]; rfl, rfl⟩

theorem infoByte : (Tryd.prog.info? 5).map (fun i => (i.zero, i.size, i.bytes)) = some (some (.int .u8 0), 1, 1) := by kernel_rfl

/-- 'string(b)', b a row of the call's own that holds bytes -/
theorem own_string {wr : World} {B g k cap : Nat} {l : List UInt8} (h : wr.ownsRow B 5 1 (.slice (some ⟨g, 0, none⟩) k cap) k (l.map fun c => .int .u8 c.toNat)) :
    (convert 57 9 (.slice (some ⟨g, 0, none⟩) k cap)).run Tryd.prog wr = .ok (.string (str l)) wr := by
  have hl : l.length = k := by simpa using h.1
  subst hl
  refine run_convert_bytes_back wr 57 9 5 _ cap l Tryd.underlying57 Tryd.underlying5 Tryd.underlying9 fun j hj => ?_
  rw [show Addr.add ⟨g, 0, none⟩ j = (⟨g, j, none⟩ : Addr) from by simp [Addr.add]; omega, h.cellAt j (by simpa using hj)]
  simp [List.getElem?_eq_getElem hj]

set_option maxHeartbeats 400000 in
theorem number_any (n : Nat) (k : Nat) (hn : n ≤ 18446744073709551615) (hk : k ≤ 8) (w : World) :
    Calls Tryd.prog 104 #[.int .u64 n, .int .i64 k] w fun e w' => e = .returned (.string (str (be n k))) ∧ Below w.heap.size w w' := by
  obtain ⟨i0, hi, hz0, hz1, hz2⟩ := info_parts infoByte
  go_enter Tryd.func104, Tryd.ntmps104
  go_wp2_with (at_make; refine wpList_make_full _ rfl _ _ 57 rfl w.heap.size 5 i0 (.int .u8 0) 1 Tryd.underlying57 hi hz0 hz1 _ _ _ _ k rfl rfl rfl rfl ?c1 ?c2 ?c3 ?_)
  case c1 => rw [hz2]; omega
  case c2 => unfold maxLen; omega
  case c3 => omega
  intro w1 hown hg
  rw [rowAt_zero n] at hown
  go_wp2_with fail
  go_loopw [6, 10] (fun _ i wr => ∃ j : Nat, j ≤ k ∧ i = .int .i64 j ∧ wr.ownsRow w.heap.size 5 1 (.slice (some ⟨w.heap.size, 0, none⟩) k k) k (rowAt n k j) ∧ Below w.heap.size w wr)
    (fun _ i _ => k - (intOf i).toNat)
  case atStart => exact ⟨0, Nat.zero_le _, rfl, hown, (Below.refl _ _).grown hg (Nat.le_refl _) (by intro k h; cases h)⟩
  case round =>
    clear hown hg
    obtain ⟨j, hj, rfl, hown, hb⟩ := hrel
    have hf := fun x => hown.frozenAt x
    by_cases hlt : j < k
    · have hc : wr.cell? ⟨w.heap.size, k - 1 - j, none⟩ = some (.int .u8 0) := by
        rw [hown.cellAt _ (by omega), rowAt_cell n k j hlt]
      go_wp2
      go_roundw
      case rel =>
        refine ⟨j + 1, by omega, by go_num, ?_, hb.setCell (Nat.le_refl _) _⟩
        rw [rowAt_succ n k j hlt]
        exact (hown.stored _ _).1
      case measure => simp [intOf]; omega
    · have : j = k := by omega
      subst this
      rw [rowAt_end] at hown
      have hs := own_string hown
      go_wp2
      go_ret
      exact ⟨rfl, hb⟩
end Go.Proofs.YtioahjdojgcfdaaDoor

namespace Go.Proofs.YtioahjdojgcfdaaDoor
open Go.RowKit

set_option maxHeartbeats 400000 in
theorem put_nil (s : ByteArray) (w : World) :
    Calls Tryd.prog 103 #[.pointer none, .string s] w fun e w' => e = .returned (.pointer none) ∧ w = w' := by
  go_enter Tryd.func103, Tryd.ntmps103
  go_wp2
  go_ret
  exact ⟨rfl, rfl⟩
set_option maxHeartbeats 400000 in
theorem fail_nil (x : Int) (w : World) :
    Calls Tryd.prog 102 #[.pointer none, .int .i64 x] w fun e w' => e = .returned (.pointer none) ∧ w = w' := by
  go_enter Tryd.func102, Tryd.ntmps102
  go_wp2
  go_ret
  exact ⟨rfl, rfl⟩

set_option maxHeartbeats 400000 in
theorem put_err (s : ByteArray) (w : World) (b : Nat) (st : WSt) (h : WrAt w b st) (he : st.err ≠ 0) :
    Calls Tryd.prog 103 #[.pointer (some ⟨b, 0, none⟩), .string s] w fun e w' => e = .returned (.pointer (some ⟨b, 0, none⟩)) ∧ w = w' := by
  obtain ⟨last, hl, hc⟩ := h
  have c2 := cell_of hl 2
  have hb : (st.err == 0) = false := by simpa using he
  clear hl hc
  simp at c2
  go_enter Tryd.func103, Tryd.ntmps103
  go_wp2
  go_ret
  exact ⟨rfl, rfl⟩
set_option maxHeartbeats 400000 in
theorem fail_err (x : Int) (w : World) (b : Nat) (st : WSt) (h : WrAt w b st) (he : st.err ≠ 0) :
    Calls Tryd.prog 102 #[.pointer (some ⟨b, 0, none⟩), .int .i64 x] w fun e w' => e = .returned (.pointer (some ⟨b, 0, none⟩)) ∧ w = w' := by
  obtain ⟨last, hl, hc⟩ := h
  have c2 := cell_of hl 2
  have hb : (st.err == 0) = false := by simpa using he
  clear hl hc
  simp at c2
  go_enter Tryd.func102, Tryd.ntmps102
  go_wp2
  go_ret
  exact ⟨rfl, rfl⟩

set_option maxHeartbeats 400000 in
theorem put_ok (s : ByteArray) (w : World) (b : Nat) (ts : List ByteArray) (h : WrAt w b ⟨ts, 0⟩) (hs : s.size + total ts ≤ 9223372036854775807) :
    Calls Tryd.prog 103 #[.pointer (some ⟨b, 0, none⟩), .string s] w fun e w' => e = .returned (.pointer (some ⟨b, 0, none⟩)) ∧ WrAt w' b ⟨s :: ts, 0⟩ ∧ w.grownBy w' (some b) := by
  have hlt := h.lt
  obtain ⟨last, hl, hc⟩ := h
  obtain ⟨p, rfl⟩ := hc.ptr
  have c0 := cell_of hl 0
  have c1 := cell_of hl 1
  have c2 := cell_of hl 2
  have f0 := free_of hl 0
  have f1 := free_of hl 1
  have f2 := free_of hl 2
  simp at c0 c1 c2
  have HL := Lib.hid hl
  have HC := Lib.hid hc
  clear hl hc
  go_enter Tryd.func103, Tryd.ntmps103
  go_wp2
  go_ret
  exact ⟨rfl, WrAt.pushed hlt HL.out HC.out⟩

set_option maxHeartbeats 400000 in
theorem fail_ok (x : Int) (w : World) (b : Nat) (ts : List ByteArray) (h : WrAt w b ⟨ts, 0⟩) :
    Calls Tryd.prog 102 #[.pointer (some ⟨b, 0, none⟩), .int .i64 x] w fun e w' => e = .returned (.pointer (some ⟨b, 0, none⟩)) ∧ WrAt w' b ⟨ts, x⟩ ∧ w.grownBy w' (some b) := by
  have hlt := h.lt
  obtain ⟨last, hl, hc⟩ := h
  have c2 := cell_of hl 2
  have f2 := free_of hl 2
  simp at c2
  have HL := Lib.hid hl
  have HC := Lib.hid hc
  clear hl hc
  go_enter Tryd.func102, Tryd.ntmps102
  go_wp2
  go_ret
  have hg : w.grownBy (w.setCell ⟨b, 2, none⟩ (.int .i64 x)) (some b) := grownBy_setCell (World.grownBy.refl _ _) _ _
  refine ⟨rfl, ⟨last, ?_, HC.out.kept hg ?_⟩, hg⟩
  · rw [heap_setCell HL.out 2 _]
    simp
  · intro r e v t hr
    cases e
    rw [HL.out] at hr
    simp at hr

/-- put, at every state -/
theorem put_any (s : ByteArray) (w : World) (b : Nat) (st : WSt) (h : WrAt w b st) (hs : s.size + total st.ts ≤ 9223372036854775807) :
    Calls Tryd.prog 103 #[.pointer (some ⟨b, 0, none⟩), .string s] w fun e w' => e = .returned (.pointer (some ⟨b, 0, none⟩)) ∧ WrAt w' b (st.put s) ∧ w.grownBy w' (some b) := by
  obtain ⟨ts, err⟩ := st
  by_cases he : err = 0
  · subst he
    exact put_ok s w b ts h hs
  · refine (put_err s w b ⟨ts, err⟩ h he).mono ?_
    rintro e w' ⟨rfl, rfl⟩
    exact ⟨rfl, by simpa [WSt.put, he] using h, World.grownBy.refl _ _⟩
theorem fail_any (x : Int) (w : World) (b : Nat) (st : WSt) (h : WrAt w b st) :
    Calls Tryd.prog 102 #[.pointer (some ⟨b, 0, none⟩), .int .i64 x] w fun e w' => e = .returned (.pointer (some ⟨b, 0, none⟩)) ∧ WrAt w' b (st.fail x) ∧ w.grownBy w' (some b) := by
  obtain ⟨ts, err⟩ := st
  by_cases he : err = 0
  · subst he
    exact fail_ok x w b ts h
  · refine (fail_err x w b ⟨ts, err⟩ h he).mono ?_
    rintro e w' ⟨rfl, rfl⟩
    exact ⟨rfl, by simpa [WSt.fail, he] using h, World.grownBy.refl _ _⟩

theorem put_ws (s : ByteArray) (w : World) (p : Option Addr) (st : Option WSt) (h : WsAt w p st) (hs : WRoom st s.size) :
    Calls Tryd.prog 103 #[.pointer p, .string s] w fun e w' => e = .returned (.pointer p) ∧ WsAt w' p (st.map (·.put s)) ∧ w.grownBy w' (prow p) := by
  cases st with
  | none =>
    obtain rfl := h
    refine (put_nil s w).mono ?_
    rintro e w' ⟨rfl, rfl⟩
    exact ⟨rfl, rfl, World.grownBy.refl _ _⟩
  | some st =>
    obtain ⟨b, rfl, hw⟩ := h
    refine (put_any s w b st hw (hs st rfl)).mono ?_
    rintro e w' ⟨rfl, h1, h2⟩
    exact ⟨rfl, ⟨b, rfl, h1⟩, h2⟩
theorem fail_ws (x : Int) (w : World) (p : Option Addr) (st : Option WSt) (h : WsAt w p st) :
    Calls Tryd.prog 102 #[.pointer p, .int .i64 x] w fun e w' => e = .returned (.pointer p) ∧ WsAt w' p (st.map (·.fail x)) ∧ w.grownBy w' (prow p) := by
  cases st with
  | none =>
    obtain rfl := h
    refine (fail_nil x w).mono ?_
    rintro e w' ⟨rfl, rfl⟩
    exact ⟨rfl, rfl, World.grownBy.refl _ _⟩
  | some st =>
    obtain ⟨b, rfl, hw⟩ := h
    refine (fail_any x w b st hw).mono ?_
    rintro e w' ⟨rfl, h1, h2⟩
    exact ⟨rfl, ⟨b, rfl, h1⟩, h2⟩

end Go.Proofs.YtioahjdojgcfdaaDoor

namespace Go.Proofs.YtioahjdojgcfdaaDoor
open Go.RowKit

/-- block b is a Reader with this rest and this error -/
def RdAt (w : World) (b : Nat) (rest : ByteArray) (err : Int) : Prop := w.heap[b]? = some (.cells #[.string rest, .int .i64 err] 163 (0, 0))
theorem RdAt.lt {w : World} {b : Nat} {s : ByteArray} {e : Int} (h : RdAt w b s e) : b < w.heap.size := (Array.getElem?_eq_some_iff.1 h).1
theorem RdAt.kept {w w' : World} {row : Option Nat} {b : Nat} {s : ByteArray} {e : Int} (h : RdAt w b s e) (hg : w.grownBy w' row) (hb : row ≠ some b) : RdAt w' b s e := by
  unfold RdAt
  rw [hg.block b h.lt (fun e => hb e.symm)]
  exact h




end Go.Proofs.YtioahjdojgcfdaaDoor

namespace Go.Proofs.YtioahjdojgcfdaaDoor
open Go.RowKit

/-- a Reader's state: what wasn't read, and its error -/
structure RSt where
  rest : ByteArray
  err : Int
def RsAt (w : World) (p : Option Addr) : Option RSt → Prop
  | none => p = none
  | some st => ∃ b, p = some ⟨b, 0, none⟩ ∧ RdAt w b st.rest st.err
theorem RsAt.grown {w w' : World} {p : Option Addr} {st : Option RSt} (h : RsAt w p st) (hg : w.grownBy w' none) : RsAt w' p st := by
  cases st with
  | none => exact h
  | some st => obtain ⟨b, hp, hw⟩ := h; exact ⟨b, hp, hw.kept hg (by simp)⟩

def RSt.fail (s : RSt) (e : Int) : RSt := if s.err = 0 then ⟨s.rest, e⟩ else s
def RSt.fixed (s : RSt) (k : Int) : ByteArray × RSt :=
  if s.err ≠ 0 then (ByteArray.empty, s) else if k < 0 then (ByteArray.empty, s.fail 4) else if (s.rest.size : Int) < k then (ByteArray.empty, s.fail 3)
  else (s.rest.extract 0 k.toNat, ⟨s.rest.extract k.toNat s.rest.size, s.err⟩)
/-- the number of some bytes -/
def val (l : List UInt8) : Nat := l.foldl (fun n c => 256 * n + c.toNat) 0
def RSt.num (s : RSt) (k : Int) : Nat × RSt := if 1 ≤ k ∧ k ≤ 8 then (val (s.fixed k).1.data.toList, (s.fixed k).2) else (0, s.fail 4)
def RSt.text (s : RSt) : ByteArray × RSt := if 4096 < (s.num 2).1 then (ByteArray.empty, (s.num 2).2.fail 4) else (s.num 2).2.fixed (s.num 2).1
def RSt.done (s : RSt) : Int := if s.err = 0 ∧ s.rest.size ≠ 0 then 2 else s.err

theorem RdAt.failed {w : World} {b : Nat} {s : ByteArray} {x y : Int} (h : RdAt w b s x) : RdAt (w.setCell ⟨b, 1, none⟩ (.int .i64 y)) b s y := by
  have := heap_setCell h 1 (.int .i64 y)
  simpa [RdAt] using this

set_option maxHeartbeats 400000 in
theorem read_any (s : ByteArray) (w : World) :
    Calls Tryd.prog 63 #[.string s] w fun e w' => e = .returned (.pointer (some ⟨w.heap.size, 0, none⟩)) ∧ RdAt w' w.heap.size s 0 ∧ w.grownBy w' none := by
  go_enter Tryd.func63, Tryd.ntmps63
  go_wp2
  go_ret
  exact ⟨rfl, heap_alloc_at _ _ _ rfl, World.grownBy_alloc _ _ _⟩

set_option maxHeartbeats 400000 in
theorem rfail_any (x : Int) (w : World) (p : Option Addr) (st : Option RSt) (h : RsAt w p st) :
    Calls Tryd.prog 106 #[.pointer p, .int .i64 x] w fun e w' => e = .returned (.tuple #[]) ∧ RsAt w' p (st.map (·.fail x)) ∧ w.grownBy w' (prow p) := by
  cases st with
  | none =>
    obtain rfl := h
    go_enter Tryd.func106, Tryd.ntmps106
    go_wp2
    go_end0
    exact ⟨rfl, rfl, World.grownBy.refl _ _⟩
  | some st =>
    obtain ⟨b, rfl, hb⟩ := h
    have c1 := cell_of hb 1
    have f1 := free_of hb 1
    simp at c1
    have HB := Lib.hid hb
    clear hb
    by_cases he : st.err = 0
    · have ht : (st.err == 0) = true := by simpa using he
      rw [he] at c1
      have HE := Lib.hid he
      clear he ht
      go_enter Tryd.func106, Tryd.ntmps106
      go_wp2
      go_end0
      refine ⟨rfl, ⟨b, rfl, ?_⟩, grownBy_setCell (World.grownBy.refl _ _) _ _⟩
      have := HB.out.failed (y := x)
      simpa [RSt.fail, HE.out] using this
    · have ht : (st.err == 0) = false := by simpa using he
      have HE := Lib.hid he
      clear he
      go_enter Tryd.func106, Tryd.ntmps106
      go_wp2
      go_end0
      refine ⟨rfl, ⟨b, rfl, ?_⟩, World.grownBy.refl _ _⟩
      simpa [RSt.fail, HE.out] using HB.out

set_option maxHeartbeats 400000 in
theorem rfixed_any (k : Int) (w : World) (p : Option Addr) (st : Option RSt) (h : RsAt w p st) (hm : ∀ s, st = some s → s.rest.size ≤ maxLen) :
    Calls Tryd.prog 65 #[.pointer p, .int .i64 k] w fun e w' => e = .returned (.string ((st.map fun s => (s.fixed k).1).getD ByteArray.empty)) ∧ RsAt w' p (st.map fun s => (s.fixed k).2) ∧ w.grownBy w' (prow p) := by
  cases st with
  | none =>
    obtain rfl := h
    go_enter Tryd.func65, Tryd.ntmps65
    go_wp2
    go_ret
    exact ⟨rfl, rfl, World.grownBy.refl _ _⟩
  | some st =>
    have H := Lib.hid h
    obtain ⟨b, rfl, hb⟩ := h
    have hmx := hm st rfl
    unfold maxLen at hmx
    have c0 := cell_of hb 0
    have c1 := cell_of hb 1
    have f0 := free_of hb 0
    simp at c0 c1
    have HB := Lib.hid hb
    clear hb hm
    by_cases he : st.err = 0
    · rw [he] at c1
      have HE := Lib.hid he
      clear he
      by_cases hk : k < 0
      · go_enter Tryd.func65, Tryd.ntmps65
        go_wp2_with fail
        refine (rfail_any 4 _ _ (some st) H.out).mono ?_
        rintro e w' ⟨rfl, h1, h2⟩
        have H1 := Lib.hid h1
        have H2 := Lib.hid h2
        clear h1 h2
        go_wp2
        go_ret
        have hx : st.fixed k = (ByteArray.empty, st.fail 4) := by simp [RSt.fixed, HE.out, hk]
        refine ⟨?_, ?_, H2.out⟩
        · simp [hx]; rfl
        · simpa [hx] using H1.out
      · obtain ⟨k, rfl⟩ := Int.eq_ofNat_of_zero_le (show 0 ≤ k by omega)
        by_cases hl : st.rest.size < k
        · go_enter Tryd.func65, Tryd.ntmps65
          go_wp2_with fail
          refine (rfail_any 3 _ _ (some st) H.out).mono ?_
          rintro e w' ⟨rfl, h1, h2⟩
          have H1 := Lib.hid h1
          have H2 := Lib.hid h2
          clear h1 h2
          go_wp2
          go_ret
          have hx : st.fixed k = (ByteArray.empty, st.fail 3) := by simp [RSt.fixed, HE.out, hl]; intro; omega
          refine ⟨?_, ?_, H2.out⟩
          · simp [hx]; rfl
          · simpa [hx] using H1.out
        · go_enter Tryd.func65, Tryd.ntmps65
          go_wp2
          go_ret
          have hx : st.fixed k = (st.rest.extract 0 k, ⟨st.rest.extract k st.rest.size, st.err⟩) := by simp [RSt.fixed, HE.out, hl]; intro; omega
          refine ⟨?_, ?_, grownBy_setCell (World.grownBy.refl _ _) _ _⟩
          · simp [hx]
          · show RsAt _ _ (some (st.fixed k).2)
            rw [hx]
            refine ⟨b, rfl, ?_⟩
            have := heap_setCell HB.out 0 (.string (st.rest.extract k st.rest.size))
            simpa [RdAt] using this
    · have ht : (st.err != 0) = true := by simpa using he
      have HE := Lib.hid he
      clear he
      go_enter Tryd.func65, Tryd.ntmps65
      go_wp2
      go_ret
      have hx : st.fixed k = (ByteArray.empty, st) := by simp [RSt.fixed, HE.out]
      refine ⟨?_, ?_, World.grownBy.refl _ _⟩
      · simp [hx]; rfl
      · simpa [hx] using H.out

theorem val_snoc (l : List UInt8) (c : UInt8) : val (l ++ [c]) = 256 * val l + c.toNat := by simp [val, List.foldl_append]
theorem val_lt_rev (l : List UInt8) : val l.reverse < 256 ^ l.length := by
  induction l with
  | nil => simp [val]
  | cons c l ih =>
    rw [List.reverse_cons, val_snoc, List.length_cons, Nat.pow_succ]
    have := c.toNat_lt
    omega
theorem val_lt (l : List UInt8) : val l < 256 ^ l.length := by
  have := val_lt_rev l.reverse
  simpa using this
theorem take_snoc' (s : ByteArray) (k : Nat) (h : k < s.size) : s.data.toList.take (k + 1) = s.data.toList.take k ++ [s[k]] := by
  rw [List.take_succ_eq_append_getElem (by simpa using h)]; rfl
theorem or_byte (m c : Nat) (hm : m < 72057594037927936) (hc : c < 256) : bits .or .u64 ((m : Int) * 256) (IntKind.u64.wrap (c : Int)) = ((256 * m + c : Nat) : Int) := by
  have h1 : IntKind.u64.wrap (c : Int) = (c : Int) := by simp only [IntKind.wrap, IntKind.bits, IntKind.signed, IntKind.min, IntKind.max]; simp; omega
  have h2 : ((m : Int) * 256) = ((m * 256 : Nat) : Int) := by simp
  rw [h1, h2, u64_or_nat _ _ (by omega) (by omega)]
  congr 1
  have := Nat.two_pow_add_eq_or_of_lt (i := 8) (b := c) (by omega) m
  rw [Nat.mul_comm m 256]
  exact this.symm

theorem fixed_size (st : RSt) (k : Nat) : (st.fixed k).1.size ≤ k := by
  unfold RSt.fixed
  split
  · exact Nat.zero_le _
  split
  · exact Nat.zero_le _
  split
  · exact Nat.zero_le _
  · simp; omega

set_option maxHeartbeats 400000 in
theorem rnum_any (k : Int) (w : World) (p : Option Addr) (st : Option RSt) (h : RsAt w p st) (hm : ∀ s, st = some s → s.rest.size ≤ maxLen) :
    Calls Tryd.prog 64 #[.pointer p, .int .i64 k] w fun e w' => e = .returned (.int .u64 ((st.map fun s => (s.num k).1).getD 0 : Nat)) ∧ RsAt w' p (st.map fun s => (s.num k).2) ∧ w.grownBy w' (prow p) := by
  have H := Lib.hid h
  have HM := Lib.hid hm
  clear h hm
  by_cases hk : 1 ≤ k ∧ k ≤ 8
  · have hb : (decide (1 ≤ (k : Int)) && decide ((k : Int) ≤ 8)) = true := by simp; omega
    obtain ⟨k, rfl⟩ := Int.eq_ofNat_of_zero_le (show 0 ≤ k by omega)
    obtain ⟨x, hx⟩ : ∃ x, x = (st.map fun s => (s.fixed k).1).getD ByteArray.empty := ⟨_, rfl⟩
    have hxs : x.size ≤ k := by
      subst hx
      cases st with
      | none => exact Nat.zero_le _
      | some s => exact fixed_size s k
    have hx8 : x.size ≤ 8 := by omega
    have hn : (st.map fun s => (s.num k).1).getD 0 = val x.data.toList := by
      subst hx
      cases st with
      | none => rfl
      | some s => simp [RSt.num, hk]
    have hs : (fun s : RSt => (s.num k).2) = (fun s => (s.fixed k).2) := by funext s; simp [RSt.num, hk]
    rw [hn, hs]
    have HX := Lib.hid hx
    clear hn hs hx hk hxs
    go_enter Tryd.func64, Tryd.ntmps64
    go_wp2_with fail
    refine (numMayBe_any k _).mono ?_
    rintro e w' ⟨rfl, rfl⟩
    go_wp2_with fail
    refine (rfixed_any k _ p st H.out HM.out).mono ?_
    rintro e w1 ⟨rfl, h1, h2⟩
    rw [← HX.out]
    have H1 := Lib.hid h1
    have H2 := Lib.hid h2
    clear h1 h2
    go_wp2_with fail
    go_loop [6, 7, 18] (fun n _ i => ∃ j : Nat, ∃ m : Nat, j ≤ x.size ∧ i = .int .i64 j ∧ n = .int .u64 m ∧ Hid (m = val (x.data.toList.take j))) (fun _ _ i => x.size - (intOf i).toNat)
    case atStart => exact ⟨0, 0, Nat.zero_le _, rfl, rfl, rfl⟩
    case round =>
      obtain ⟨j, m, hj, rfl, rfl, HV⟩ := hrel
      by_cases hlt : j < x.size
      · have hm : m < 72057594037927936 := by
          have h1 := val_lt (x.data.toList.take j)
          rw [← HV.out] at h1
          have h2 : (x.data.toList.take j).length ≤ 7 := by simp; omega
          exact Nat.lt_of_lt_of_le h1 (Nat.pow_le_pow_right (by omega) h2)
        go_wp2
        go_round
        case rel =>
          refine ⟨j + 1, 256 * m + x[j].toNat, by omega, by go_num, ?_, ?_⟩
          · rw [or_byte m _ hm x[j].toNat_lt]
          · show _ = _
            rw [take_snoc' x j hlt, val_snoc, ← HV.out]
        case measure => simp [intOf]; omega
      · go_wp2
        go_ret
        refine ⟨?_, H1.out, H2.out⟩
        have := HV.out
        rw [List.take_of_length_le (by simp; omega)] at this
        subst this
        rfl
  · have hb : (decide (1 ≤ (k : Int)) && decide ((k : Int) ≤ 8)) = false := by
      rw [Bool.and_eq_false_iff, decide_eq_false_iff_not, decide_eq_false_iff_not]
      omega
    have hn : (st.map fun s => (s.num k).1).getD 0 = 0 := by
      cases st with
      | none => rfl
      | some s => simp [RSt.num, hk]
    have hs : (fun s : RSt => (s.num k).2) = (fun s => s.fail 4) := by funext s; simp [RSt.num, hk]
    rw [hn, hs]
    clear hn hs hk
    go_enter Tryd.func64, Tryd.ntmps64
    go_wp2_with fail
    refine (numMayBe_any k _).mono ?_
    rintro e w' ⟨rfl, rfl⟩
    go_wp2_with fail
    refine (rfail_any 4 _ p st H.out).mono ?_
    rintro e w1 ⟨rfl, h1, h2⟩
    have H1 := Lib.hid h1
    have H2 := Lib.hid h2
    clear h1 h2
    go_wp2
    go_ret
    exact ⟨rfl, H1.out, H2.out⟩

theorem rest_le (s : RSt) (k : Int) : (s.num k).2.rest.size ≤ s.rest.size ∧ (s.fixed k).2.rest.size ≤ s.rest.size := by
  have hf : ∀ e, (s.fail e).rest.size = s.rest.size := by intro e; unfold RSt.fail; split <;> rfl
  have h2 : (s.fixed k).2.rest.size ≤ s.rest.size := by
    unfold RSt.fixed
    split
    · exact Nat.le_refl _
    split
    · simp [hf]
    split
    · simp [hf]
    · simp
  refine ⟨?_, h2⟩
  unfold RSt.num
  split
  · exact h2
  · simp [hf]

end Go.Proofs.YtioahjdojgcfdaaDoor

namespace Go.Proofs.YtioahjdojgcfdaaDoor

theorem val_be (n k : Nat) (h : n < 256 ^ k) : val (be n k) = n := by
  induction k generalizing n with
  | zero =>
    have : n = 0 := by simpa using h
    subst this
    rfl
  | succ k ih =>
    rw [be, val_snoc, ih (n / 256) (by rw [Nat.div_lt_iff_lt_mul (by decide)]; rw [Nat.pow_succ] at h; omega)]
    have : (UInt8.ofNat (n % 256)).toNat = n % 256 := by simp
    rw [this]
    omega

theorem fixed_str (a r : List UInt8) : (⟨str (a ++ r), 0⟩ : RSt).fixed (a.length : Int) = (str a, ⟨str r, 0⟩) := by
  have hs : ((str (a ++ r)).size : Int) = a.length + r.length := by simp [str_size]
  unfold RSt.fixed
  simp only
  rw [if_neg (by simp), if_neg (by omega), if_neg (by rw [hs]; omega)]
  have e1 : (str (a ++ r)).extract 0 (a.length : Int).toNat = str a := by
    apply ByteArray.ext
    simp [str]
  have e2 : (str (a ++ r)).extract (a.length : Int).toNat (str (a ++ r)).size = str r := by
    apply ByteArray.ext
    simp [str]
    exact List.take_of_length_le (by show r.length ≤ (a ++ r).length - a.length; simp)
  rw [e1, e2]

theorem rd_num {n : Nat} {k : Int} (h : 1 ≤ k ∧ k ≤ 8 ∧ n < 256 ^ k.toNat) (r : List UInt8) : (⟨str (be n k.toNat ++ r), 0⟩ : RSt).num k = (n, ⟨str r, 0⟩) := by
  obtain ⟨k, rfl⟩ := Int.eq_ofNat_of_zero_le (show 0 ≤ k by omega)
  have hf := fixed_str (be n k) r
  rw [be_length] at hf
  unfold RSt.num
  rw [if_pos ⟨h.1, h.2.1⟩]
  show (val ((⟨str (be n k ++ r), 0⟩ : RSt).fixed k).1.data.toList, ((⟨str (be n k ++ r), 0⟩ : RSt).fixed k).2) = _
  rw [hf]
  show (val (be n k), _) = _
  rw [val_be n k (by simpa using h.2.2)]

theorem str_self (t : ByteArray) : str t.data.toList = t := by
  apply ByteArray.ext
  simp [str]

theorem rd_fixed (t : ByteArray) (r : List UInt8) : (⟨str (t.data.toList ++ r), 0⟩ : RSt).fixed (t.size : Int) = (t, ⟨str r, 0⟩) := by
  have hf := fixed_str t.data.toList r
  rw [str_self] at hf
  simpa using hf

theorem rd_text {t : ByteArray} (h : t.size ≤ 4096) (r : List UInt8) : (⟨str ((be t.size 2 ++ t.data.toList) ++ r), 0⟩ : RSt).text = (t, ⟨str r, 0⟩) := by
  have hn := rd_num (n := t.size) (k := 2) ⟨by omega, by omega, by show t.size < 65536; omega⟩ (t.data.toList ++ r)
  have h2 : (2 : Int).toNat = 2 := rfl
  rw [h2] at hn
  unfold RSt.text
  rw [List.append_assoc, hn]
  simp only
  rw [if_neg (by omega), rd_fixed]
end Go.Proofs.YtioahjdojgcfdaaDoor

namespace Go.Proofs.YtioahjdojgcfdaaDoor
open Go.RowKit

/-- 'copy(b[off:], s)', s a text, as one step of a region that draws its order -/
theorem step_copy_text {P : Program} {ops : Array Oper} {o : Oper} {a : Act} {w : World} {K : Act → World → Prop} {Q : Exit → Act → World → Prop} {E : Prop} (hgd : o.guard = none) (d s : Operand) (dT sT : TypeId)
    (ho : o.op = .call { callee := .builtin .copy, args := #[d, s], argTypes := #[dT, sT] }) (elem : TypeId) (hu : P.underlying dT = some (.slice elem)) (hsz : (P.info? elem).map (·.size) = some 1)
    (dp : Option Addr) (dLen dCap : Nat) (x : ByteArray) (hd : a.eval d = .slice dp dLen dCap) (hs : a.eval s = .string x)
    (g off : Nat) (cur : List Value) (t : TypeId) (hg : w.heap[g]? = some (.cells cur.toArray t (0, 0))) (hn : x.size ≤ dLen)
    (hpos : 0 < x.size → dp = some ⟨g, off, none⟩) (hfit : off + x.size ≤ cur.length)
    (h : ∀ w', Hid (w'.heap[g]? = some (.cells (splice cur off (Lib.byteCells x.data.toList)).toArray t (0, 0))) → w.grownBy w' (some g) → K (a.put o.dst (goInt x.size)) w') :
    if Region.wanted o (yielded ops a.tmps) = true then Oper.wp P o a w K Q else E := by
  have hw : Region.wanted o (yielded ops a.tmps) = true := by simp [Region.wanted, hgd]
  rw [if_pos hw]
  by_cases h0 : x.size = 0
  · have hrun := Lib.run_copy_empty_string (P := P) w dT sT o.type elem dp dLen dCap x hu (by simp at hsz; obtain ⟨i, hi, _⟩ := hsz; simp [hi]) h0
    unfold Oper.wp
    simp [execOp, ho, resolve, invoke, builtin, hd, hs, hrun, Result.andThen]
    have hx : x.data.toList = [] := List.eq_nil_of_length_eq_zero (by simpa using h0)
    have := h w (show _ = _ by simpa [splice, hx, Lib.byteCells] using hg) (World.grownBy.refl _ _)
    rw [h0] at this
    exact this
  · obtain rfl := hpos (by omega)
    have hrun := Lib.run_copy_row_string (P := P) w dT sT o.type elem g off dLen dCap x cur.toArray t hu hsz hg hn (by simpa using hfit)
    have hlen : (Lib.byteCells x.data.toList).length = x.size := by simp [Lib.byteCells]
    unfold Oper.wp
    simp [execOp, ho, resolve, invoke, builtin, hd, hs, hrun, Result.andThen]
    refine h _ (show _ = _ from ?_) ⟨rfl, rfl, rfl, by simp [World.setRow], fun k _ hk => setRow_other w g k _ (by intro e; exact hk (by rw [e]))⟩
    rw [setRow_heap w g _ _ t _ hg]
    simp [splice, hlen]

/-- the pieces' bytes, put together -/
def flat : List ByteArray → List UInt8
  | [] => []
  | t :: ts => flat ts ++ t.data.toList
theorem flat_length (ts : List ByteArray) : (flat ts).length = total ts := by
  induction ts with
  | nil => rfl
  | cons t ts ih => rw [flat, List.length_append, ih, total_cons, Nat.add_comm]; rfl

theorem infoPtr : (Tryd.prog.info? 5).map (·.size) = some 1 := by kernel_rfl

set_option maxHeartbeats 400000 in
theorem bytes_nil (w : World) :
    Calls Tryd.prog 62 #[.pointer none] w fun e w' => e = .returned (.tuple #[.string ByteArray.empty, .int .i64 1]) ∧ w = w' := by
  go_enter Tryd.func62, Tryd.ntmps62
  go_wp2
  go_ret2
  exact ⟨rfl, rfl⟩
set_option maxHeartbeats 400000 in
theorem bytes_err (w : World) (b : Nat) (st : WSt) (h : WrAt w b st) (he : st.err ≠ 0) :
    Calls Tryd.prog 62 #[.pointer (some ⟨b, 0, none⟩)] w fun e w' => e = .returned (.tuple #[.string ByteArray.empty, .int .i64 st.err]) ∧ w.grownBy w' none := by
  obtain ⟨last, hl, hc⟩ := h
  have c2 := cell_of hl 2
  have hb : (st.err == 0) = false := by simpa using he
  have hb' : (st.err != 0) = true := by simpa using he
  clear hl hc
  simp at c2
  go_enter Tryd.func62, Tryd.ntmps62
  go_wp2
  go_quiet (fail)
  go_wp2
  go_ret2
  exact ⟨rfl, ⟨rfl, rfl, rfl, Nat.le_refl _, fun _ _ _ => rfl⟩⟩

/-- 'string(b)', b a whole block of bytes -/
theorem heap_string {wr : World} {g cap : Nat} {l : List UInt8} (h : wr.heap[g]? = some (.cells (Lib.byteCells l).toArray 5 (0, 0))) :
    (convert 57 9 (.slice (some ⟨g, 0, none⟩) l.length cap)).run Tryd.prog wr = .ok (.string (str l)) wr := by
  refine run_convert_bytes_back wr 57 9 5 _ cap l Tryd.underlying57 Tryd.underlying5 Tryd.underlying9 fun j hj => ?_
  rw [show Addr.add ⟨g, 0, none⟩ j = (⟨g, j, none⟩ : Addr) from by simp [Addr.add]; omega, cell_of h]
  simp [Lib.byteCells, List.getElem?_eq_getElem hj]

theorem heap_of_own {w : World} {B g n : Nat} {xs : List Value} (h : w.ownsRow B 5 1 (.slice (some ⟨g, 0, none⟩) n n) n xs) : w.heap[g]? = some (.cells xs.toArray 5 (0, 0)) := by
  rcases h.2 with ⟨h', _⟩ | ⟨g', cap', cur, h', _, hg, _, _, hcs, htake⟩
  · simp at h'
  · simp only [Value.slice.injEq, Option.some.injEq, Addr.mk.injEq, and_true, true_and] at h'
    obtain ⟨rfl, rfl⟩ := h'
    rw [hg, ← htake, List.take_of_length_le (by simp [hcs])]

theorem omade_bytes (n : Nat) : (madeCells #[Value.int .u8 0] n).toList = Lib.byteCells (List.replicate n 0) := by
  apply List.ext_getElem?
  intro i
  simp [madeCells, Lib.byteCells, List.getElem?_replicate]
  by_cases h : i < n <;> simp [h, Nat.mod_one]

theorem splice_end (n m : Nat) (x d : List UInt8) (h : n = x.length + m) : splice (Lib.byteCells (List.replicate n 0 ++ d)) m (Lib.byteCells x) = Lib.byteCells (List.replicate m 0 ++ (x ++ d)) := by
  subst h
  simp only [splice, Lib.byteCells, List.map_append, List.length_map]
  rw [List.take_append_of_le_length (by simp), List.drop_append]
  simp [Nat.add_comm]

set_option maxHeartbeats 1000000 in
theorem bytes_ok (w : World) (b : Nat) (ts : List ByteArray) (h : WrAt w b ⟨ts, 0⟩) (hs : total ts ≤ 281474976710656) :
    Calls Tryd.prog 62 #[.pointer (some ⟨b, 0, none⟩)] w fun e w' => e = .returned (.tuple #[.string (str (flat ts)), .int .i64 0]) ∧ w.grownBy w' none := by
  obtain ⟨i0, hi, hz0, hz1, hz2⟩ := info_parts infoByte
  have hlt := h.lt
  obtain ⟨last, hl, hc⟩ := h
  obtain ⟨p, rfl⟩ := hc.ptr
  have c0 := cell_of hl 0
  have c1 := cell_of hl 1
  have c2 := cell_of hl 2
  simp at c0 c1 c2
  have HC := Lib.hid hc
  have HL := Lib.hid hl
  clear hc hl
  obtain ⟨T, hT⟩ : ∃ T, T = total ts := ⟨_, rfl⟩
  rw [← hT] at hs c1
  have HT := Lib.hid hT
  clear hT
  go_enter Tryd.func62, Tryd.ntmps62
  go_wp2_with (at_make; refine wpList_make_full _ rfl _ _ 57 rfl w.heap.size 5 i0 (.int .u8 0) 1 Tryd.underlying57 hi hz0 hz1 _ _ _ _ T rfl rfl rfl rfl ?m1 ?m2 ?m3 ?_)
  case m2 => unfold maxLen; omega
  intro w1 hown hg
  have d0 := hg.cell c0 (by simp)
  have d1 := hg.cell c1 (by simp)
  have HO := Lib.hid (heap_of_own hown)
  have HG := Lib.hid hg
  clear hown hg c0 c1 c2
  go_wp2_with fail
  go_loopg [5, 6] ts.length (fun k e v wr => ∃ rem d, ∃ n : Nat, rem.length = k ∧ Aside (flat ts = flat rem ++ d) ∧ e = .int .i64 n ∧ Aside (n = total rem) ∧ n ≤ T ∧ Hid (Chain wr v rem) ∧
    Hid (wr.heap[w.heap.size]? = some (.cells (Lib.byteCells (List.replicate n 0 ++ d)).toArray 5 (0, 0))) ∧ Hid (w.grownBy wr none))
  case atStart =>
    refine ⟨ts, [], T, rfl, by simp [Aside], rfl, HT.out, Nat.le_refl _, ?_, ?_, HG.out⟩
    · exact HC.out.kept HG.out (by intro r e; cases e)
    · have := HO.out
      rw [omade_bytes] at this
      simpa [Hid] using this
  case round =>
    clear d0 d1 HO HG HC HL
    obtain ⟨rem, d, n, HK, HF, rfl, HN, hn, HC, HO, HB⟩ := hrel
    cases rem with
    | nil =>
      have hv : _ = Value.pointer none := HC.out
      subst hv
      have hf : d = flat ts := by have := HF.out; simpa [flat] using this.symm
      subst hf
      have hn0 : n = 0 := HN.out
      subst hn0
      have hstr := heap_string (cap := T) (by simpa using HO.out)
      rw [flat_length, ← HT.out] at hstr
      go_wp2
      go_ret2
      exact ⟨rfl, HB.out⟩
    | cons t rem =>
      obtain ⟨g, v', hv, hb, hc⟩ := HC.out
      subst hv
      obtain ⟨p', rfl⟩ := hc.ptr
      have e0 := cell_of hb 0
      have e1 := cell_of hb 1
      simp at e0 e1
      have hne : some g ≠ some w.heap.size := by
        intro e
        obtain rfl := Option.some.inj e
        have := HO.out
        rw [hb] at this
        simp at this
      have HB' := Lib.hid hb
      have HC' := Lib.hid hc
      clear hb hc
      have hn1 : t.size ≤ n := by have := HN.out; rw [total_cons] at this; omega
      have HN' : Hid (n = t.size + total rem) := by have := HN.out; rw [total_cons] at this; exact this
      clear HN
      have hle : (n : Int) - (t.size : Int) ≤ (T : Int) := by omega
      go_wp2_with fail
      go_region_law (refine step_copy_text rfl (.tmp 46) (.tmp 50) 57 9 rfl 5 Tryd.underlying57 infoPtr _ _ _ t rfl rfl w.heap.size (n - t.size) (Lib.byteCells (List.replicate n 0 ++ d)) 5 HO.out (by omega) (fun h => by rw [if_neg (by omega)]) (by simp [Lib.byteCells]; omega) ?_; intro w2 HO2 hg2; have e2 := hg2.cell e0 hne)
      generalize (if T = n - t.size then some (⟨w.heap.size, 0, none⟩ : Addr) else some ⟨w.heap.size, n - t.size, none⟩) = A
      have HG2 : Hid (wr.grownBy w2 (some w.heap.size)) := ⟨hg2.os, hg2.tape, hg2.output, hg2.size, hg2.block⟩
      clear hg2 e0 e1
      have hcast : (n : Int) - (t.size : Int) = ((n - t.size : Nat) : Int) := by omega
      have HX := Lib.hid hcast
      clear hcast
      go_wp2
      go_roundg rem.length
      case measure => have := HK; simp at this; omega
      case rel =>
        refine ⟨rem, t.data.toList ++ d, n - t.size, rfl, ?_, by rw [HX.out], ?_, by omega, ?_, ?_, ?_⟩
        · have := HF.out
          simpa [Aside, flat] using this
        · have := HN'.out
          show _ = _
          omega
        · refine HC'.out.kept HG2.out ?_
          intro r e v x hr
          cases e
          rw [HO.out] at hr
          simp at hr
        · have := HO2.out
          rw [splice_end n (n - t.size) t.data.toList d (by simp; omega)] at this
          exact this
        · have h1 := HB.out
          have h2 := HG2.out
          exact ⟨h2.os.trans h1.os, h2.tape.trans h1.tape, h2.output.trans h1.output, Nat.le_trans h1.size h2.size, fun i hi _ =>
            (h2.block i (Nat.lt_of_lt_of_le hi h1.size) (by intro e; have := Option.some.inj e; omega)).trans (h1.block i hi (by simp))⟩
end Go.Proofs.YtioahjdojgcfdaaDoor

namespace Go.Proofs.YtioahjdojgcfdaaDoor

/-! words -/
/-- a word turned to the right -/
def rotr (n x : Nat) : Nat := x / 2 ^ n + x % 2 ^ n * 2 ^ (32 - n)
def sig0 (x : Nat) : Nat := (rotr 7 x ^^^ rotr 18 x) ^^^ x / 2 ^ 3
def sig1 (x : Nat) : Nat := (rotr 17 x ^^^ rotr 19 x) ^^^ x / 2 ^ 10
def Sig0 (x : Nat) : Nat := (rotr 2 x ^^^ rotr 13 x) ^^^ rotr 22 x
def Sig1 (x : Nat) : Nat := (rotr 6 x ^^^ rotr 11 x) ^^^ rotr 25 x
def chs (e f g : Nat) : Nat := (e &&& f) ^^^ ((4294967295 - e) &&& g)
def maj (a b c : Nat) : Nat := ((a &&& b) ^^^ (a &&& c)) ^^^ (b &&& c)

theorem rotr_lt {n x : Nat} (hn : n ≤ 32) (hx : x < 4294967296) : rotr n x < 4294967296 := by
  unfold rotr
  have h1 : x / 2 ^ n < 2 ^ (32 - n) := by
    rw [Nat.div_lt_iff_lt_mul (Nat.two_pow_pos n), ← Nat.pow_add, Nat.sub_add_cancel hn]; exact hx
  have h2 : x % 2 ^ n + 1 ≤ 2 ^ n := Nat.mod_lt _ (Nat.two_pow_pos n)
  have h3 : (x % 2 ^ n + 1) * 2 ^ (32 - n) ≤ 2 ^ n * 2 ^ (32 - n) := Nat.mul_le_mul_right _ h2
  rw [← Nat.pow_add, Nat.add_sub_cancel' hn, Nat.add_mul] at h3
  have h4 : (2 : Nat) ^ 32 = 4294967296 := by decide
  omega
theorem xor_lt {a b : Nat} (ha : a < 4294967296) (hb : b < 4294967296) : a ^^^ b < 4294967296 := Nat.xor_lt_two_pow (n := 32) ha hb
theorem and_lt {a b : Nat} (ha : a < 4294967296) : a &&& b < 4294967296 := Nat.lt_of_le_of_lt Nat.and_le_left ha
theorem div_lt32 {a n : Nat} (ha : a < 4294967296) : a / 2 ^ n < 4294967296 := Nat.lt_of_le_of_lt (Nat.div_le_self _ _) ha
theorem sig0_lt {x : Nat} (hx : x < 4294967296) : sig0 x < 4294967296 := xor_lt (xor_lt (rotr_lt (by decide) hx) (rotr_lt (by decide) hx)) (div_lt32 hx)
theorem sig1_lt {x : Nat} (hx : x < 4294967296) : sig1 x < 4294967296 := xor_lt (xor_lt (rotr_lt (by decide) hx) (rotr_lt (by decide) hx)) (div_lt32 hx)
theorem Sig0_lt {x : Nat} (hx : x < 4294967296) : Sig0 x < 4294967296 := xor_lt (xor_lt (rotr_lt (by decide) hx) (rotr_lt (by decide) hx)) (rotr_lt (by decide) hx)
theorem Sig1_lt {x : Nat} (hx : x < 4294967296) : Sig1 x < 4294967296 := xor_lt (xor_lt (rotr_lt (by decide) hx) (rotr_lt (by decide) hx)) (rotr_lt (by decide) hx)
theorem chs_lt {e f g : Nat} (he : e < 4294967296) : chs e f g < 4294967296 := xor_lt (and_lt he) (and_lt (by omega))
theorem maj_lt {a b c : Nat} (ha : a < 4294967296) (hb : b < 4294967296) : maj a b c < 4294967296 := xor_lt (xor_lt (and_lt ha) (and_lt ha)) (and_lt hb)

/-! the state: eight words -/
structure St where
  a : Nat
  b : Nat
  c : Nat
  d : Nat
  e : Nat
  f : Nat
  g : Nat
  h : Nat
def St.ok (s : St) : Prop := s.a < 4294967296 ∧ s.b < 4294967296 ∧ s.c < 4294967296 ∧ s.d < 4294967296 ∧ s.e < 4294967296 ∧ s.f < 4294967296 ∧ s.g < 4294967296 ∧ s.h < 4294967296
def St.list (s : St) : List Nat := [s.a, s.b, s.c, s.d, s.e, s.f, s.g, s.h]
def start : St := ⟨1779033703, 3144134277, 1013904242, 2773480762, 1359893119, 2600822924, 528734635, 1541459225⟩
def rootsL : List Nat := [1116352408, 1899447441, 3049323471, 3921009573, 961987163, 1508970993, 2453635748, 2870763221, 3624381080, 310598401, 607225278, 1426881987, 1925078388, 2162078206, 2614888103, 3248222580, 3835390401, 4022224774, 264347078, 604807628, 770255983, 1249150122, 1555081692, 1996064986, 2554220882, 2821834349, 2952996808, 3210313671, 3336571891, 3584528711, 113926993, 338241895, 666307205, 773529912, 1294757372, 1396182291, 1695183700, 1986661051, 2177026350, 2456956037, 2730485921, 2820302411, 3259730800, 3345764771, 3516065817, 3600352804, 4094571909, 275423344, 430227734, 506948616, 659060556, 883997877, 958139571, 1322822218, 1537002063, 1747873779, 1955562222, 2024104815, 2227730452, 2361852424, 2428436474, 2756734187, 3204031479, 3329325298]

def t1 (s : St) (k w : Nat) : Nat := (s.h + Sig1 s.e + chs s.e s.f s.g + k + w) % 4294967296
def t2 (s : St) : Nat := (Sig0 s.a + maj s.a s.b s.c) % 4294967296
def St.step (s : St) (k w : Nat) : St := ⟨(t1 s k w + t2 s) % 4294967296, s.a, s.b, s.c, (s.d + t1 s k w) % 4294967296, s.e, s.f, s.g⟩
theorem step_ok {s : St} (h : s.ok) (k w : Nat) : (s.step k w).ok := by
  obtain ⟨ha, hb, hc, hd, he, hf, hg, hh⟩ := h
  exact ⟨Nat.mod_lt _ (by decide), ha, hb, hc, Nat.mod_lt _ (by decide), he, hf, hg⟩
def St.add (s v : St) : St := ⟨(s.a + v.a) % 4294967296, (s.b + v.b) % 4294967296, (s.c + v.c) % 4294967296, (s.d + v.d) % 4294967296, (s.e + v.e) % 4294967296, (s.f + v.f) % 4294967296, (s.g + v.g) % 4294967296, (s.h + v.h) % 4294967296⟩
theorem add_ok (s v : St) : (s.add v).ok := ⟨Nat.mod_lt _ (by decide), Nat.mod_lt _ (by decide), Nat.mod_lt _ (by decide), Nat.mod_lt _ (by decide), Nat.mod_lt _ (by decide), Nat.mod_lt _ (by decide), Nat.mod_lt _ (by decide), Nat.mod_lt _ (by decide)⟩

/-! the schedule -/
/-- four bytes as a word -/
def word (b : List UInt8) (i : Nat) : Nat := (((b.getD (4 * i) 0).toNat * 256 + (b.getD (4 * i + 1) 0).toNat) * 256 + (b.getD (4 * i + 2) 0).toNat) * 256 + (b.getD (4 * i + 3) 0).toNat
theorem word_lt (b : List UInt8) (i : Nat) : word b i < 4294967296 := by
  unfold word
  have h0 := (b.getD (4 * i) 0).toNat_lt
  have h1 := (b.getD (4 * i + 1) 0).toNat_lt
  have h2 := (b.getD (4 * i + 2) 0).toNat_lt
  have h3 := (b.getD (4 * i + 3) 0).toNat_lt
  omega
/-- the first n words of a block -/
def words (b : List UInt8) (n : Nat) : List Nat := (List.range n).map (word b)
/-- the word behind some -/
def nextW (l : List Nat) : Nat := (l.getD (l.length - 16) 0 + sig0 (l.getD (l.length - 15) 0) + l.getD (l.length - 7) 0 + sig1 (l.getD (l.length - 2) 0)) % 4294967296
def more : Nat → List Nat → List Nat
  | 0, l => l
  | n + 1, l => more n (l ++ [nextW l])
def sched (b : List UInt8) : List Nat := more 48 (words b 16)
theorem more_length (n : Nat) (l : List Nat) : (more n l).length = l.length + n := by
  induction n generalizing l with
  | zero => rfl
  | succ n ih => rw [more, ih]; simp; omega
theorem more_succ (n : Nat) (l : List Nat) : more (n + 1) l = more n l ++ [nextW (more n l)] := by
  induction n generalizing l with
  | zero => rfl
  | succ n ih => rw [more, ih (l ++ [nextW l])]; rfl
theorem sched_length (b : List UInt8) : (sched b).length = 64 := by simp [sched, more_length, words]
theorem nextW_lt (l : List Nat) : nextW l < 4294967296 := Nat.mod_lt _ (by decide)
theorem more_lt (n : Nat) (l : List Nat) (h : ∀ x ∈ l, x < 4294967296) : ∀ x ∈ more n l, x < 4294967296 := by
  induction n generalizing l with
  | zero => exact h
  | succ n ih =>
    refine ih _ fun x hx => ?_
    rcases List.mem_append.1 hx with hx | hx
    · exact h x hx
    · rw [List.mem_singleton.1 hx]; exact nextW_lt l
theorem words_lt (b : List UInt8) (n : Nat) : ∀ x ∈ words b n, x < 4294967296 := by
  intro x hx
  obtain ⟨i, _, rfl⟩ := List.mem_map.1 hx
  exact word_lt b i
theorem sched_lt (b : List UInt8) : ∀ x ∈ sched b, x < 4294967296 := more_lt _ _ (words_lt b 16)
theorem getD_lt {l : List Nat} {N : Nat} (h : ∀ x ∈ l, x < N) (hN : 0 < N) (i : Nat) : l.getD i 0 < N := by
  rw [List.getD_eq_getElem?_getD]
  cases e : l[i]? with
  | none => exact hN
  | some x => exact h x (List.mem_of_getElem? e)

/-! a block taken in -/
def roundsTo (s : St) (ks ws : List Nat) : Nat → St
  | 0 => s
  | i + 1 => (roundsTo s ks ws i).step (ks.getD i 0) (ws.getD i 0)
theorem roundsTo_ok {s : St} (h : s.ok) (ks ws : List Nat) (i : Nat) : (roundsTo s ks ws i).ok := by
  induction i with
  | zero => exact h
  | succ i ih => exact step_ok ih _ _
/-- the state behind a block -/
def St.mix (s : St) (b : List UInt8) : St := s.add (roundsTo s rootsL (sched b) 64)
theorem mix_ok (s : St) (b : List UInt8) : (s.mix b).ok := add_ok _ _
theorem start_ok : start.ok := by unfold St.ok start; decide

/-- the state behind n blocks of some bytes -/
def blocksTo (s : St) (l : List UInt8) : Nat → St
  | 0 => s
  | n + 1 => (blocksTo s l n).mix ((l.drop (64 * n)).take 64)

/-- bytes with their padding -/
def pad (l : List UInt8) : List UInt8 := l ++ 128 :: List.replicate ((119 - l.length % 64) % 64) 0 ++ be (8 * l.length) 8
theorem pad_length (l : List UInt8) : (pad l).length = 64 * ((l.length + 72) / 64) := by
  simp [pad, be_length]
  omega
def St.bytes (s : St) : List UInt8 := s.list.flatMap fun x => be x 4
/-- the digest -/
def shaL (l : List UInt8) : List UInt8 := (blocksTo start (pad l) ((l.length + 72) / 64)).bytes
theorem shaL_length (l : List UInt8) : (shaL l).length = 32 := by
  simp [shaL, St.bytes, St.list, be_length]
theorem abc_is : shaL [97, 98, 99] = [186, 120, 22, 191, 143, 1, 207, 234, 65, 65, 64, 222, 93, 174, 34, 35, 176, 3, 97, 163, 150, 23, 122, 156, 180, 16, 255, 97, 242, 0, 21, 173] := by kernel_rfl
end Go.Proofs.YtioahjdojgcfdaaDoor

namespace Go.Proofs.YtioahjdojgcfdaaDoor

def leftI (n : Int) : Int := if 0 ≤ n ∧ n ≤ 15 then 15 - n else 0
def lefts (L : List Int) : List Int := L.map leftI
def sumI (L : List Int) : Int := L.foldl (· + ·) 0
def halvesI (b : UInt8) : List Int := [(b.toNat : Int) / 16, (b.toNat : Int) % 16]
def digL (l : List UInt8) : List Int := l.flatMap halvesI
def chk (n : Int) : List Int := [n / 256, n / 16 % 16, n % 16]
/-- a digest's digits, and its check's -/
def digs (l : List UInt8) : List Int := digL l ++ chk (sumI (lefts (digL l)))

theorem lefts_length (L : List Int) : (lefts L).length = L.length := by simp [lefts]
theorem leftI_yes (n : Int) (h : 0 ≤ n) (h2 : n ≤ 15) : leftI n = 15 - n := if_pos ⟨h, h2⟩
theorem leftI_no (n : Int) (h : ¬ (0 ≤ n ∧ n ≤ 15)) : leftI n = 0 := if_neg h
theorem leftI_bd (n : Int) : 0 ≤ leftI n ∧ leftI n ≤ 15 := by unfold leftI; split <;> omega
theorem sumI_nil : sumI [] = 0 := rfl
theorem sumI_snoc (L : List Int) (x : Int) : sumI (L ++ [x]) = sumI L + x := by simp [sumI]
theorem sumI_foldl (L : List Int) : ∀ k : Int, L.foldl (· + ·) k = k + sumI L := by
  induction L with
  | nil => intro k; simp [sumI]
  | cons x L ih =>
    intro k
    have e : sumI (x :: L) = 0 + x + sumI L := by unfold sumI; rw [List.foldl_cons, ih (0 + x)]; rfl
    rw [List.foldl_cons, ih (k + x), e]
    omega
theorem sumI_append (L M : List Int) : sumI (L ++ M) = sumI L + sumI M := by
  unfold sumI
  rw [List.foldl_append, sumI_foldl M]
  rfl
theorem sumI_bd (L : List Int) (h : ∀ x ∈ L, 0 ≤ x ∧ x ≤ 15) : 0 ≤ sumI L ∧ sumI L ≤ 15 * L.length := by
  suffices ∀ (k : Int), k + 0 ≤ L.foldl (· + ·) k ∧ L.foldl (· + ·) k ≤ k + 15 * L.length by simpa [sumI] using this 0
  induction L with
  | nil => intro k; simp
  | cons x L ih =>
    intro k
    have hx := h x (by simp)
    have := ih (fun y hy => h y (by simp [hy])) (k + x)
    simp only [List.foldl_cons, List.length_cons]
    omega
theorem digL_length (l : List UInt8) : (digL l).length = 2 * l.length := by
  induction l with
  | nil => rfl
  | cons c l ih =>
    have : digL (c :: l) = halvesI c ++ digL l := rfl
    rw [this, List.length_append, ih]
    simp [halvesI]
    omega
theorem digL_bd (l : List UInt8) : ∀ x ∈ digL l, 0 ≤ x ∧ x ≤ 15 := by
  intro x hx
  obtain ⟨b, _, hb⟩ := List.mem_flatMap.1 hx
  have hc := b.toNat_lt
  simp only [halvesI, List.mem_cons, List.not_mem_nil, or_false] at hb
  rcases hb with rfl | rfl <;> omega
theorem lefts_bd (L : List Int) : ∀ x ∈ lefts L, 0 ≤ x ∧ x ≤ 15 := by
  intro x hx
  obtain ⟨y, _, rfl⟩ := List.mem_map.1 hx
  exact leftI_bd y
theorem digL_snoc (l : List UInt8) (c : UInt8) : digL (l ++ [c]) = digL l ++ halvesI c := by simp [digL]
theorem digL_take (s : ByteArray) (k : Nat) (h : k < s.size) : digL (s.data.toList.take (k + 1)) = digL (s.data.toList.take k) ++ [(s[k].toNat : Int) / 16, (s[k].toNat : Int) % 16] := by
  rw [List.take_succ_eq_append_getElem (by simpa using h), digL_snoc]
  rfl
theorem sum_lefts_bd (l : List UInt8) : 0 ≤ sumI (lefts (digL l)) ∧ sumI (lefts (digL l)) ≤ 30 * l.length := by
  have := sumI_bd (lefts (digL l)) (lefts_bd _)
  rw [lefts_length, digL_length] at this
  omega
theorem digs_length (l : List UInt8) : (digs l).length = 2 * l.length + 3 := by
  unfold digs
  rw [List.length_append, digL_length]
  rfl
theorem digs_bd (l : List UInt8) (h : l.length = 16) : ∀ x ∈ digs l, 0 ≤ x ∧ x ≤ 15 := by
  intro x hx
  rcases List.mem_append.1 hx with hx | hx
  · exact digL_bd l x hx
  · have := sum_lefts_bd l
    simp only [chk, List.mem_cons, List.not_mem_nil, or_false] at hx
    rcases hx with rfl | rfl | rfl <;> omega
end Go.Proofs.YtioahjdojgcfdaaDoor

namespace Go.Proofs.YtioahjdojgcfdaaDoor
open Go.RowKit

set_option maxHeartbeats 400000 in
theorem wnum_any (n : Nat) (hn : n ≤ 18446744073709551615) (k : Int) (w : World) (p : Option Addr) (st : Option WSt) (h : WsAt w p st) (hs : WRoom st 8) :
    Calls Tryd.prog 83 #[.pointer p, .int .u64 n, .int .i64 k] w fun e w' => e = .returned (.pointer p) ∧ WsAt w' p (st.map (·.num n k)) ∧ w.grownBy w' (prow p) := by
  have H := Lib.hid h
  have HR := Lib.hid hs
  clear h hs
  by_cases hk : 1 ≤ k ∧ k ≤ 8
  · obtain ⟨k, rfl⟩ := Int.eq_ofNat_of_zero_le (show 0 ≤ k by omega)
    have hk1 : 1 ≤ k := by omega
    have hk2 : k ≤ 8 := by omega
    have hb : (decide (1 ≤ (k : Int)) && decide ((k : Int) ≤ 8)) = true := by simp; omega
    clear hk
    by_cases hf : n < 256 ^ k
    · have e : (fun st : WSt => st.num n k) = (fun st => st.put (str (be n k))) := by funext st; simp [WSt.num, hf, hk2]; intro; omega
      rw [e]
      clear e
      have hf' := (num_fits_int n k hk1).2 hf
      clear hf
      go_enter Tryd.func83, Tryd.ntmps83
      go_wp2_with fail
      refine (numMayBe_any k _).mono ?_
      rintro e w' ⟨rfl, rfl⟩
      go_wp2_with fail
      refine (number_any n k hn hk2 _).mono ?_
      rintro e w1 ⟨rfl, hg⟩
      have HB := Lib.hid (grownBy_below hg)
      clear hg
      go_wp2_with fail
      refine (put_ws (str (be n k)) _ p st (H.out.grown HB.out) ?_).mono ?_
      · intro x hx
        have := HR.out x hx
        rw [str_size, be_length]
        omega
      rintro e w2 ⟨rfl, h1, h2⟩
      have H1 := Lib.hid h1
      have H2 := Lib.hid h2
      clear h1 h2
      go_wp2
      go_ret
      exact ⟨rfl, H1.out, grownBy_trans (grownBy_any HB.out _) H2.out⟩
    · have e : (fun st : WSt => st.num n k) = (fun st => st.fail 10) := by funext st; simp [WSt.num, hf]
      rw [e]
      clear e
      have hf' : 255 < (n : Int) / 2 ^ (8 * (k - 1)) := by
        have := num_fits_int n k hk1
        omega
      clear hf
      go_enter Tryd.func83, Tryd.ntmps83
      go_wp2_with fail
      refine (numMayBe_any k _).mono ?_
      rintro e w' ⟨rfl, rfl⟩
      go_wp2_with fail
      refine (fail_ws 10 _ p st H.out).mono ?_
      rintro e w' ⟨rfl, h1, h2⟩
      have H1 := Lib.hid h1
      have H2 := Lib.hid h2
      clear h1 h2
      go_wp2
      go_ret
      exact ⟨rfl, H1.out, H2.out⟩
  · have e : (fun st : WSt => st.num n k) = (fun st => st.fail 10) := by
      funext st
      unfold WSt.num
      rw [if_neg (by intro h; exact hk ⟨h.1, h.2.1⟩)]
    rw [e]
    clear e
    have hb : (decide (1 ≤ (k : Int)) && decide ((k : Int) ≤ 8)) = false := by
      rw [Bool.and_eq_false_iff, decide_eq_false_iff_not, decide_eq_false_iff_not]
      omega
    clear hk
    go_enter Tryd.func83, Tryd.ntmps83
    go_wp2_with fail
    refine (numMayBe_any k _).mono ?_
    rintro e w' ⟨rfl, rfl⟩
    go_wp2_with fail
    refine (fail_ws 10 _ p st H.out).mono ?_
    rintro e w' ⟨rfl, h1, h2⟩
    have H1 := Lib.hid h1
    have H2 := Lib.hid h2
    clear h1 h2
    go_wp2
    go_ret
    exact ⟨rfl, H1.out, H2.out⟩
end Go.Proofs.YtioahjdojgcfdaaDoor

namespace Go.Proofs.YtioahjdojgcfdaaDoor
open Go.RowKit

set_option maxHeartbeats 400000 in
theorem wfixed_any (s : ByteArray) (k : Int) (w : World) (p : Option Addr) (st : Option WSt) (h : WsAt w p st) (hs : WRoom st s.size) :
    Calls Tryd.prog 60 #[.pointer p, .string s, .int .i64 k] w fun e w' => e = .returned (.pointer p) ∧ WsAt w' p (st.map (·.fixed s k)) ∧ w.grownBy w' (prow p) := by
  have H := Lib.hid h
  clear h
  by_cases hk : (s.size : Int) = k
  · have e : (fun st : WSt => st.fixed s k) = (fun st => st.put s) := by funext st; simp [WSt.fixed, hk]
    rw [e]
    clear e
    subst hk
    go_enter Tryd.func60, Tryd.ntmps60
    go_wp2_with fail
    refine (put_ws s _ p st H.out hs).mono ?_
    rintro e w' ⟨rfl, h1, h2⟩
    have H1 := Lib.hid h1
    have H2 := Lib.hid h2
    clear h1 h2
    go_wp2
    go_ret
    exact ⟨rfl, H1.out, H2.out⟩
  · have e : (fun st : WSt => st.fixed s k) = (fun st => st.fail 10) := by funext st; simp [WSt.fixed, hk]
    rw [e]
    clear e
    go_enter Tryd.func60, Tryd.ntmps60
    go_wp2_with fail
    refine (fail_ws 10 _ p st H.out).mono ?_
    rintro e w' ⟨rfl, h1, h2⟩
    have H1 := Lib.hid h1
    have H2 := Lib.hid h2
    clear h1 h2
    go_wp2
    go_ret
    exact ⟨rfl, H1.out, H2.out⟩

end Go.Proofs.YtioahjdojgcfdaaDoor

namespace Go.Proofs.YtioahjdojgcfdaaDoor
open Go.RowKit

set_option maxHeartbeats 400000 in
theorem end_any (w : World) (p : Option Addr) (st : Option RSt) (h : RsAt w p st) :
    Calls Tryd.prog 67 #[.pointer p] w fun e w' => e = .returned (.int .i64 ((st.map fun s => s.done).getD 1)) ∧ w = w' := by
  cases st with
  | none =>
    obtain rfl := h
    go_enter Tryd.func67, Tryd.ntmps67
    go_wp2
    go_ret
    exact ⟨rfl, rfl⟩
  | some st =>
    obtain ⟨b, rfl, hb⟩ := h
    have c0 := cell_of hb 0
    have c1 := cell_of hb 1
    simp at c0 c1
    clear hb
    go_enter Tryd.func67, Tryd.ntmps67
    go_wp2
    · go_ret
      have h1 : st.err = 0 := by assumption
      have h2 : (!st.rest.toList.isEmpty) = true := by assumption
      refine ⟨?_, rfl⟩
      rw [emp] at h2
      simp at h2
      simp [RSt.done, h1, h2]
    · go_ret
      have h1 : st.err = 0 := by assumption
      have h2 : (!st.rest.toList.isEmpty) = false := by assumption
      refine ⟨?_, rfl⟩
      rw [emp] at h2
      simp at h2
      simp [RSt.done, h1, h2]
    · go_ret
      have h1 : ¬ st.err = 0 := by assumption
      refine ⟨?_, rfl⟩
      simp [RSt.done, h1]

/-- what a call leaves of a Reader -/
def RsLeft (st : Option RSt) (f : RSt → RSt) (w : World) (p : Option Addr) (w' : World) : Prop := RsAt w' p (st.map f) ∧ w.grownBy w' (prow p)

end Go.Proofs.YtioahjdojgcfdaaDoor
