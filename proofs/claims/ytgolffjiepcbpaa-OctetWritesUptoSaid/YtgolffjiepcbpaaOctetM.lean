/- What a Writer and a Reader hold in memory. No walk. -/
import Derived.Test.YtgolffjiepcbpaaRows
import Derived.Test.YtgolffjiepcbpaaOctetSpec
namespace Go.Proofs.Ytgolffjiepcbpaa
open Go.RowKit

theorem grownBy_trans {a b c : World} {row : Option Nat} (h : a.grownBy b row) (k : b.grownBy c row) : a.grownBy c row :=
  ⟨k.os.trans h.os, k.tape.trans h.tape, k.output.trans h.output, Nat.le_trans h.size k.size, fun i hi hne => (k.block i (Nat.lt_of_lt_of_le hi h.size) hne).trans (h.block i hi hne)⟩
theorem grownBy_any {a b : World} (h : a.grownBy b none) (row : Option Nat) : a.grownBy b row := ⟨h.os, h.tape, h.output, h.size, fun i hi _ => h.block i hi (by simp)⟩
theorem grownBy_below {a b : World} (h : Below a.heap.size a b) : a.grownBy b none := ⟨h.os, h.tape, h.output, h.size, fun i hi _ => h.block i hi⟩
theorem below_grownBy {a b : World} (h : a.grownBy b none) : Below a.heap.size a b := ⟨h.os, h.tape, h.output, h.size, fun i hi => h.block i hi (by simp)⟩
theorem grownBy_drew {a b : World} {row : Option Nat} (h : a.grownBy b row) : a.grownBy b.drew row := ⟨h.os, h.tape, h.output, h.size, h.block⟩
theorem grownBy_setCell {a b : World} {r : Nat} (h : a.grownBy b (some r)) (o : Nat) (u : Value) : a.grownBy (b.setCell ⟨r, o, none⟩ u) (some r) :=
  ⟨h.os, h.tape, h.output, by simpa [World.setCell] using h.size, fun i hi hne => (Below.heap_setCell _ _ _ _ (by intro e; exact hne (by simpa using e))).trans (h.block i hi hne)⟩
theorem grownBy_alloc' {a b : World} {row : Option Nat} (h : a.grownBy b row) (o : Obj) : a.grownBy (b.alloc o) row :=
  ⟨h.os, h.tape, h.output, by simp; have := h.size; omega, fun i hi hne => (Below.heap_alloc _ _ _ (Nat.lt_of_lt_of_le hi h.size)).trans (h.block i hi hne)⟩

/-- the pieces of a Writer, the last one first -/
def Chain (w : World) : Value → List ByteArray → Prop
  | v, [] => v = .pointer none
  | v, t :: ts => ∃ g v', v = .pointer (some ⟨g, 0, none⟩) ∧ w.heap[g]? = some (.cells #[v', .string t] 51 (0, 0)) ∧ Chain w v' ts

theorem Chain.ptr {w : World} {v : Value} {ts : List ByteArray} (h : Chain w v ts) : ∃ p, v = .pointer p := by
  cases ts with
  | nil => exact ⟨_, h⟩
  | cons t ts => obtain ⟨g, v', rfl, _⟩ := h; exact ⟨_, rfl⟩

theorem Chain.kept {w w' : World} {row : Option Nat} (hg : w.grownBy w' row) (hr : ∀ r, row = some r → ∀ v t, w.heap[r]? ≠ some (.cells #[v, .string t] 51 (0, 0))) :
    ∀ (ts : List ByteArray) (v : Value), Chain w v ts → Chain w' v ts
  | [], _, h => h
  | t :: ts, v, h => by
    obtain ⟨g, v', rfl, hb, hc⟩ := h
    refine ⟨g, v', rfl, ?_, Chain.kept hg hr ts v' hc⟩
    rw [hg.block g (Array.getElem?_eq_some_iff.1 hb).1 (fun e => hr g e.symm v' t hb)]
    exact hb

/-- a Writer's state: its pieces, the last one first; its error -/
structure WSt where
  ts : List ByteArray
  err : Int

def total (ts : List ByteArray) : Nat := (ts.map ByteArray.size).sum
def WSt.put (s : WSt) (t : ByteArray) : WSt := if s.err = 0 then ⟨t :: s.ts, 0⟩ else s
def WSt.fail (s : WSt) (e : Int) : WSt := if s.err = 0 then ⟨s.ts, e⟩ else s

/-- block b is a Writer in this state -/
def WrAt (w : World) (b : Nat) (s : WSt) : Prop :=
  ∃ last, w.heap[b]? = some (.cells #[last, .int .i64 (total s.ts : Nat), .int .i64 s.err] 27 (0, 0)) ∧ Chain w last s.ts

theorem WrAt.kept {w w' : World} {row : Option Nat} {b : Nat} {s : WSt} (h : WrAt w b s) (hg : w.grownBy w' row)
    (hb : row ≠ some b) (hr : ∀ r, row = some r → ∀ v t, w.heap[r]? ≠ some (.cells #[v, .string t] 51 (0, 0))) : WrAt w' b s := by
  obtain ⟨last, hl, hc⟩ := h
  refine ⟨last, ?_, hc.kept hg hr⟩
  rw [hg.block b (Array.getElem?_eq_some_iff.1 hl).1 (fun e => hb e.symm)]
  exact hl
theorem WrAt.grown {w w' : World} {b : Nat} {s : WSt} (h : WrAt w b s) (hg : w.grownBy w' none) : WrAt w' b s := h.kept hg (by simp) (by intro r e; cases e)
theorem WrAt.lt {w : World} {b : Nat} {s : WSt} (h : WrAt w b s) : b < w.heap.size := let ⟨_, hl, _⟩ := h; (Array.getElem?_eq_some_iff.1 hl).1

/-- block b is a Reader with this rest and this error -/
def RdAt (w : World) (b : Nat) (rest : ByteArray) (err : Int) : Prop := w.heap[b]? = some (.cells #[.string rest, .int .i64 err] 53 (0, 0))
theorem RdAt.lt {w : World} {b : Nat} {s : ByteArray} {e : Int} (h : RdAt w b s e) : b < w.heap.size := (Array.getElem?_eq_some_iff.1 h).1
theorem RdAt.kept {w w' : World} {row : Option Nat} {b : Nat} {s : ByteArray} {e : Int} (h : RdAt w b s e) (hg : w.grownBy w' row) (hb : row ≠ some b) : RdAt w' b s e := by
  unfold RdAt
  rw [hg.block b h.lt (fun e => hb e.symm)]
  exact h

theorem cell_of {w : World} {b : Nat} {cs : Array Value} {t : TypeId} {fr : Nat × Nat} (h : w.heap[b]? = some (.cells cs t fr)) (j : Nat) : w.cell? ⟨b, j, none⟩ = cs[j]? := by
  simp [World.cell?, h]
theorem free_of {w : World} {b : Nat} {cs : Array Value} {t : TypeId} (h : w.heap[b]? = some (.cells cs t (0, 0))) (j : Nat) : w.frozen? ⟨b, j, none⟩ = false := by
  simp [World.frozen?, h]
theorem heap_setCell {w : World} {b : Nat} {cs : Array Value} {t : TypeId} {fr : Nat × Nat} (h : w.heap[b]? = some (.cells cs t fr)) (j : Nat) (u : Value) :
    (w.setCell ⟨b, j, none⟩ u).heap[b]? = some (.cells (cs.setIfInBounds j u) t fr) := by
  simp [World.setCell, Array.getElem?_modify, h]

theorem heap_alloc_at (w : World) (o : Obj) (k : Nat) (h : w.heap.size = k) : (w.alloc o).heap[k]? = some o := by
  show (w.heap.push o)[k]? = _
  simp [← h]

theorem total_cons (t : ByteArray) (ts : List ByteArray) : total (t :: ts) = t.size + total ts := by simp [total]

theorem WrAt.pushed {w : World} {b : Nat} {p : Option Addr} {s : ByteArray} {ts : List ByteArray} (hlt : b < w.heap.size)
    (hl : w.heap[b]? = some (.cells #[.pointer p, .int .i64 (total ts : Nat), .int .i64 0] 27 (0, 0))) (hc : Chain w (.pointer p) ts) :
    WrAt (((w.setCell ⟨b, 0, none⟩ (.pointer (some ⟨w.heap.size, 0, none⟩))).setCell ⟨b, 1, none⟩ (.int .i64 (↑(total ts) + ↑s.size))).alloc (.cells #[.pointer p, .string s] 51)) b ⟨s :: ts, 0⟩ ∧
    w.grownBy (((w.setCell ⟨b, 0, none⟩ (.pointer (some ⟨w.heap.size, 0, none⟩))).setCell ⟨b, 1, none⟩ (.int .i64 (↑(total ts) + ↑s.size))).alloc (.cells #[.pointer p, .string s] 51)) (some b) := by
  have hg : w.grownBy (((w.setCell ⟨b, 0, none⟩ (.pointer (some ⟨w.heap.size, 0, none⟩))).setCell ⟨b, 1, none⟩ (.int .i64 (↑(total ts) + ↑s.size))).alloc (.cells #[.pointer p, .string s] 51)) (some b) :=
    grownBy_alloc' (grownBy_setCell (grownBy_setCell (World.grownBy.refl _ _) _ _) _ _) _
  refine ⟨⟨.pointer (some ⟨w.heap.size, 0, none⟩), ?_, w.heap.size, .pointer p, rfl, ?_, ?_⟩, hg⟩
  · rw [Below.heap_alloc _ _ _ (by simpa [World.setCell] using hlt), heap_setCell (heap_setCell hl 0 _) 1 _, total_cons]
    simp
    omega
  · exact heap_alloc_at _ _ _ (by simp [World.setCell])
  · refine hc.kept hg ?_
    intro r e v t hr
    cases e
    rw [hl] at hr
    simp at hr

/-- a Writer's pointer: nil, or a block's head -/
def WsAt (w : World) (p : Option Addr) : Option WSt → Prop
  | none => p = none
  | some st => ∃ b, p = some ⟨b, 0, none⟩ ∧ WrAt w b st
/-- the block behind a pointer -/
def prow (p : Option Addr) : Option Nat := p.map Addr.block
/-- room for n bytes more -/
def WRoom (st : Option WSt) (n : Nat) : Prop := ∀ x, st = some x → n + total x.ts ≤ 9223372036854775807
theorem WsAt.grown {w w' : World} {p : Option Addr} {st : Option WSt} (h : WsAt w p st) (hg : w.grownBy w' none) : WsAt w' p st := by
  cases st with
  | none => exact h
  | some st => obtain ⟨b, hp, hw⟩ := h; exact ⟨b, hp, hw.grown hg⟩

/-- a number, written: or why not -/
def WSt.num (s : WSt) (n : Nat) (k : Int) : WSt := if 1 ≤ k ∧ k ≤ 8 ∧ n < 256 ^ k.toNat then s.put (str (be n k.toNat)) else s.fail 10
def WSt.text (s : WSt) (t : ByteArray) : WSt := if t.size ≤ 4096 then (s.put (str (be t.size 2))).put t else s.fail 2
def WSt.fixed (s : WSt) (t : ByteArray) (k : Int) : WSt := if (t.size : Int) = k then s.put t else s.fail 10

theorem total_put (s : WSt) (t : ByteArray) : total (s.put t).ts ≤ t.size + total s.ts := by
  unfold WSt.put
  split
  · rw [total_cons]; omega
  · omega
theorem total_fail (s : WSt) (e : Int) : total (s.fail e).ts = total s.ts := by
  unfold WSt.fail
  split <;> rfl

theorem num_fits (n k : Nat) (h1 : 1 ≤ k) : n / 2 ^ (8 * (k - 1)) ≤ 255 ↔ n < 256 ^ k := by
  have p : 2 ^ (8 * (k - 1)) = 256 ^ (k - 1) := by rw [Nat.pow_mul]
  rw [p]
  obtain ⟨j, rfl⟩ : ∃ j, k = j + 1 := ⟨k - 1, by omega⟩
  rw [Nat.add_sub_cancel, ← Nat.lt_succ_iff, Nat.div_lt_iff_lt_mul (Nat.pos_of_ne_zero (by simp)), Nat.pow_succ, Nat.mul_comm]
theorem num_fits_int (n k : Nat) (h1 : 1 ≤ k) : (n : Int) / 2 ^ (8 * (k - 1)) ≤ 255 ↔ n < 256 ^ k := by
  rw [← num_fits n k h1]
  have : ((n / 2 ^ (8 * (k - 1)) : Nat) : Int) = (n : Int) / 2 ^ (8 * (k - 1)) := by simp
  rw [← this]
  omega
end Go.Proofs.Ytgolffjiepcbpaa
