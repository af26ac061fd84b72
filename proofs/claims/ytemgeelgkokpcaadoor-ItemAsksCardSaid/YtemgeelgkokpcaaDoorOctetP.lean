/- What a Writer and a Reader hold in memory. No walk. · The walks of octet.number, numMayBe, and of a Writer's calls. · The walks of a Writer's put and fail, Num, Text, Fixed. -/
import Derived.Test.YtemgeelgkokpcaaDoorRows
import Derived.Test.YtemgeelgkokpcaaDoorOctetSpec
import Derived.Test.YtemgeelgkokpcaaDoorMem
import Derived.WalkSpells
import Derived.WalkLawsBesides
import Derived.Lib.Hide
import Derived.Laws.IdiomStrings
namespace Go.Proofs.YtemgeelgkokpcaaDoor
open Go.RowKit


/-- the pieces of a Writer, the last one first -/
def Chain (w : World) : Value → List ByteArray → Prop
  | v, [] => v = .pointer none
  | v, t :: ts => ∃ g v', v = .pointer (some ⟨g, 0, none⟩) ∧ w.heap[g]? = some (.cells #[v', .string t] 106 (0, 0)) ∧ Chain w v' ts

theorem Chain.ptr {w : World} {v : Value} {ts : List ByteArray} (h : Chain w v ts) : ∃ p, v = .pointer p := by
  cases ts with
  | nil => exact ⟨_, h⟩
  | cons t ts => obtain ⟨g, v', rfl, _⟩ := h; exact ⟨_, rfl⟩

theorem Chain.kept {w w' : World} {row : Option Nat} (hg : w.grownBy w' row) (hr : ∀ r, row = some r → ∀ v t, w.heap[r]? ≠ some (.cells #[v, .string t] 106 (0, 0))) :
    ∀ (ts : List ByteArray) (v : Value), Chain w v ts → Chain w' v ts
  | [], _, h => h
  | t :: ts, v, h => by
    obtain ⟨g, v', rfl, hb, hc⟩ := h
    refine ⟨g, v', rfl, ?_, Chain.kept hg hr ts v' hc⟩
    rw [hg.block g (Array.getElem?_eq_some_iff.1 hb).1 (fun e => hr g e.symm v' t hb)]
    exact hb

/-- a Writer's state: its pieces, the last one first; its error -/
structure WSt where
  ts : List ByteArray
  err : Int

def total (ts : List ByteArray) : Nat := (ts.map ByteArray.size).sum
def WSt.put (s : WSt) (t : ByteArray) : WSt := if s.err = 0 then ⟨t :: s.ts, 0⟩ else s
def WSt.fail (s : WSt) (e : Int) : WSt := if s.err = 0 then ⟨s.ts, e⟩ else s

/-- block b is a Writer in this state -/
def WrAt (w : World) (b : Nat) (s : WSt) : Prop :=
  ∃ last, w.heap[b]? = some (.cells #[last, .int .i64 (total s.ts : Nat), .int .i64 s.err] 67 (0, 0)) ∧ Chain w last s.ts

theorem WrAt.kept {w w' : World} {row : Option Nat} {b : Nat} {s : WSt} (h : WrAt w b s) (hg : w.grownBy w' row)
    (hb : row ≠ some b) (hr : ∀ r, row = some r → ∀ v t, w.heap[r]? ≠ some (.cells #[v, .string t] 106 (0, 0))) : WrAt w' b s := by
  obtain ⟨last, hl, hc⟩ := h
  refine ⟨last, ?_, hc.kept hg hr⟩
  rw [hg.block b (Array.getElem?_eq_some_iff.1 hl).1 (fun e => hb e.symm)]
  exact hl
theorem WrAt.grown {w w' : World} {b : Nat} {s : WSt} (h : WrAt w b s) (hg : w.grownBy w' none) : WrAt w' b s := h.kept hg (by simp) (by intro r e; cases e)
theorem WrAt.lt {w : World} {b : Nat} {s : WSt} (h : WrAt w b s) : b < w.heap.size := let ⟨_, hl, _⟩ := h; (Array.getElem?_eq_some_iff.1 hl).1

theorem total_cons (t : ByteArray) (ts : List ByteArray) : total (t :: ts) = t.size + total ts := by simp [total]

theorem WrAt.pushed {w : World} {b : Nat} {p : Option Addr} {s : ByteArray} {ts : List ByteArray} (hlt : b < w.heap.size)
    (hl : w.heap[b]? = some (.cells #[.pointer p, .int .i64 (total ts : Nat), .int .i64 0] 67 (0, 0))) (hc : Chain w (.pointer p) ts) :
    WrAt (((w.setCell ⟨b, 0, none⟩ (.pointer (some ⟨w.heap.size, 0, none⟩))).setCell ⟨b, 1, none⟩ (.int .i64 (↑(total ts) + ↑s.size))).alloc (.cells #[.pointer p, .string s] 106)) b ⟨s :: ts, 0⟩ ∧
    w.grownBy (((w.setCell ⟨b, 0, none⟩ (.pointer (some ⟨w.heap.size, 0, none⟩))).setCell ⟨b, 1, none⟩ (.int .i64 (↑(total ts) + ↑s.size))).alloc (.cells #[.pointer p, .string s] 106)) (some b) := by
  have hg : w.grownBy (((w.setCell ⟨b, 0, none⟩ (.pointer (some ⟨w.heap.size, 0, none⟩))).setCell ⟨b, 1, none⟩ (.int .i64 (↑(total ts) + ↑s.size))).alloc (.cells #[.pointer p, .string s] 106)) (some b) :=
    grownBy_alloc' (grownBy_setCell (grownBy_setCell (World.grownBy.refl _ _) _ _) _ _) _
  refine ⟨⟨.pointer (some ⟨w.heap.size, 0, none⟩), ?_, w.heap.size, .pointer p, rfl, ?_, ?_⟩, hg⟩
  · rw [Below.heap_alloc _ _ _ (by simpa [World.setCell] using hlt), heap_setCell (heap_setCell hl 0 _) 1 _, total_cons]
    simp
    omega
  · exact heap_alloc_at _ _ _ (by simp [World.setCell])
  · refine hc.kept hg ?_
    intro r e v t hr
    cases e
    rw [hl] at hr
    simp at hr

/-- a Writer's pointer: nil, or a block's head -/
def WsAt (w : World) (p : Option Addr) : Option WSt → Prop
  | none => p = none
  | some st => ∃ b, p = some ⟨b, 0, none⟩ ∧ WrAt w b st
/-- the block behind a pointer -/
def prow (p : Option Addr) : Option Nat := p.map Addr.block
/-- room for n bytes more -/
def WRoom (st : Option WSt) (n : Nat) : Prop := ∀ x, st = some x → n + total x.ts ≤ 9223372036854775807
theorem WsAt.grown {w w' : World} {p : Option Addr} {st : Option WSt} (h : WsAt w p st) (hg : w.grownBy w' none) : WsAt w' p st := by
  cases st with
  | none => exact h
  | some st => obtain ⟨b, hp, hw⟩ := h; exact ⟨b, hp, hw.grown hg⟩

/-- a number, written: or why not -/
def WSt.num (s : WSt) (n : Nat) (k : Int) : WSt := if 1 ≤ k ∧ k ≤ 8 ∧ n < 256 ^ k.toNat then s.put (str (be n k.toNat)) else s.fail 10
def WSt.text (s : WSt) (t : ByteArray) : WSt := if t.size ≤ 4096 then (s.put (str (be t.size 2))).put t else s.fail 2
def WSt.fixed (s : WSt) (t : ByteArray) (k : Int) : WSt := if (t.size : Int) = k then s.put t else s.fail 10

theorem total_put (s : WSt) (t : ByteArray) : total (s.put t).ts ≤ t.size + total s.ts := by
  unfold WSt.put
  split
  · rw [total_cons]; omega
  · omega
theorem total_fail (s : WSt) (e : Int) : total (s.fail e).ts = total s.ts := by
  unfold WSt.fail
  split <;> rfl

theorem num_fits (n k : Nat) (h1 : 1 ≤ k) : n / 2 ^ (8 * (k - 1)) ≤ 255 ↔ n < 256 ^ k := by
  have p : 2 ^ (8 * (k - 1)) = 256 ^ (k - 1) := by rw [Nat.pow_mul]
  rw [p]
  obtain ⟨j, rfl⟩ : ∃ j, k = j + 1 := ⟨k - 1, by omega⟩
  rw [Nat.add_sub_cancel, ← Nat.lt_succ_iff, Nat.div_lt_iff_lt_mul (Nat.pos_of_ne_zero (by simp)), Nat.pow_succ, Nat.mul_comm]
theorem num_fits_int (n k : Nat) (h1 : 1 ≤ k) : (n : Int) / 2 ^ (8 * (k - 1)) ≤ 255 ↔ n < 256 ^ k := by
  rw [← num_fits n k h1]
  have : ((n / 2 ^ (8 * (k - 1)) : Nat) : Int) = (n : Int) / 2 ^ (8 * (k - 1)) := by simp
  rw [← this]
  omega
theorem WsAt.fresh (w : World) : WsAt (w.alloc (.cells #[.pointer none, .int .i64 0, .int .i64 0] 67)) (some ⟨w.heap.size, 0, none⟩) (some ⟨[], 0⟩) :=
  ⟨_, rfl, .pointer none, heap_alloc_at _ _ _ rfl, rfl⟩
theorem WRoom.of (st : WSt) (n : Nat) (h : n + total st.ts ≤ 9223372036854775807) : WRoom (some st) n := by
  rintro x ⟨⟩
  exact h
end Go.Proofs.YtemgeelgkokpcaaDoor

namespace Go.Proofs.YtemgeelgkokpcaaDoor
open Go.RowKit

set_option maxHeartbeats 400000 in
theorem numMayBe_any (k : Int) (w : World) :
    Calls Tryd.prog 53 #[.int .i64 k] w fun e w' => e = .returned (.bool (decide (1 ≤ k) && decide (k ≤ 8))) ∧ w = w' := by
  by_cases h1 : 1 ≤ k
  · go_enter Tryd.func53, Tryd.ntmps53
    go_wp2
    go_ret
    exact ⟨by simp [h1], rfl⟩
  · go_enter Tryd.func53, Tryd.ntmps53
    go_wp2
    go_ret
    have h0 : decide (1 ≤ k) = false := decide_eq_false (by omega)
    exact ⟨by rw [h0]; rfl, rfl⟩

theorem infoByte : (Tryd.prog.info? 5).map (fun i => (i.zero, i.size, i.bytes)) = some (some (.int .u8 0), 1, 1) := by kernel_rfl

/-- 'string(b)', b a row of the call's own that holds bytes -/
theorem own_string {wr : World} {B g k cap : Nat} {l : List UInt8} (h : wr.ownsRow B 5 1 (.slice (some ⟨g, 0, none⟩) k cap) k (l.map fun c => .int .u8 c.toNat)) :
    (convert 50 9 (.slice (some ⟨g, 0, none⟩) k cap)).run Tryd.prog wr = .ok (.string (str l)) wr := by
  have hl : l.length = k := by simpa using h.1
  subst hl
  refine run_convert_bytes_back wr 50 9 5 _ cap l Tryd.underlying50 Tryd.underlying5 Tryd.underlying9 fun j hj => ?_
  rw [show Addr.add ⟨g, 0, none⟩ j = (⟨g, j, none⟩ : Addr) from by simp [Addr.add]; omega, h.cellAt j (by simpa using hj)]
  simp [List.getElem?_eq_getElem hj]

set_option maxHeartbeats 400000 in
theorem number_any (n : Nat) (k : Nat) (hn : n ≤ 18446744073709551615) (hk : k ≤ 8) (w : World) :
    Calls Tryd.prog 56 #[.int .u64 n, .int .i64 k] w fun e w' => e = .returned (.string (str (be n k))) ∧ Below w.heap.size w w' := by
  obtain ⟨i0, hi, hz0, hz1, hz2⟩ := info_parts infoByte
  go_enter Tryd.func56, Tryd.ntmps56
  go_wp2_with (at_make; refine wpList_make_full _ rfl _ _ 50 rfl w.heap.size 5 i0 (.int .u8 0) 1 Tryd.underlying50 hi hz0 hz1 _ _ _ _ k rfl rfl rfl rfl ?c1 ?c2 ?c3 ?_)
  case c1 => rw [hz2]; omega
  case c2 => unfold maxLen; omega
  case c3 => omega
  intro w1 hown hg
  rw [rowAt_zero n] at hown
  go_wp2_with fail
  go_loopw [6, 10] (fun _ i wr => ∃ j : Nat, j ≤ k ∧ i = .int .i64 j ∧ wr.ownsRow w.heap.size 5 1 (.slice (some ⟨w.heap.size, 0, none⟩) k k) k (rowAt n k j) ∧ Below w.heap.size w wr)
    (fun _ i _ => k - (intOf i).toNat)
  case atStart => exact ⟨0, Nat.zero_le _, rfl, hown, (Below.refl _ _).grown hg (Nat.le_refl _) (by intro k h; cases h)⟩
  case round =>
    clear hown hg
    obtain ⟨j, hj, rfl, hown, hb⟩ := hrel
    have hf := fun x => hown.frozenAt x
    by_cases hlt : j < k
    · have hc : wr.cell? ⟨w.heap.size, k - 1 - j, none⟩ = some (.int .u8 0) := by
        rw [hown.cellAt _ (by omega), rowAt_cell n k j hlt]
      go_wp2
      go_roundw
      case rel =>
        refine ⟨j + 1, by omega, by go_num, ?_, hb.setCell (Nat.le_refl _) _⟩
        rw [rowAt_succ n k j hlt]
        exact (hown.stored _ _).1
      case measure => simp [intOf]; omega
    · have : j = k := by omega
      subst this
      rw [rowAt_end] at hown
      have hs := own_string hown
      go_wp2
      go_ret
      exact ⟨rfl, hb⟩
end Go.Proofs.YtemgeelgkokpcaaDoor

namespace Go.Proofs.YtemgeelgkokpcaaDoor
open Go.RowKit

set_option maxHeartbeats 400000 in
theorem put_nil (s : ByteArray) (w : World) :
    Calls Tryd.prog 55 #[.pointer none, .string s] w fun e w' => e = .returned (.pointer none) ∧ w = w' := by
  go_enter Tryd.func55, Tryd.ntmps55
  go_wp2
  go_ret
  exact ⟨rfl, rfl⟩
set_option maxHeartbeats 400000 in
theorem fail_nil (x : Int) (w : World) :
    Calls Tryd.prog 54 #[.pointer none, .int .i64 x] w fun e w' => e = .returned (.pointer none) ∧ w = w' := by
  go_enter Tryd.func54, Tryd.ntmps54
  go_wp2
  go_ret
  exact ⟨rfl, rfl⟩

set_option maxHeartbeats 400000 in
theorem put_err (s : ByteArray) (w : World) (b : Nat) (st : WSt) (h : WrAt w b st) (he : st.err ≠ 0) :
    Calls Tryd.prog 55 #[.pointer (some ⟨b, 0, none⟩), .string s] w fun e w' => e = .returned (.pointer (some ⟨b, 0, none⟩)) ∧ w = w' := by
  obtain ⟨last, hl, hc⟩ := h
  have c2 := cell_of hl 2
  have hb : (st.err == 0) = false := by simpa using he
  clear hl hc
  simp at c2
  go_enter Tryd.func55, Tryd.ntmps55
  go_wp2
  go_ret
  exact ⟨rfl, rfl⟩
set_option maxHeartbeats 400000 in
theorem fail_err (x : Int) (w : World) (b : Nat) (st : WSt) (h : WrAt w b st) (he : st.err ≠ 0) :
    Calls Tryd.prog 54 #[.pointer (some ⟨b, 0, none⟩), .int .i64 x] w fun e w' => e = .returned (.pointer (some ⟨b, 0, none⟩)) ∧ w = w' := by
  obtain ⟨last, hl, hc⟩ := h
  have c2 := cell_of hl 2
  have hb : (st.err == 0) = false := by simpa using he
  clear hl hc
  simp at c2
  go_enter Tryd.func54, Tryd.ntmps54
  go_wp2
  go_ret
  exact ⟨rfl, rfl⟩

set_option maxHeartbeats 400000 in
theorem put_ok (s : ByteArray) (w : World) (b : Nat) (ts : List ByteArray) (h : WrAt w b ⟨ts, 0⟩) (hs : s.size + total ts ≤ 9223372036854775807) :
    Calls Tryd.prog 55 #[.pointer (some ⟨b, 0, none⟩), .string s] w fun e w' => e = .returned (.pointer (some ⟨b, 0, none⟩)) ∧ WrAt w' b ⟨s :: ts, 0⟩ ∧ w.grownBy w' (some b) := by
  have hlt := h.lt
  obtain ⟨last, hl, hc⟩ := h
  obtain ⟨p, rfl⟩ := hc.ptr
  have c0 := cell_of hl 0
  have c1 := cell_of hl 1
  have c2 := cell_of hl 2
  have f0 := free_of hl 0
  have f1 := free_of hl 1
  have f2 := free_of hl 2
  simp at c0 c1 c2
  have HL := Lib.hid hl
  have HC := Lib.hid hc
  clear hl hc
  go_enter Tryd.func55, Tryd.ntmps55
  go_wp2
  go_ret
  exact ⟨rfl, WrAt.pushed hlt HL.out HC.out⟩

set_option maxHeartbeats 400000 in
theorem fail_ok (x : Int) (w : World) (b : Nat) (ts : List ByteArray) (h : WrAt w b ⟨ts, 0⟩) :
    Calls Tryd.prog 54 #[.pointer (some ⟨b, 0, none⟩), .int .i64 x] w fun e w' => e = .returned (.pointer (some ⟨b, 0, none⟩)) ∧ WrAt w' b ⟨ts, x⟩ ∧ w.grownBy w' (some b) := by
  have hlt := h.lt
  obtain ⟨last, hl, hc⟩ := h
  have c2 := cell_of hl 2
  have f2 := free_of hl 2
  simp at c2
  have HL := Lib.hid hl
  have HC := Lib.hid hc
  clear hl hc
  go_enter Tryd.func54, Tryd.ntmps54
  go_wp2
  go_ret
  have hg : w.grownBy (w.setCell ⟨b, 2, none⟩ (.int .i64 x)) (some b) := grownBy_setCell (World.grownBy.refl _ _) _ _
  refine ⟨rfl, ⟨last, ?_, HC.out.kept hg ?_⟩, hg⟩
  · rw [heap_setCell HL.out 2 _]
    simp
  · intro r e v t hr
    cases e
    rw [HL.out] at hr
    simp at hr

/-- put, at every state -/
theorem put_any (s : ByteArray) (w : World) (b : Nat) (st : WSt) (h : WrAt w b st) (hs : s.size + total st.ts ≤ 9223372036854775807) :
    Calls Tryd.prog 55 #[.pointer (some ⟨b, 0, none⟩), .string s] w fun e w' => e = .returned (.pointer (some ⟨b, 0, none⟩)) ∧ WrAt w' b (st.put s) ∧ w.grownBy w' (some b) := by
  obtain ⟨ts, err⟩ := st
  by_cases he : err = 0
  · subst he
    exact put_ok s w b ts h hs
  · refine (put_err s w b ⟨ts, err⟩ h he).mono ?_
    rintro e w' ⟨rfl, rfl⟩
    exact ⟨rfl, by simpa [WSt.put, he] using h, World.grownBy.refl _ _⟩
theorem fail_any (x : Int) (w : World) (b : Nat) (st : WSt) (h : WrAt w b st) :
    Calls Tryd.prog 54 #[.pointer (some ⟨b, 0, none⟩), .int .i64 x] w fun e w' => e = .returned (.pointer (some ⟨b, 0, none⟩)) ∧ WrAt w' b (st.fail x) ∧ w.grownBy w' (some b) := by
  obtain ⟨ts, err⟩ := st
  by_cases he : err = 0
  · subst he
    exact fail_ok x w b ts h
  · refine (fail_err x w b ⟨ts, err⟩ h he).mono ?_
    rintro e w' ⟨rfl, rfl⟩
    exact ⟨rfl, by simpa [WSt.fail, he] using h, World.grownBy.refl _ _⟩

theorem put_ws (s : ByteArray) (w : World) (p : Option Addr) (st : Option WSt) (h : WsAt w p st) (hs : WRoom st s.size) :
    Calls Tryd.prog 55 #[.pointer p, .string s] w fun e w' => e = .returned (.pointer p) ∧ WsAt w' p (st.map (·.put s)) ∧ w.grownBy w' (prow p) := by
  cases st with
  | none =>
    obtain rfl := h
    refine (put_nil s w).mono ?_
    rintro e w' ⟨rfl, rfl⟩
    exact ⟨rfl, rfl, World.grownBy.refl _ _⟩
  | some st =>
    obtain ⟨b, rfl, hw⟩ := h
    refine (put_any s w b st hw (hs st rfl)).mono ?_
    rintro e w' ⟨rfl, h1, h2⟩
    exact ⟨rfl, ⟨b, rfl, h1⟩, h2⟩
theorem fail_ws (x : Int) (w : World) (p : Option Addr) (st : Option WSt) (h : WsAt w p st) :
    Calls Tryd.prog 54 #[.pointer p, .int .i64 x] w fun e w' => e = .returned (.pointer p) ∧ WsAt w' p (st.map (·.fail x)) ∧ w.grownBy w' (prow p) := by
  cases st with
  | none =>
    obtain rfl := h
    refine (fail_nil x w).mono ?_
    rintro e w' ⟨rfl, rfl⟩
    exact ⟨rfl, rfl, World.grownBy.refl _ _⟩
  | some st =>
    obtain ⟨b, rfl, hw⟩ := h
    refine (fail_any x w b st hw).mono ?_
    rintro e w' ⟨rfl, h1, h2⟩
    exact ⟨rfl, ⟨b, rfl, h1⟩, h2⟩

end Go.Proofs.YtemgeelgkokpcaaDoor
