/- The walk of bits.RotateLeft32 by a negative number. · The walk of hash.schedule. · The walk of hash.mix. · What a hash has taken: plain lists. No walk. · The walks of a hash's writing: writeByte, write, writeNum. · The walks of newHash and hash.sum. · The walk of sha.Tagged. -/
import Derived.Test.YtbhoeiopckmfhaaGreatDoorTopBandsB1
import Derived.WalkSpells
import Derived.WalkLawsBesides
import Derived.Lib.Hide
import Derived.Deep.QuietTactic
import Derived.Laws.BitsAllLaws
import Derived.Deep.MidRow
import Derived.BigQuiet
import Derived.StillTailTactics
import Derived.IntWalk
import Derived.Deep.RegionHeld3
import Derived.Deep.DeepCutAuto
import Derived.Great.BuildSlice
import Derived.Deep.WholeRow
import Derived.ChangeKeysEq
import Derived.Lib.BufferWrite
import Derived.Laws.CopyOwn
namespace Go.Proofs.YtbhoeiopckmfhaaGreatDoor
open Go.RowKit

theorem val_int {k : IntKind} {a b : Int} (h : a = b) : Value.int k a = Value.int k b := by rw [h]
theorem ret_int {k : IntKind} {a b : Int} (h : a = b) : Ending.returned (.int k a) = .returned (.int k b) := by rw [h]
theorem rot_amount (n : Nat) (h0 : 0 < n) (h1 : n < 32) : bits .and .u64 (IntKind.u64.wrap (-(n : Int))) 31 = ((32 - n : Nat) : Int) := by
  have e : IntKind.u64.wrap (-(n : Int)) = ((18446744073709551616 - n : Nat) : Int) := by
    simp only [IntKind.wrap, IntKind.bits, IntKind.signed, IntKind.min, IntKind.max]; simp; omega
  rw [e, show (31 : Int) = ((31 : Nat) : Int) from rfl, u64_and_nat _ _ (by omega) (by omega)]
  congr 1
  rw [show (31 : Nat) = 2 ^ 5 - 1 from rfl, Nat.and_two_pow_sub_one_eq_mod]
  omega

theorem rot_or (x n m : Nat) (h : n + m = 32) (hx : x < 4294967296) : (x * 2 ^ m % 4294967296 ||| x / 2 ^ n) = rotr n x := by
  have e32 : (4294967296 : Nat) = 2 ^ n * 2 ^ m := by rw [← Nat.pow_add, h]
  have h1 : x * 2 ^ m % 4294967296 = 2 ^ m * (x % 2 ^ n) := by
    rw [e32, Nat.mul_mod_mul_right, Nat.mul_comm]
  have h2 : x / 2 ^ n < 2 ^ m := by
    rw [Nat.div_lt_iff_lt_mul (Nat.two_pow_pos n), Nat.mul_comm, ← e32]; exact hx
  rw [h1, ← Nat.two_pow_add_eq_or_of_lt h2, rotr, show 32 - n = m from by omega]
  rw [Nat.mul_comm (x % 2 ^ n), Nat.add_comm]
theorem rot_bits (x n m : Nat) (h : n + m = 32) (hx : x < 4294967296) : bits .or .u32 ((x : Int) * 2 ^ m % 4294967296) ((x : Int) / 2 ^ n) = (rotr n x : Nat) := by
  have h1 : (x : Int) * 2 ^ m % 4294967296 = ((x * 2 ^ m % 4294967296 : Nat) : Int) := by simp
  have h2 : (x : Int) / 2 ^ n = ((x / 2 ^ n : Nat) : Int) := by simp
  rw [h1, h2, u32_or_nat _ _ (Nat.mod_lt _ (by decide)) (div_lt32 hx), rot_or x n m h hx]

set_option maxHeartbeats 400000 in
theorem rot_any (x n : Nat) (hx : x < 4294967296) (hn : 0 < n) (hn2 : n < 32) (w : World) :
    Calls Tryz.prog 153 #[.int .u32 x, .int .i64 (-n)] w fun e w' => e = .returned (.int .u32 (rotr n x : Nat)) ∧ w = w' := by
  have e1 := rot_amount n hn hn2
  generalize hm : 32 - n = m at e1
  have hm0 : 0 < m := by omega
  have hm1 : m < 32 := by omega
  have HM := Lib.hid hm
  clear hm
  go_enter Tryz.func153, Tryz.ntmps153
  go_wp2
  go_ret
  have hnm : 32 - m = n := by have := HM.out; omega
  refine ⟨ret_int ?_, rfl⟩
  rw [hnm]
  exact rot_bits x n m (by omega) hx
/-- the same, the number as it stands at a call -/
theorem rot_c (x : Nat) (c : Int) (hx : x < 4294967296) (hc : -32 < c ∧ c < 0) (w : World) :
    Calls Tryz.prog 153 #[.int .u32 x, .int .i64 c] w fun e w' => e = .returned (.int .u32 (rotr c.natAbs x : Nat)) ∧ w = w' := by
  obtain ⟨n, rfl⟩ : ∃ n : Nat, c = -(n : Int) := ⟨c.natAbs, by omega⟩
  have : (-(n : Int)).natAbs = n := by omega
  rw [this]
  exact rot_any x n hx (by omega) (by omega) w
theorem rot_q (x : Nat) (c : Int) (hx : x < 4294967296) (hc : -32 < c ∧ c < 0) (w : World) :
    Calls Tryz.prog 153 #[.int .u32 x, .int .i64 c] w fun e w' => e = .returned (.int .u32 (rotr c.natAbs x : Nat)) ∧ w' = w :=
  (rot_c x c hx hc w).mono fun _ _ h => ⟨h.1, h.2.symm⟩
/-- a second region that only reads, behind a first one -/
theorem quiet_add_same {P : Program} {f : FuncId} {args : Array Value} {w : World} {a n : Nat} {v : Value}
    (h : Calls P f args (w.drewN (a + n)) fun e w' => e = .returned v ∧ w' = w.drewN (a + n)) :
    Calls P f args (w.drewN (a + n)) fun e w'' => e = .returned v ∧ ∃ m, w'' = w.drewN (a + m) :=
  h.mono fun _ _ ⟨he, hm⟩ => ⟨he, n, hm⟩
end Go.Proofs.YtbhoeiopckmfhaaGreatDoor

namespace Go.Proofs.YtbhoeiopckmfhaaGreatDoor
open Go.RowKit

def u32s (l : List Nat) : List Value := l.map fun n : Nat => Value.int .u32 (n : Int)
def u8s (l : List UInt8) : List Value := l.map fun c : UInt8 => Value.int .u8 (c.toNat : Int)
/-- a hash in memory: its state, its block, how many bytes it took -/
def HashAt (w : World) (b : Nat) (s : St) (blk : List UInt8) (n : Nat) : Prop :=
  blk.length = 64 ∧ w.heap[b]? = some (.cells (u32s s.list ++ (u8s blk ++ [Value.int .u64 (n : Int)])).toArray 190 (0, 0))

theorem sig0_bits (x : Nat) (hx : x < 4294967296) : bits .xor .u32 (bits .xor .u32 (rotr 7 x : Nat) (rotr 18 x : Nat)) ((x : Int) / 8) = (sig0 x : Nat) := by
  have h3 : (x : Int) / 8 = ((x / 2 ^ 3 : Nat) : Int) := by simp
  rw [u32_xor_nat _ _ (rotr_lt (by decide) hx) (rotr_lt (by decide) hx), h3, u32_xor_nat _ _ (xor_lt (rotr_lt (by decide) hx) (rotr_lt (by decide) hx)) (div_lt32 hx)]
  rfl
theorem sig1_bits (x : Nat) (hx : x < 4294967296) : bits .xor .u32 (bits .xor .u32 (rotr 17 x : Nat) (rotr 19 x : Nat)) ((x : Int) / 1024) = (sig1 x : Nat) := by
  have h3 : (x : Int) / 1024 = ((x / 2 ^ 10 : Nat) : Int) := by simp
  rw [u32_xor_nat _ _ (rotr_lt (by decide) hx) (rotr_lt (by decide) hx), h3, u32_xor_nat _ _ (xor_lt (rotr_lt (by decide) hx) (rotr_lt (by decide) hx)) (div_lt32 hx)]
  rfl
/-- what the walk of schedule keeps: the result's block, and the words' -/
structure SW (w wr : World) (L : List Nat) : Prop where
  g : w.grownBy wr none
  s : wr.heap.size = w.heap.size + 2
  r : wr.heap[w.heap.size]? = some (.cells (u32s (List.replicate 64 0)).toArray 229 (0, 0))
  c : wr.heap[w.heap.size + 1]? = some (.cells (u32s L).toArray 229 (0, 0))
  l : L.length = 64
  b : ∀ x ∈ L, x < 4294967296

theorem u32s_length (l : List Nat) : (u32s l).length = l.length := by simp [u32s]
theorem u8s_length (l : List UInt8) : (u8s l).length = l.length := by simp [u8s]
theorem u32s_at (l : List Nat) (i : Nat) (h : i < l.length) : (u32s l)[i]? = some (.int .u32 (l.getD i 0 : Nat)) := by
  simp [u32s, List.getElem?_eq_getElem h, List.getD_eq_getElem?_getD]
theorem u8s_at (l : List UInt8) (i : Nat) (h : i < l.length) : (u8s l)[i]? = some (.int .u8 (l.getD i 0).toNat) := by
  simp [u8s, List.getElem?_eq_getElem h, List.getD_eq_getElem?_getD]
theorem u32s_set (l : List Nat) (i x : Nat) : u32s (l.set i x) = (u32s l).set i (.int .u32 x) := by simp [u32s, List.map_set]
theorem St.list_length (s : St) : s.list.length = 8 := rfl

theorem HashAt.lt {w : World} {b : Nat} {s : St} {blk : List UInt8} {n : Nat} (h : HashAt w b s blk n) : b < w.heap.size := (Array.getElem?_eq_some_iff.1 h.2).1
theorem HashAt.word {w : World} {b : Nat} {s : St} {blk : List UInt8} {n : Nat} (h : HashAt w b s blk n) (i : Nat) (hi : i < 8) : w.cell? ⟨b, i, none⟩ = some (.int .u32 (s.list.getD i 0 : Nat)) := by
  rw [cell_of h.2, List.getElem?_toArray, List.getElem?_append_left (by rw [u32s_length, St.list_length]; exact hi), u32s_at _ _ (by rw [St.list_length]; exact hi)]
theorem HashAt.byte {w : World} {b : Nat} {s : St} {blk : List UInt8} {n : Nat} (h : HashAt w b s blk n) (i : Nat) (hi : i < 64) : w.cell? ⟨b, 8 + i, none⟩ = some (.int .u8 (blk.getD i 0).toNat) := by
  have hl := h.1
  rw [cell_of h.2, List.getElem?_toArray, List.getElem?_append_right (by rw [u32s_length, St.list_length]; omega), u32s_length, St.list_length, show 8 + i - 8 = i from by omega,
    List.getElem?_append_left (by rw [u8s_length]; omega), u8s_at _ _ (by omega)]
theorem HashAt.size {w : World} {b : Nat} {s : St} {blk : List UInt8} {n : Nat} (h : HashAt w b s blk n) : w.cell? ⟨b, 72, none⟩ = some (.int .u64 n) := by
  have hl := h.1
  rw [cell_of h.2, List.getElem?_toArray, List.getElem?_append_right (by rw [u32s_length, St.list_length]; omega), u32s_length, St.list_length,
    List.getElem?_append_right (by rw [u8s_length]; omega), u8s_length, hl]
  rfl
theorem HashAt.kept {w w' : World} {row : Option Nat} {b : Nat} {s : St} {blk : List UInt8} {n : Nat} (h : HashAt w b s blk n) (hg : w.grownBy w' row) (hb : row ≠ some b) : HashAt w' b s blk n :=
  ⟨h.1, by rw [hg.block b h.lt (fun e => hb e.symm)]; exact h.2⟩

theorem SW.drewN {w wr : World} {L : List Nat} (h : SW w wr L) (n : Nat) : SW w (wr.drewN n) L :=
  ⟨⟨h.g.os, h.g.tape, h.g.output, h.g.size, h.g.block⟩, h.s, h.r, h.c, h.l, h.b⟩
theorem SW.cell {w wr : World} {L : List Nat} (h : SW w wr L) (i : Nat) (hi : i < 64) : wr.cell? ⟨w.heap.size + 1, i, none⟩ = some (.int .u32 (L.getD i 0 : Nat)) := by
  rw [cell_of h.c, List.getElem?_toArray, u32s_at _ _ (by rw [h.l]; exact hi)]
theorem SW.free {w wr : World} {L : List Nat} (h : SW w wr L) (i : Nat) : wr.frozen? ⟨w.heap.size + 1, i, none⟩ = false := free_of h.c i
theorem SW.put {w wr : World} {L : List Nat} (h : SW w wr L) (i x : Nat) (hx : x < 4294967296) : SW w ((wr.setCell ⟨w.heap.size + 1, i, none⟩ (.int .u32 x)).drew) (L.set i x) := by
  refine ⟨grownBy_drew (grownBy_setNew h.g (by omega) _ _), ?_, ?_, ?_, ?_, ?_⟩
  · show (wr.setCell _ _).heap.size = _
    rw [size_setCell]; exact h.s
  · show (wr.setCell _ _).heap[_]? = _
    rw [heap_setCell_ne _ _ _ _ (by omega)]; exact h.r
  · show (wr.setCell _ _).heap[_]? = _
    rw [heap_setCell h.c, u32s_set]
    simp
  · rw [List.length_set]; exact h.l
  · intro y hy
    rcases List.mem_or_eq_of_mem_set hy with hy | rfl
    · exact h.b y hy
    · exact hx
theorem SW.start (w : World) : SW w ((w.alloc (.cells (u32s (List.replicate 64 0)).toArray 229)).alloc (.cells (u32s (List.replicate 64 0)).toArray 229)) (List.replicate 64 0) := by
  refine ⟨?_, ?_, ?_, ?_, ?_, ?_⟩
  · exact grownBy_alloc' (World.grownBy_alloc _ _ _) _
  · simp
  · generalize (Obj.cells (u32s (List.replicate 64 0)).toArray 229) = o
    show ((w.heap.push o).push o)[_]? = _
    simp [Array.getElem?_push]
  · exact heap_alloc_at _ _ _ (by simp)
  · simp
  · intro x hx
    rw [List.eq_of_mem_replicate hx]
    decide

/-- the words so far -/
def wordsZ (blk : List UInt8) (k : Nat) : List Nat := words blk k ++ List.replicate (64 - k) 0
/-- the bytes of a word so far -/
def part (blk : List UInt8) (k : Nat) : Nat → Nat
  | 0 => 0
  | j + 1 => part blk k j * 256 + (blk.getD (4 * k + j) 0).toNat
theorem part_lt (blk : List UInt8) (k j : Nat) : part blk k j < 256 ^ j := by
  induction j with
  | zero => simp [part]
  | succ j ih =>
    have := (blk.getD (4 * k + j) 0).toNat_lt
    rw [part, Nat.pow_succ]
    omega
theorem part_lt3 (blk : List UInt8) (k j : Nat) (h : j < 4) : part blk k j < 16777216 :=
  Nat.lt_of_lt_of_le (part_lt blk k j) (Nat.le_trans (Nat.pow_le_pow_right (by decide) (show j ≤ 3 by omega)) (by decide))
theorem part_four (blk : List UInt8) (k : Nat) : part blk k 4 = word blk k := by simp [part, word]
theorem words_length (blk : List UInt8) (k : Nat) : (words blk k).length = k := by simp [words]
theorem words_succ (blk : List UInt8) (k : Nat) : words blk (k + 1) = words blk k ++ [word blk k] := by simp [words, List.range_succ]
theorem wordsZ_at (blk : List UInt8) (k : Nat) (h : k < 64) : (wordsZ blk k).getD k 0 = 0 := by
  rw [wordsZ, List.getD_eq_getElem?_getD, List.getElem?_append_right (by rw [words_length]; omega), words_length, Nat.sub_self]
  rw [show 64 - k = (63 - k) + 1 from by omega, List.replicate_succ]
  rfl
theorem wordsZ_start (blk : List UInt8) (k : Nat) (h : k < 64) : (wordsZ blk k).set k (part blk k 0) = wordsZ blk k := by
  apply List.ext_getElem?
  intro i
  rw [List.getElem?_set]
  split
  · rename_i e
    subst e
    have := wordsZ_at blk k h
    rw [List.getD_eq_getElem?_getD] at this
    have hl : k < (wordsZ blk k).length := by simp [wordsZ, words_length]; omega
    rw [if_pos hl]
    rw [List.getElem?_eq_getElem hl] at this ⊢
    simp at this
    rw [this]
    rfl
  · rfl
theorem wordsZ_end (blk : List UInt8) (k : Nat) (h : k < 64) : (wordsZ blk k).set k (part blk k 4) = wordsZ blk (k + 1) := by
  rw [part_four, wordsZ, wordsZ, words_succ, List.set_append_right _ _ (by rw [words_length]; omega), words_length, Nat.sub_self,
    show 64 - k = (64 - (k + 1)) + 1 from by omega, List.replicate_succ, List.set_cons_zero, List.append_assoc]
  rfl
theorem or8 (p v : Nat) (hp : p < 16777216) (hv : v < 256) : bits .or .u32 ((p : Int) * 256) (v : Int) = ((p * 256 + v : Nat) : Int) := by
  have h2 : ((p : Int) * 256) = ((p * 256 : Nat) : Int) := by simp
  rw [h2, u32_or_nat _ _ (by omega) (by omega)]
  congr 1
  have := Nat.two_pow_add_eq_or_of_lt (i := 8) (b := v) (by omega) p
  rw [Nat.mul_comm p 256]
  exact this.symm

/-- the words behind so many rounds -/
def wordsM (blk : List UInt8) (m : Nat) : List Nat := more (m - 16) (words blk 16) ++ List.replicate (64 - m) 0
theorem more16_length (blk : List UInt8) (m : Nat) (h : 16 ≤ m) : (more (m - 16) (words blk 16)).length = m := by rw [more_length, words_length]; omega
theorem wordsM_at (blk : List UInt8) (m i : Nat) (h : 16 ≤ m) (hi : i < m) : (wordsM blk m).getD i 0 = (more (m - 16) (words blk 16)).getD i 0 := by
  rw [wordsM, List.getD_eq_getElem?_getD, List.getD_eq_getElem?_getD, List.getElem?_append_left (by rw [more16_length blk m h]; exact hi)]
theorem wordsM_zero (blk : List UInt8) (m : Nat) (h : 16 ≤ m) (h2 : m < 64) : (wordsM blk m).getD m 0 = 0 := by
  rw [wordsM, List.getD_eq_getElem?_getD, List.getElem?_append_right (by rw [more16_length blk m h]; omega), more16_length blk m h, Nat.sub_self,
    show 64 - m = (63 - m) + 1 from by omega, List.replicate_succ]
  rfl
theorem wordsM_succ (blk : List UInt8) (m : Nat) (h : 16 ≤ m) (h2 : m < 64) : (wordsM blk m).set m (nextW (more (m - 16) (words blk 16))) = wordsM blk (m + 1) := by
  rw [wordsM, wordsM, show m + 1 - 16 = (m - 16) + 1 from by omega, more_succ, List.set_append_right _ _ (by rw [more16_length blk m h]; omega), more16_length blk m h, Nat.sub_self,
    show 64 - m = (64 - (m + 1)) + 1 from by omega, List.replicate_succ, List.set_cons_zero, List.append_assoc, List.singleton_append]
theorem wordsM_end (blk : List UInt8) : wordsM blk 64 = sched blk := by
  rw [wordsM, sched]
  simp
theorem wordsM_start (blk : List UInt8) : wordsM blk 16 = wordsZ blk 16 := rfl
theorem next_sum (a b c d : Nat) : (((a + b + c + d) % 4294967296 : Nat) : Int) = ((a : Int) + b + c + d) % 4294967296 := by simp

attribute [local irreducible] sched

set_option maxRecDepth 100000 in
set_option maxHeartbeats 800000 in
theorem schedule_any (w : World) (b : Nat) (s : St) (blk : List UInt8) (n : Nat) (h : HashAt w b s blk n) :
    Calls Tryz.prog 152 #[.pointer (some ⟨b, 0, none⟩)] w fun e w' => e = .returned (.agg (u32s (sched blk)).toArray) ∧ w.grownBy w' none := by
  have H := Lib.hid h
  clear h
  go_enter Tryz.func152, Tryz.ntmps152
  go_wp2
  go_loopw [9] (fun i wr => ∃ k : Nat, k ≤ 16 ∧ i = .int .i64 k ∧ SW w wr (wordsZ blk k)) (fun i _ => 16 - (intOf i).toNat)
  case atStart => exact ⟨0, by omega, rfl, SW.start w⟩
  case round =>
    obtain ⟨k, hk, rfl, hs⟩ := hrel
    by_cases hlt : k < 16
    · have hd : decide ((k : Int) < 16) = true := by simp; omega
      go_wp2
      go_loopw [12] (fun i wr => ∃ j : Nat, j ≤ 4 ∧ i = .int .i64 j ∧ SW w wr ((wordsZ blk k).set k (part blk k j))) (fun i _ => 4 - (intOf i).toNat)
      case atStart => exact ⟨0, by omega, rfl, by rw [wordsZ_start blk k (by omega)]; exact hs⟩
      case round =>
        clear hs
        obtain ⟨j, hj, rfl, hs⟩ := hrel
        by_cases hjl : j < 4
        · have c1 : wr.cell? ⟨w.heap.size + 1, k, none⟩ = some (.int .u32 (part blk k j)) := by
            rw [hs.cell k (by omega), List.getD_eq_getElem?_getD, List.getElem?_set_self (by simp [wordsZ, words_length]; omega)]
            rfl
          have c2 : wr.cell? ⟨b, 8 + (4 * k + j), none⟩ = some (.int .u8 ((blk.getD (4 * k + j) 0).toNat)) := (H.out.kept hs.g (by simp)).byte _ (by omega)
          have f1 : wr.frozen? ⟨w.heap.size + 1, k, none⟩ = false := hs.free k
          have hp : part blk k j < 16777216 := part_lt3 blk k j hjl
          have hv := (blk.getD (4 * k + j) 0).toNat_lt
          generalize hP : part blk k j = p at c1 hp
          generalize hV : (blk.getD (4 * k + j) 0).toNat = v at c2 hv
          have HP := Lib.hid hP
          have HV := Lib.hid hV
          have HS := Lib.hid hs
          clear hP hV hs
          have b1 : (0 : Int) ≤ (k : Int) := by omega
          have b2 : (k : Int) < 64 := by omega
          have b3 : (0 : Int) ≤ 4 * (k : Int) + j := by omega
          have b4 : 4 * (k : Int) + j < 64 := by omega
          have b5 : IntKind.i64.wrap (4 * (k : Int)) = 4 * (k : Int) := IntWalk.i64_in _ (by omega)
          have b6 : IntKind.i64.wrap (4 * (k : Int) + j) = 4 * (k : Int) + j := IntWalk.i64_in _ (by omega)
          have b7 : (4 * (k : Int) + j).toNat = 4 * k + j := by omega
          have b8 : IntKind.u32.wrap ((p : Int) * 256) = (p : Int) * 256 := by
            simp only [IntKind.wrap, IntKind.bits, IntKind.signed, IntKind.min, IntKind.max]; simp; omega
          have b9 : IntKind.u32.wrap (v : Int) = (v : Int) := by
            simp only [IntKind.wrap, IntKind.bits, IntKind.signed, IntKind.min, IntKind.max]; simp; omega
          go_wp2
          go_still_tail 17, (by kernel_rfl)
          go_wp2
          go_roundw
          case rel =>
            refine ⟨j + 1, by omega, by go_num, ?_⟩
            have := HS.out.put k (p * 256 + v) (by omega)
            rw [← or8 p v hp hv, List.set_set] at this
            rw [part, HP.out, HV.out]
            exact this
          case measure => simp [intOf]; omega
        · have : j = 4 := by omega
          subst this
          rw [wordsZ_end blk k (by omega)] at hs
          go_wp2
          go_roundw
          case rel => exact ⟨k + 1, by omega, by go_num, hs⟩
          case measure => simp [intOf]; omega
    · have hk16 : k = 16 := by omega
      subst hk16
      rw [show ((16 : Nat) : Int) = 16 from rfl]
      go_wp2
      go_loopw [6] (fun i wr => ∃ m : Nat, 16 ≤ m ∧ m ≤ 64 ∧ i = .int .i64 m ∧ SW w wr (wordsM blk m)) (fun i _ => 64 - (intOf i).toNat)
      case atStart => exact ⟨16, by omega, by omega, rfl, hs⟩
      case round =>
        clear hs
        obtain ⟨m, hm1, hm2, rfl, hs⟩ := hrel
        by_cases hlt : m < 64
        · obtain ⟨i15, r15⟩ : ∃ i : Nat, (m : Int) - 15 = i := ⟨m - 15, by omega⟩
          obtain ⟨i2, r2⟩ : ∃ i : Nat, (m : Int) - 2 = i := ⟨m - 2, by omega⟩
          obtain ⟨i16, r16⟩ : ∃ i : Nat, (m : Int) - 16 = i := ⟨m - 16, by omega⟩
          obtain ⟨i7, r7⟩ : ∃ i : Nat, (m : Int) - 7 = i := ⟨m - 7, by omega⟩
          have c15 : wr.cell? ⟨w.heap.size + 1, i15, none⟩ = some (.int .u32 ((more (m - 16) (words blk 16)).getD i15 0 : Nat)) := by rw [hs.cell i15 (by omega), wordsM_at blk m i15 hm1 (by omega)]
          have c2 : wr.cell? ⟨w.heap.size + 1, i2, none⟩ = some (.int .u32 ((more (m - 16) (words blk 16)).getD i2 0 : Nat)) := by rw [hs.cell i2 (by omega), wordsM_at blk m i2 hm1 (by omega)]
          have c16 : wr.cell? ⟨w.heap.size + 1, i16, none⟩ = some (.int .u32 ((more (m - 16) (words blk 16)).getD i16 0 : Nat)) := by rw [hs.cell i16 (by omega), wordsM_at blk m i16 hm1 (by omega)]
          have c7 : wr.cell? ⟨w.heap.size + 1, i7, none⟩ = some (.int .u32 ((more (m - 16) (words blk 16)).getD i7 0 : Nat)) := by rw [hs.cell i7 (by omega), wordsM_at blk m i7 hm1 (by omega)]
          have c0 : wr.cell? ⟨w.heap.size + 1, m, none⟩ = some (.int .u32 0) := by rw [hs.cell m (by omega), wordsM_zero blk m hm1 hlt]; rfl
          have f0 : wr.frozen? ⟨w.heap.size + 1, m, none⟩ = false := hs.free m
          have hL := more_lt (m - 16) _ (words_lt blk 16)
          have l15 := getD_lt hL (by decide) i15
          have l2 := getD_lt hL (by decide) i2
          have l16 := getD_lt hL (by decide) i16
          have l7 := getD_lt hL (by decide) i7
          clear hL
          generalize h15 : (more (m - 16) (words blk 16)).getD i15 0 = x15 at c15 l15
          generalize h2 : (more (m - 16) (words blk 16)).getD i2 0 = x2 at c2 l2
          generalize h16 : (more (m - 16) (words blk 16)).getD i16 0 = x16 at c16 l16
          generalize h7 : (more (m - 16) (words blk 16)).getD i7 0 = x7 at c7 l7
          have H15 := Lib.hid h15
          have H2 := Lib.hid h2
          have H16 := Lib.hid h16
          have H7 := Lib.hid h7
          have HS := Lib.hid hs
          clear h15 h2 h16 h7 hs
          have e15 : IntKind.i64.wrap (i15 : Int) = i15 := IntWalk.i64_in _ (by omega)
          have p15 : (0 : Int) ≤ (i15 : Int) := by omega
          have q15 : (i15 : Int) < 64 := by omega
          have e2 : IntKind.i64.wrap (i2 : Int) = i2 := IntWalk.i64_in _ (by omega)
          have p2 : (0 : Int) ≤ (i2 : Int) := by omega
          have q2 : (i2 : Int) < 64 := by omega
          have e16 : IntKind.i64.wrap (i16 : Int) = i16 := IntWalk.i64_in _ (by omega)
          have p16 : (0 : Int) ≤ (i16 : Int) := by omega
          have q16 : (i16 : Int) < 64 := by omega
          have e7 : IntKind.i64.wrap (i7 : Int) = i7 := IntWalk.i64_in _ (by omega)
          have p7 : (0 : Int) ≤ (i7 : Int) := by omega
          have q7 : (i7 : Int) < 64 := by omega
          have p0 : (0 : Int) ≤ (m : Int) := by omega
          have q0 : (m : Int) < 64 := by omega
          go_wp2
          have s15 := sig0_bits x15 l15
          have s2 := sig1_bits x2 l2
          go_quiet ((go_at_call 153; exact Calls.quiet_of_same (rot_q _ _ (by assumption) (by decide) _)))
          revert nq; intro n1
          go_wp2
          go_quiet ((go_at_call 153; exact quiet_add_same (rot_q _ _ (by assumption) (by decide) _)))
          go_wp2
          revert nq; intro n2
          have C16 : ((wr.drewN n1).drewN n2).cell? ⟨w.heap.size + 1, i16, none⟩ = some (.int .u32 x16) := by simpa using c16
          have C7 : ((wr.drewN n1).drewN n2).cell? ⟨w.heap.size + 1, i7, none⟩ = some (.int .u32 x7) := by simpa using c7
          have C0 : ((wr.drewN n1).drewN n2).cell? ⟨w.heap.size + 1, m, none⟩ = some (.int .u32 0) := by simpa using c0
          have F0 : ((wr.drewN n1).drewN n2).frozen? ⟨w.heap.size + 1, m, none⟩ = false := by simpa using f0
          have HQ := Lib.hid ((HS.out.drewN n1).drewN n2)
          clear c15 c2 c16 c7 c0 f0 HS s15 s2
          generalize (wr.drewN n1).drewN n2 = wq at C16 C7 C0 F0 HQ ⊢
          go_still_tail 15, (by kernel_rfl)
          go_wp2
          go_roundw
          case rel =>
            refine ⟨m + 1, by omega, by omega, by go_num, ?_⟩
            have := HQ.out.put m (nextW (more (m - 16) (words blk 16))) (nextW_lt _)
            rw [wordsM_succ blk m hm1 hlt, nextW, more16_length blk m hm1] at this
            rw [show m - 16 = i16 from by omega, show m - 15 = i15 from by omega, show m - 7 = i7 from by omega, show m - 2 = i2 from by omega] at this
            have e16' := H16.out
            have e15' := H15.out
            have e7' := H7.out
            have e2' := H2.out
            rw [show m - 16 = i16 from by omega] at e16' e15' e7' e2'
            rw [e16', e15', e7', e2', next_sum] at this
            exact this
          case measure => simp [intOf]; omega
        · have : m = 64 := by omega
          subst this
          rw [wordsM_end] at hs
          have hl := sched_length blk
          have ht : wr.there w.heap.size 0 (u32s (sched blk)).toArray.size := fun j hj => by
            rw [List.size_toArray, u32s_length, hl] at hj
            refine ⟨?_, free_of hs.r _⟩
            rw [cell_of hs.r, List.getElem?_toArray, u32s_at _ _ (by simp; omega)]
            rfl
          have hi : (Tryz.prog.info? 229).map (·.size) = some (u32s (sched blk)).toArray.size := by
            rw [List.size_toArray, u32s_length, hl]; kernel_rfl
          have h1 : (u32s (sched blk)).toArray.all (·.oneCell') = true := all_oneCell_toArray (by
            intro v hv
            obtain ⟨x, _, rfl⟩ := List.mem_map.1 hv
            rfl)
          have HT := Lib.hid ht
          have HI := Lib.hid hi
          have H1 := Lib.hid h1
          have HS := Lib.hid hs
          clear ht hi h1 hs hl
          go_wp2_with (first
            | (refine wpList_load_row (by rfl) 229 (.tmp 3) (by rfl) (w.heap.size + 1) (by rfl) _ _ _ _ HS.out.c Tryz.underlying229 (by rfl) (by exact HI.out) ?_)
            | (refine wpList_store_mid (by rfl) 229 (.tmp 2) (.tmp 87) (by rfl) w.heap.size 0 (u32s (sched blk)).toArray (by rfl) (by rfl) HT.out HI.out H1.out ?_))
          have hW : (wr.setCells w.heap.size 0 (u32s (sched blk))).heap[w.heap.size]? = some (.cells (u32s (sched blk)).toArray 229 (0, 0)) := by
            rw [heap_setCells (u32s (sched blk)) 0 wr (u32s (List.replicate 64 0)).toArray HS.out.r (by simp [u32s_length, HS.out.l])]
            simp [u32s_length, HS.out.l]
          refine bodyPost_ret (v := .agg (u32s (sched blk)).toArray) (results_cell_row (p := 2) (ty := 229) (by kernel_rfl) _ _ w.heap.size 229 _ (0, 0) (.array 64 161) (by rfl) hW Tryz.underlying229 rfl HI.out) rfl ⟨rfl, ?_⟩
          exact grownBy_setCellsNew (Nat.le_refl _) _ _ _ HS.out.g
end Go.Proofs.YtbhoeiopckmfhaaGreatDoor

namespace Go.Proofs.YtbhoeiopckmfhaaGreatDoor
open Go.RowKit
attribute [local irreducible] sched

/-- the rounds' constants in memory -/
def RootsAt (w : World) : Prop := ∀ i, i < 64 → w.cell? ⟨1, i, none⟩ = some (.int .u32 (rootsL.getD i 0 : Nat))
theorem RootsAt.kept {w w' : World} {row : Option Nat} (h : RootsAt w) (hg : w.grownBy w' row) (hr : row ≠ some 1) : RootsAt w' := fun i hi => by
  have hl : 1 < w.heap.size := World.block_lt_of_cell? w _ (h i hi)
  have := hg.block 1 hl (fun e => hr e.symm)
  rw [← h i hi]
  unfold World.cell?
  simp only [this]

/-- an array's value, indexed by a letter: its elements are one cell each -/
theorem run_index_one {P : Program} {t e : TypeId} {n : Nat} (hu : P.underlying t = some (.array n e)) (he : P.plainKey e = true) {i0 : TypeInfo} (hi : P.info? e = some i0) (hc : P.cellsOf e = 1)
    {cs : Array Value} {j : Nat} {v : Value} (hj : j < n) (hv : cs[j]? = some v) (w : World) : (Instr.index t (.agg cs) (.int .i64 j)).run P w = .ok v w := by
  have h1 : (0 : Int) ≤ (j : Int) ∧ (j : Int) < (n : Int) := by omega
  simp [Instr.index, asIntOf, run_underlying hu, Sem.run_bind, run_sizeOf w hi, hc, hj, run_part_plain w he hv]
theorem st_index (v : St) (i : Nat) (hi : i < 8) (w : World) : (Instr.index 188 (.agg #[.int .u32 v.a, .int .u32 v.b, .int .u32 v.c, .int .u32 v.d, .int .u32 v.e, .int .u32 v.f, .int .u32 v.g, .int .u32 v.h]) (.int .i64 i)).run Tryz.prog w = .ok (.int .u32 (v.list.getD i 0 : Nat)) w := by
  obtain ⟨i0, h0⟩ : ∃ i0, Tryz.prog.info? 161 = some i0 := Option.isSome_iff_exists.1 (by kernel_rfl)
  refine run_index_one Tryz.underlying188 (by kernel_rfl) h0 (by kernel_rfl) hi ?_ w
  show (u32s v.list).toArray[i]? = _
  rw [List.getElem?_toArray]
  exact u32s_at v.list i hi
theorem list_ok {s : St} (h : s.ok) : ∀ x ∈ s.list, x < 4294967296 := by
  obtain ⟨ha, hb, hc, hd, he, hf, hg, hh⟩ := h
  intro x hx
  simp only [St.list, List.mem_cons, List.not_mem_nil, or_false] at hx
  rcases hx with rfl | rfl | rfl | rfl | rfl | rfl | rfl | rfl <;> assumption
theorem add_at (s v : St) (i : Nat) (hi : i < 8) : (s.add v).list.getD i 0 = (s.list.getD i 0 + v.list.getD i 0) % 4294967296 := by
  obtain rfl | rfl | rfl | rfl | rfl | rfl | rfl | rfl : i = 0 ∨ i = 1 ∨ i = 2 ∨ i = 3 ∨ i = 4 ∨ i = 5 ∨ i = 6 ∨ i = 7 := by omega
  all_goals rfl
/-- the hash, some of its words added up -/
structure LW (w wr : World) (b : Nat) (s v : St) (blk : List UInt8) (n i : Nat) : Prop where
  g : w.grownBy wr (some b)
  h : wr.heap[b]? = some (.cells (u32s ((s.add v).list.take i ++ s.list.drop i) ++ (u8s blk ++ [Value.int .u64 (n : Int)])).toArray 190 (0, 0))
theorem LW.cell {w wr : World} {b : Nat} {s v : St} {blk : List UInt8} {n i : Nat} (h : LW w wr b s v blk n i) (hi : i < 8) : wr.cell? ⟨b, i, none⟩ = some (.int .u32 (s.list.getD i 0 : Nat)) := by
  rw [cell_of h.h, List.getElem?_toArray, List.getElem?_append_left (by rw [u32s_length]; simp [St.list_length]; omega)]
  rw [u32s_at _ _ (by simp [St.list_length]; omega)]
  congr 2
  rw [List.getD_eq_getElem?_getD, List.getD_eq_getElem?_getD, List.getElem?_append_right (by simp [St.list_length]; omega)]
  simp [St.list_length]
  rw [show i + (i - min i 8) = i from by omega]
theorem LW.next {w wr : World} {b : Nat} {s v : St} {blk : List UInt8} {n i : Nat} (h : LW w wr b s v blk n i) (hi : i < 8) : LW w ((wr.setCell ⟨b, i, none⟩ (.int .u32 ((s.add v).list.getD i 0 : Nat))).drew) b s v blk n (i + 1) := by
  refine ⟨grownBy_drew (grownBy_setCell h.g _ _), ?_⟩
  show (wr.setCell _ _).heap[b]? = _
  rw [heap_setCell h.h]
  congr 2
  rw [List.setIfInBounds_toArray]
  congr 1
  rw [List.set_append_left _ _ (by rw [u32s_length]; simp [St.list_length]; omega), ← u32s_set]
  congr 2
  have h8 : s.list.length = 8 := rfl
  have h9 : (s.add v).list.length = 8 := rfl
  rw [List.set_append_right _ _ (by simp; omega)]
  have e : s.list.drop i = s.list[i]'(by omega) :: s.list.drop (i + 1) := List.drop_eq_getElem_cons (by omega)
  rw [e, List.length_take, h9, show i - min i 8 = 0 from by omega, List.set_cons_zero, List.take_succ_eq_append_getElem (by omega), List.append_assoc]
  congr 2
  rw [List.getD_eq_getElem?_getD, List.getElem?_eq_getElem (by omega)]
  rfl

/-- what the walk of mix keeps: the hash, the constants, the words' block -/
structure MW (w wr : World) (A b : Nat) (s : St) (blk : List UInt8) (n : Nat) : Prop where
  g : w.grownBy wr none
  h : HashAt wr b s blk n
  r : RootsAt wr
  c : ∀ i, i < 64 → wr.cell? ⟨A, i, none⟩ = some (.int .u32 ((sched blk).getD i 0 : Nat))
theorem MW.drewN {w wr : World} {A b : Nat} {s : St} {blk : List UInt8} {n : Nat} (h : MW w wr A b s blk n) (k : Nat) : MW w (wr.drewN k) A b s blk n :=
  ⟨grownBy_drewN h.g k, h.h, h.r, h.c⟩

theorem Sig1_bits (x : Nat) (hx : x < 4294967296) : bits .xor .u32 (bits .xor .u32 (rotr 6 x : Nat) (rotr 11 x : Nat)) (rotr 25 x : Nat) = (Sig1 x : Nat) := by
  rw [u32_xor_nat _ _ (rotr_lt (by decide) hx) (rotr_lt (by decide) hx), u32_xor_nat _ _ (xor_lt (rotr_lt (by decide) hx) (rotr_lt (by decide) hx)) (rotr_lt (by decide) hx)]
  rfl
theorem Sig0_bits (x : Nat) (hx : x < 4294967296) : bits .xor .u32 (bits .xor .u32 (rotr 2 x : Nat) (rotr 13 x : Nat)) (rotr 22 x : Nat) = (Sig0 x : Nat) := by
  rw [u32_xor_nat _ _ (rotr_lt (by decide) hx) (rotr_lt (by decide) hx), u32_xor_nat _ _ (xor_lt (rotr_lt (by decide) hx) (rotr_lt (by decide) hx)) (rotr_lt (by decide) hx)]
  rfl

theorem not32 (x : Nat) (hx : x < 4294967296) : 4294967295 ^^^ x = 4294967295 - x := by
  have h1 : (BitVec.allOnes 32 ^^^ BitVec.ofNat 32 x).toNat = (~~~ BitVec.ofNat 32 x).toNat := by rw [BitVec.allOnes_xor]
  rw [BitVec.toNat_xor, BitVec.toNat_not, BitVec.toNat_allOnes, BitVec.toNat_ofNat, Nat.mod_eq_of_lt hx] at h1
  exact h1
theorem chs_bits (e f g : Nat) (he : e < 4294967296) (hf : f < 4294967296) (hg : g < 4294967296) :
    bits .xor .u32 (bits .and .u32 (e : Int) f) (bits .and .u32 (bits .xor .u32 (if IntKind.u32.signed = true then -1 else IntKind.u32.max) (e : Int)) g) = (chs e f g : Nat) := by
  have h1 : (if IntKind.u32.signed = true then -1 else IntKind.u32.max) = ((4294967295 : Nat) : Int) := by decide
  rw [h1, u32_xor_nat _ _ (by decide) he, not32 e he, u32_and_nat _ _ he hf, u32_and_nat _ _ (by omega) hg, u32_xor_nat _ _ (and_lt he) (and_lt (by omega))]
  rfl
theorem maj_bits (a b c : Nat) (ha : a < 4294967296) (hb : b < 4294967296) (hc : c < 4294967296) :
    bits .xor .u32 (bits .xor .u32 (bits .and .u32 (a : Int) b) (bits .and .u32 (a : Int) c)) (bits .and .u32 (b : Int) c) = (maj a b c : Nat) := by
  rw [u32_and_nat _ _ ha hb, u32_and_nat _ _ ha hc, u32_and_nat _ _ hb hc, u32_xor_nat _ _ (and_lt ha) (and_lt ha), u32_xor_nat _ _ (xor_lt (and_lt ha) (and_lt ha)) (and_lt hb)]
  rfl
theorem step_a (t : St) (K W : Nat) : ((((t.h : Int) + Sig1 t.e + chs t.e t.f t.g + K + W) % 4294967296 + ((Sig0 t.a : Nat) + (maj t.a t.b t.c : Nat)) % 4294967296) % 4294967296 : Int) = ((t.step K W).a : Nat) := by
  simp [St.step, t1, t2]
theorem step_e (t : St) (K W : Nat) : (((t.d : Int) + ((t.h : Int) + Sig1 t.e + chs t.e t.f t.g + K + W) % 4294967296) % 4294967296 : Int) = ((t.step K W).e : Nat) := by
  simp [St.step, t1]

set_option maxRecDepth 100000 in
set_option maxHeartbeats 800000 in
theorem mix_any (w : World) (b : Nat) (s : St) (blk : List UInt8) (n : Nat) (h : HashAt w b s blk n) (hs : s.ok) (hr : RootsAt w) (hb : b ≠ 1) :
    Calls Tryz.prog 106 #[.pointer (some ⟨b, 0, none⟩)] w fun e w' => e = .returned (.tuple #[]) ∧ HashAt w' b (s.mix blk) blk n ∧ w.grownBy w' (some b) := by
  have hlt := h.lt
  have H := Lib.hid h
  have HR := Lib.hid hr
  clear h hr
  have hl := sched_length blk
  have HI : Hid ((Tryz.prog.info? 229).map (·.size) = some (u32s (sched blk)).toArray.size) := by
    show _ = _
    rw [List.size_toArray, u32s_length, hl]; kernel_rfl
  have H1 : Hid ((u32s (sched blk)).toArray.all (·.oneCell') = true) := all_oneCell_toArray (by
    intro v hv
    obtain ⟨x, _, rfl⟩ := List.mem_map.1 hv
    rfl)
  have HL : Hid ((u32s (sched blk)).toArray.size = 64) := by
    show _ = _
    rw [List.size_toArray, u32s_length, hl]
  clear hl
  go_enter Tryz.func106, Tryz.ntmps106
  go_wp2_with fail
  refine (schedule_any _ b s blk n H.out).mono ?_
  rintro e w1 ⟨rfl, g1⟩
  have hlt1 : b < w1.heap.size := Nat.lt_of_lt_of_le hlt g1.size
  have G1 := Lib.hid g1
  clear g1
  go_wp2_with (refine wpList_store_rowTo (by rfl) 229 (.tmp 2) (.tmp 19) (by rfl) (by rfl) w1.heap.size (u32s (sched blk)).toArray (by rfl) (by rfl) 229 _ (heap_alloc_new w1 _) HI.out (by exact HL.out.symm) H1.out ?_)
  generalize hW : World.setRow (World.alloc w1 _) w1.heap.size _ = w2
  rw [World.setRow_alloc_new] at hW
  have g2 : w1.grownBy w2 none := by rw [← hW]; exact World.grownBy_alloc _ _ _
  have hA : w2.heap[w1.heap.size]? = some (.cells (u32s (sched blk)).toArray 229 (0, 0)) := by rw [← hW]; exact heap_alloc_at _ _ _ rfl
  clear hW
  have hm : MW w w2 w1.heap.size b s blk n := by
    have g := grownBy_trans G1.out g2
    refine ⟨g, H.out.kept g (by simp), HR.out.kept g (by simp), fun i hi => ?_⟩
    rw [cell_of hA, List.getElem?_toArray, u32s_at _ _ (by rw [sched_length]; exact hi)]
  clear g2 hA
  have hA1 : w.heap.size ≤ w1.heap.size := G1.out.size
  generalize w1.heap.size = A at *
  have c0 : w2.cell? ⟨b, 0, none⟩ = some (.int .u32 s.a) := hm.h.word 0 (by decide)
  have c1 : w2.cell? ⟨b, 1, none⟩ = some (.int .u32 s.b) := hm.h.word 1 (by decide)
  have c2 : w2.cell? ⟨b, 2, none⟩ = some (.int .u32 s.c) := hm.h.word 2 (by decide)
  have c3 : w2.cell? ⟨b, 3, none⟩ = some (.int .u32 s.d) := hm.h.word 3 (by decide)
  have c4 : w2.cell? ⟨b, 4, none⟩ = some (.int .u32 s.e) := hm.h.word 4 (by decide)
  have c5 : w2.cell? ⟨b, 5, none⟩ = some (.int .u32 s.f) := hm.h.word 5 (by decide)
  have c6 : w2.cell? ⟨b, 6, none⟩ = some (.int .u32 s.g) := hm.h.word 6 (by decide)
  have c7 : w2.cell? ⟨b, 7, none⟩ = some (.int .u32 s.h) := hm.h.word 7 (by decide)
  have HM := Lib.hid hm
  clear hm
  go_quiet (fail)
  clear c0 c1 c2 c3 c4 c5 c6 c7
  have HM2 := Lib.hid (HM.out.drewN nq)
  clear HM
  generalize w2.drewN nq = w3 at HM2 ⊢
  go_wp2_with fail
  go_loopw [3, 4, 5, 6, 7, 8, 9, 10, 60] (fun v3 v4 v5 v6 v7 v8 v9 v10 v60 wr => ∃ i : Nat, ∃ t : St, i ≤ 64 ∧ Hid (roundsTo s rootsL (sched blk) i = t) ∧ v3 = .int .u32 t.a ∧ v4 = .int .u32 t.b ∧ v5 = .int .u32 t.c ∧ v6 = .int .u32 t.d ∧ v7 = .int .u32 t.e ∧ v8 = .int .u32 t.f ∧ v9 = .int .u32 t.g ∧ v10 = .int .u32 t.h ∧ v60 = .int .i64 i ∧ Hid (MW w wr A b s blk n)) (fun _ _ _ _ _ _ _ _ i _ => 64 - (intOf i).toNat)
  case atStart => exact ⟨0, s, by omega, rfl, rfl, rfl, rfl, rfl, rfl, rfl, rfl, rfl, rfl, HM2.out⟩
  case round =>
    clear HM2
    obtain ⟨i, t, hi, HT, rfl, rfl, rfl, rfl, rfl, rfl, rfl, rfl, rfl, HM⟩ := hrel
    obtain ⟨ta, tb, tc, td, te, tf, tg, th⟩ := t
    have ht : (⟨ta, tb, tc, td, te, tf, tg, th⟩ : St).ok := by rw [← HT.out]; exact roundsTo_ok hs _ _ _
    obtain ⟨la, lb, lc, ld, le, lf, lg, lh⟩ := ht
    simp only at la lb lc ld le lf lg lh
    have hw := getD_lt (sched_lt blk) (by decide) i
    have hk : rootsL.getD i 0 < 4294967296 := getD_lt (by decide) (by decide) i
    by_cases hlt : i < 64
    · have d1 := HM.out.r i hlt
      have d2 := HM.out.c i hlt
      generalize hK : rootsL.getD i 0 = K at d1 hk
      generalize hW : (sched blk).getD i 0 = W at d2 hw
      have HK := Lib.hid hK
      have HW := Lib.hid hW
      clear hK hW
      have b1 : (0 : Int) ≤ (i : Int) := by omega
      have b2 : (i : Int) < 64 := by omega
      have e1 := Sig1_bits te le
      have e0 := Sig0_bits ta la
      simp only
      go_wp2_with ((go_at_call 153; refine (rot_c _ _ (by assumption) (by decide) _).mono ?_; rintro e w' ⟨rfl, rfl⟩))
      go_quiet (fail)
      go_wp2_with ((go_at_call 153; refine (rot_c _ _ (by assumption) (by decide) _).mono ?_; rintro e w' ⟨rfl, rfl⟩))
      go_roundw
      case rel =>
        refine ⟨i + 1, (⟨ta, tb, tc, td, te, tf, tg, th⟩ : St).step K W, by omega, ?_, val_int ?_, rfl, rfl, rfl, val_int ?_, rfl, rfl, rfl, by go_num, HM.out.drewN _⟩
        · show roundsTo _ _ _ (i + 1) = _
          rw [roundsTo, HT.out, HK.out, HW.out]
        · rw [chs_bits te tf tg le lf lg, maj_bits ta tb tc la lb lc]
          exact step_a ⟨ta, tb, tc, td, te, tf, tg, th⟩ K W
        · rw [chs_bits te tf tg le lf lg]
          exact step_e ⟨ta, tb, tc, td, te, tf, tg, th⟩ K W
      case measure => simp [intOf]; omega
    · have : i = 64 := by omega
      subst this
      have HV : Hid (roundsTo s rootsL (sched blk) 64 = ⟨ta, tb, tc, td, te, tf, tg, th⟩) := HT
      generalize hv : (⟨ta, tb, tc, td, te, tf, tg, th⟩ : St) = v at HV
      have HVV := Lib.hid hv
      clear hv HT
      rw [show ((64 : Nat) : Int) = 64 from rfl]
      go_wp2_with fail
      go_loopw [134] (fun v134 wr => ∃ i : Nat, i ≤ 8 ∧ v134 = .int .i64 i ∧ LW w wr b s v blk n i) (fun i _ => 8 - (intOf i).toNat)
      case atStart => exact ⟨0, by omega, rfl, grownBy_any HM.out.g _, by rw [HM.out.h.2]; simp⟩
      case round =>
        obtain ⟨i, hi, rfl, hl⟩ := hrel
        by_cases hlt : i < 8
        · have HN := Lib.hid (hl.next hlt)
          have c := hl.cell hlt
          have f := free_of hl.h i
          have hx := getD_lt (show ∀ x ∈ s.list, x < 4294967296 from list_ok hs) (by decide) i
          clear hl
          have q := st_index v i hlt
          have hy := getD_lt (show ∀ x ∈ v.list, x < 4294967296 from list_ok (by rw [← HV.out]; exact roundsTo_ok hs _ _ _)) (by decide) i
          generalize hX : s.list.getD i 0 = x at c hx
          generalize hY : v.list.getD i 0 = y at q hy
          have HX := Lib.hid hX
          have HY := Lib.hid hY
          clear hX hY
          have b1 : (0 : Int) ≤ (i : Int) := by omega
          have b2 : (i : Int) < 8 := by omega
          go_wp2_with fail
          go_still_tail 11, (by kernel_rfl)
          go_wp2_with fail
          go_roundw
          case rel =>
            refine ⟨i + 1, by omega, by go_num, ?_⟩
            have := HN.out
            rw [add_at s v i hlt, HX.out, HY.out] at this
            exact this
          case measure => simp [intOf]; omega
        · have : i = 8 := by omega
          subst this
          have hh : HashAt wr b (s.mix blk) blk n := by
            refine ⟨H.out.1, ?_⟩
            rw [hl.h, St.mix, HV.out]
            rfl
          have hg := hl.g
          have HH := Lib.hid hh
          have HG := Lib.hid hg
          clear hl hh hg
          go_wp2_with fail
          go_end0
          exact ⟨rfl, HH.out, HG.out⟩
end Go.Proofs.YtbhoeiopckmfhaaGreatDoor

namespace Go.Proofs.YtbhoeiopckmfhaaGreatDoor

theorem blocksTo_append (s : St) (l m : List UInt8) (n : Nat) (h : 64 * n ≤ l.length) : blocksTo s (l ++ m) n = blocksTo s l n := by
  induction n with
  | zero => rfl
  | succ n ih =>
    rw [blocksTo, blocksTo, ih (by omega)]
    congr 1
    rw [List.drop_append_of_le_length (by omega), List.take_append_of_le_length (by simp; omega)]
theorem blocksTo_ok (l : List UInt8) (n : Nat) : (blocksTo start l n).ok := by
  cases n with
  | zero => exact start_ok
  | succ n => exact mix_ok _ _

/-- a state and a block that stand for what was taken -/
structure Good (l : List UInt8) (st : St) (blk : List UInt8) : Prop where
  st : st = blocksTo start l (l.length / 64)
  len : blk.length = 64
  rest : blk.take (l.length % 64) = l.drop (64 * (l.length / 64))
theorem Good.ok {l : List UInt8} {st : St} {blk : List UInt8} (h : Good l st blk) : st.ok := by rw [h.st]; exact blocksTo_ok _ _
theorem Good.start : Good [] start (List.replicate 64 0) := ⟨rfl, by simp, by simp⟩

/-- bytes laid into a block from a place on -/
def lay (blk : List UInt8) (at_ : Nat) (x : List UInt8) : List UInt8 := blk.take at_ ++ x ++ blk.drop (at_ + x.length)
theorem lay_length (blk : List UInt8) (k : Nat) (x : List UInt8) (h : k + x.length ≤ blk.length) : (lay blk k x).length = blk.length := by
  simp [lay]; omega

theorem Good.less {l : List UInt8} {st : St} {blk x : List UInt8} (h : Good l st blk) (hx : l.length % 64 + x.length < 64) : Good (l ++ x) st (lay blk (l.length % 64) x) := by
  have hl := h.len
  have e1 : (l ++ x).length / 64 = l.length / 64 := by simp; omega
  have e2 : (l ++ x).length % 64 = l.length % 64 + x.length := by simp; omega
  refine ⟨?_, ?_, ?_⟩
  · rw [e1, h.st, blocksTo_append _ _ _ _ (by omega)]
  · rw [lay_length _ _ _ (by omega), hl]
  · rw [e1, e2, List.drop_append_of_le_length (by omega), ← h.rest, lay, List.append_assoc, List.take_append]
    have e3 : (blk.take (l.length % 64)).length = l.length % 64 := by simp; omega
    rw [e3, List.take_take, Nat.min_eq_right (by omega), show l.length % 64 + x.length - l.length % 64 = x.length from by omega, List.take_left']
    rfl
theorem Good.full {l : List UInt8} {st : St} {blk x : List UInt8} (h : Good l st blk) (hx : l.length % 64 + x.length = 64) : Good (l ++ x) (st.mix (lay blk (l.length % 64) x)) (lay blk (l.length % 64) x) := by
  have hl := h.len
  have e1 : (l ++ x).length / 64 = l.length / 64 + 1 := by simp; omega
  have e2 : (l ++ x).length % 64 = 0 := by simp; omega
  have e3 : lay blk (l.length % 64) x = (l ++ x).drop (64 * (l.length / 64)) := by
    rw [lay, hx, List.drop_of_length_le (by omega), List.append_nil, h.rest, List.drop_append_of_le_length (by omega)]
  refine ⟨?_, ?_, ?_⟩
  · rw [e1, blocksTo, blocksTo_append _ _ _ _ (by omega), ← h.st]
    congr 1
    rw [← e3, List.take_of_length_le (by rw [lay_length _ _ _ (by omega)]; omega)]
  · rw [lay_length _ _ _ (by omega), hl]
  · rw [e2, List.take_zero, e1, List.drop_of_length_le (by simp; omega)]

/-- the padding, zero by zero -/
theorem pad_parts (l : List UInt8) (k : Nat) (hk : (l.length + 1 + k) % 64 = 56) (hk2 : k ≤ (119 - l.length % 64) % 64) : (l ++ 128 :: List.replicate k 0) ++ be (8 * l.length) 8 = pad l := by
  have : k = (119 - l.length % 64) % 64 := by omega
  rw [pad, ← this]
theorem sha_of_took {l : List UInt8} {st : St} {blk : List UInt8} (h : Good (pad l) st blk) : st.bytes = shaL l := by
  rw [shaL, h.st, pad_length, Nat.mul_div_cancel_left _ (by decide)]
end Go.Proofs.YtbhoeiopckmfhaaGreatDoor

namespace Go.Proofs.YtbhoeiopckmfhaaGreatDoor
open Go.RowKit
attribute [local irreducible] sched

/-- block b is a hash that has taken these bytes -/
def Took (w : World) (b : Nat) (l : List UInt8) : Prop := 1 < b ∧ RootsAt w ∧ ∃ st blk, Good l st blk ∧ HashAt w b st blk l.length
theorem Took.lt {w : World} {b : Nat} {l : List UInt8} (h : Took w b l) : b < w.heap.size := by
  obtain ⟨_, _, _, _, _, h⟩ := h
  exact h.lt
theorem Took.kept {w w' : World} {row : Option Nat} {b : Nat} {l : List UInt8} (h : Took w b l) (hg : w.grownBy w' row) (hb : row ≠ some b) (hr : row ≠ some 1) : Took w' b l := by
  obtain ⟨h1, h2, st, blk, h3, h4⟩ := h
  exact ⟨h1, h2.kept hg hr, st, blk, h3, h4.kept hg hb⟩

theorem HashAt.drew {w : World} {b : Nat} {s : St} {blk : List UInt8} {n : Nat} (h : HashAt w b s blk n) : HashAt w.drew b s blk n := h
theorem HashAt.sized {w : World} {b : Nat} {s : St} {blk : List UInt8} {n : Nat} (h : HashAt w b s blk n) (m : Nat) : HashAt (w.setCell ⟨b, 72, none⟩ (.int .u64 m)) b s blk m := by
  refine ⟨h.1, ?_⟩
  rw [heap_setCell h.2, List.setIfInBounds_toArray]
  congr 2
  have h1 := h.1
  congr 1
  rw [List.set_append_right _ _ (by simp [u32s_length, St.list_length]), u32s_length, St.list_length, List.set_append_right _ _ (by simp [u8s_length, h1]), u8s_length, h1]
  rfl
theorem HashAt.laid {w : World} {b : Nat} {s : St} {blk : List UInt8} {n : Nat} (h : HashAt w b s blk n) (i : Nat) (c : UInt8) (hi : i < 64) : HashAt (w.setCell ⟨b, 8 + i, none⟩ (.int .u8 c.toNat)) b s (lay blk i [c]) n := by
  have h1 := h.1
  refine ⟨by rw [lay_length _ _ _ (by simp; omega)]; exact h1, ?_⟩
  rw [heap_setCell h.2, List.setIfInBounds_toArray]
  congr 2
  congr 1
  rw [List.set_append_right _ _ (by simp [u32s_length, St.list_length]), u32s_length, St.list_length, List.set_append_left _ _ (by rw [u8s_length]; omega)]
  congr 2
  rw [show 8 + i - 8 = i from by omega, u8s, u8s, lay]
  rw [List.set_eq_take_append_cons_drop, if_pos (by simp; omega)]
  simp
theorem Took.put {w' : World} {b : Nat} {l x : List UInt8} {st : St} {blk : List UInt8} (hb : 1 < b) (hr : RootsAt w') (hg : Good (l ++ x) st blk) (hh : HashAt w' b st blk (l.length + x.length)) : Took w' b (l ++ x) :=
  ⟨hb, hr, st, blk, hg, by rw [List.length_append]; exact hh⟩

set_option maxRecDepth 100000 in
set_option maxHeartbeats 800000 in
theorem writeByte_any (w : World) (b : Nat) (l : List UInt8) (c : UInt8) (h : Took w b l) (hl : l.length ≤ 1152921504606846976) :
    Calls Tryz.prog 56 #[.pointer (some ⟨b, 0, none⟩), .int .u8 c.toNat] w fun e w' => e = .returned (.tuple #[]) ∧ Took w' b (l ++ [c]) ∧ w.grownBy w' (some b) := by
  obtain ⟨hb, hr, st, blk, hg, hh⟩ := h
  have hm : l.length % 64 < 64 := Nat.mod_lt _ (by decide)
  have cs := hh.size
  have fs := free_of hh.2 72
  have cb := hh.byte _ hm
  have fb := free_of hh.2 (8 + l.length % 64)
  have HA := Lib.hid ((hh.laid (l.length % 64) c hm).sized (l.length + 1))
  have HG := Lib.hid hg
  have HR := Lib.hid hr
  clear hh hg hr
  obtain ⟨n, hn⟩ : ∃ n, l.length = n := ⟨_, rfl⟩
  rw [hn] at hm cs cb fb HA hl
  obtain ⟨i, hi⟩ : ∃ i, n % 64 = i := ⟨_, rfl⟩
  rw [hi] at hm cb fb HA
  rw [show ((n + 1 : Nat) : Int) = (n : Int) + 1 from by simp] at HA
  have hi2 : (n : Int) % 64 = (i : Int) := by omega
  have hi3 : (n : Int).tmod 64 = (i : Int) := by rw [Int.tmod_eq_emod_of_nonneg (by omega)]; exact hi2
  have ht : ((n : Int) + 1) % 64 = if i = 63 then 0 else (i : Int) + 1 := by split <;> omega
  have HN := Lib.hid hn
  have HI := Lib.hid hi
  clear hn hi
  have b1 : (0 : Int) ≤ (i : Int) := by omega
  have b2 : (i : Int) < 64 := by omega
  have hgr : Hid (w.grownBy ((w.setCell ⟨b, 8 + i, none⟩ (.int .u8 c.toNat)).setCell ⟨b, 72, none⟩ (.int .u64 ((n : Int) + 1))).drew (some b)) := grownBy_drew (grownBy_setCell (grownBy_setCell (World.grownBy.refl _ _) _ _) _ _)
  have HR2 := Lib.hid (HR.out.kept hgr.out (by simp; omega))
  by_cases h63 : i = 63
  · rw [if_pos h63] at ht
    have hE : (((n : Int) + 1) % 64 == 0) = true := by rw [ht]; rfl
    have H63 := Lib.hid h63
    clear h63 ht
    go_enter Tryz.func56, Tryz.ntmps56
    go_wp2_with fail
    go_still_tail 10, (by kernel_rfl)
    go_wp2_with fail
    refine (mix_any _ b st _ _ HA.out.drew HG.out.ok HR2.out (by omega)).mono ?_
    rintro e w' ⟨rfl, h1, h2⟩
    have H1 := Lib.hid h1
    have H2 := Lib.hid h2
    clear h1 h2
    go_wp2_with fail
    go_end0
    have hlen := HN.out
    have hI := HI.out
    have h6 := H63.out
    have hG := HG.out.full (x := [c]) (by simp; omega)
    rw [hlen, hI] at hG
    refine ⟨rfl, Took.put hb (HR2.out.kept H2.out (by simp; omega)) hG ?_, grownBy_trans hgr.out H2.out⟩
    rw [hlen]
    exact H1.out
  · rw [if_neg h63] at ht
    have hE : (((n : Int) + 1) % 64 == 0) = false := by rw [ht, beq_eq_false_iff_ne]; omega
    have H63 := Lib.hid h63
    clear h63 ht
    go_enter Tryz.func56, Tryz.ntmps56
    go_wp2_with fail
    go_still_tail 10, (by kernel_rfl)
    go_wp2_with fail
    go_end0
    have hlen := HN.out
    have hI := HI.out
    have h6 := H63.out
    have hG := HG.out.less (x := [c]) (by simp; omega)
    rw [hlen, hI] at hG
    refine ⟨rfl, Took.put hb HR2.out hG ?_, hgr.out⟩
    rw [hlen]
    exact HA.out.drew

/-- 'copy(dst, s)' from a text, as much as goes in: dst lies in row g from place off on -/
theorem run_copy_part {P : Program} (w : World) (dT sT ty elem : TypeId) (g o dLen dCap n : Nat) (s : ByteArray) (cur : List Value) (t : TypeId)
    (hu : P.underlying dT = some (.slice elem)) (hs : (P.info? elem).map (·.size) = some 1) (hg : w.heap[g]? = some (.cells cur.toArray t (0, 0))) (hn : Nat.min s.size dLen = n) (hfit : o + n ≤ cur.length) :
    (Builtin.copy_ #[dT, sT] ty #[.slice (some ⟨g, o, none⟩) dLen dCap, .string s]).run P w =
      .ok (goInt n) (w.setRow g (cur.take o ++ u8s (s.data.toList.take n) ++ cur.drop (o + n)).toArray) := by
  have hns : n ≤ s.size := by rw [← hn]; exact Nat.min_le_left _ _
  have hlen : (u8s (s.data.toList.take n)).length = n := by simp [u8s_length]; omega
  have hst := run_storeCells_at P g o t (u8s (s.data.toList.take n)) 0 cur.toArray w hg (by rw [hlen]; simpa using hfit) (by
    intro v hv
    obtain ⟨x, _, rfl⟩ := List.mem_map.1 hv
    rfl)
  have htk : List.take n (List.map (fun b : UInt8 => Value.int IntKind.u8 (b.toNat : Int)) s.data.toList) = u8s (s.data.toList.take n) := by rw [← List.map_take]; rfl
  rw [hlen] at hst
  simp only [Nat.add_zero] at hst
  cases hq : P.info? elem with
  | none => simp [hq] at hs
  | some i =>
    simp [Builtin.copy_, run_underlying hu, Builtin.lenOf, Builtin.firstCells, sizeOf, typeInfo, hq, hn]
    rw [htk, hst]
    simp [Result.andThen]
theorem wpList_copy_part {P : Program} {ops : Array Oper} {rest : List Oper} {o : Oper} {a : Act} {w : World} {Q : Exit → Act → World → Prop} (hgd : o.guard = none) (d s : Operand) (dT sT : TypeId)
    (ho : o.op = .call { callee := .builtin .copy, args := #[d, s], argTypes := #[dT, sT] }) (elem : TypeId) (hu : P.underlying dT = some (.slice elem)) (hsz : (P.info? elem).map (·.size) = some 1)
    (g off dLen dCap n : Nat) (x : ByteArray) (hd : a.eval d = .slice (some ⟨g, off, none⟩) dLen dCap) (hs : a.eval s = .string x)
    (cur : List Value) (t : TypeId) (hg : w.heap[g]? = some (.cells cur.toArray t (0, 0))) (hn : Nat.min x.size dLen = n) (hfit : off + n ≤ cur.length)
    (h : ∀ w', Hid (w'.heap[g]? = some (.cells (cur.take off ++ u8s (x.data.toList.take n) ++ cur.drop (off + n)).toArray t (0, 0))) → Hid (w.grownBy w' (some g)) → wpList P ops Q rest (a.put o.dst (goInt n)) w') :
    wpList P ops Q (o :: rest) a w :=
  wpList_plain hgd fun _ hK => by
    have hrun := run_copy_part (P := P) w dT sT o.type elem g off dLen dCap n x cur t hu hsz hg hn hfit
    unfold Oper.wp
    simp [execOp, ho, resolve, invoke, builtin, hd, hs, hrun, Result.andThen]
    refine hK _ _ (h _ (show _ = _ from ?_) (show World.grownBy _ _ _ from ⟨rfl, rfl, rfl, by simp [World.setRow], fun k _ hk => setRow_other w g k _ (by intro e; exact hk (by rw [e]))⟩))
    rw [setRow_heap w g _ _ t _ hg]
    simp

theorem HashAt.copied {w w' : World} {b : Nat} {s : St} {blk : List UInt8} {n : Nat} (h : HashAt w b s blk n) (i : Nat) (x : List UInt8) (hi : i + x.length ≤ 64)
    (hw : w'.heap[b]? = some (.cells ((u32s s.list ++ (u8s blk ++ [Value.int .u64 (n : Int)])).take (8 + i) ++ u8s x ++ (u32s s.list ++ (u8s blk ++ [Value.int .u64 (n : Int)])).drop (8 + i + x.length)).toArray 190 (0, 0))) :
    HashAt w' b s (lay blk i x) n := by
  have h1 := h.1
  refine ⟨by rw [lay_length _ _ _ (by omega)]; exact h1, ?_⟩
  rw [hw]
  congr 3
  have hl : (u32s s.list).length = 8 := by rw [u32s_length, St.list_length]
  have hb : (u8s blk).length = 64 := by rw [u8s_length, h1]
  rw [List.take_append, hl, List.take_of_length_le (by omega), show 8 + i - 8 = i from by omega, List.take_append_of_le_length (by omega)]
  rw [List.drop_append, hl, List.drop_of_length_le (by omega), List.nil_append, show 8 + i + x.length - 8 = i + x.length from by omega, List.drop_append_of_le_length (by omega)]
  simp [u8s, lay, List.map_take, List.map_drop]

/-- a hash's block, from a place on -/
theorem slice_block (b i : Nat) (hi : i < 64) (w : World) : (Instr.sliceAt 125 (.pointer (some ⟨b, 8, none⟩)) (some (.int .u64 i)) none none).run Tryz.prog w = .ok (.slice (some ⟨b, 8 + i, none⟩) (64 - i : Nat) (64 - i : Nat)) w := by
  have hl : Tryz.prog.arrayLen 125 = 64 := by kernel_rfl
  have he : Tryz.prog.elem 125 = 5 := by kernel_rfl
  obtain ⟨i0, h0⟩ : ∃ i0, Tryz.prog.info? 5 = some i0 := Option.isSome_iff_exists.1 (by kernel_rfl)
  have hc : Tryz.prog.cellsOf 5 = 1 := by kernel_rfl
  rw [run_sliceAt_array_l w 125 ⟨b, 8, none⟩ (by rw [hl, he]; exact Tryz.underlying125) .u64 i (by omega) (by rw [hl]; omega), hl, he, run_sizeOf w h0, hc]
  simp only [Result.andThen, slicedAt, Int.toNat_natCast]
  rw [if_neg (by omega)]
  simp [Addr.add]
/-- a text's length -/
def strLen : Value → Nat
  | .string t => t.size
  | _ => 0
theorem text_drop (t : ByteArray) (m : Nat) : (t.extract m t.size).data.toList = t.data.toList.drop m := by
  simp
  exact List.take_of_length_le (by simp)
theorem text_drop_size (t : ByteArray) (m : Nat) (h : m ≤ t.size) : (t.extract m t.size).size = t.size - m := by simp
/-- what was written so far of a text -/
theorem took_take (w : World) (b : Nat) (l : List UInt8) (x : List UInt8) (k n : Nat) (h : Took w b (l ++ x.take k ++ (x.drop k).take n)) : Took w b (l ++ x.take (k + n)) := by
  rw [List.append_assoc] at h
  rw [List.take_add]
  exact h

set_option maxRecDepth 100000 in
set_option maxHeartbeats 1600000 in
theorem write_any (w : World) (b : Nat) (l : List UInt8) (s : ByteArray) (h : Took w b l) (hl : l.length + s.size ≤ 1152921504606846976) :
    Calls Tryz.prog 58 #[.pointer (some ⟨b, 0, none⟩), .string s] w fun e w' => e = .returned (.tuple #[]) ∧ Took w' b (l ++ s.data.toList) ∧ w.grownBy w' (some b) := by
  have H := Lib.hid h
  clear h
  go_enter Tryz.func58, Tryz.ntmps58
  go_wp2_with fail
  go_loopw [1] (fun v wr => ∃ t : ByteArray, ∃ k : Nat, k ≤ s.size ∧ v = .string t ∧ Hid (t.data.toList = s.data.toList.drop k) ∧ t.size = s.size - k ∧ Hid (Took wr b (l ++ s.data.toList.take k)) ∧ Hid (w.grownBy wr (some b))) (fun v _ => strLen v)
  case atStart => exact ⟨s, 0, Nat.zero_le _, rfl, rfl, rfl, by simpa [Hid] using H.out, World.grownBy.refl _ _⟩
  case round =>
    obtain ⟨t, k, hk, rfl, HT, hts, HK, HG⟩ := hrel
    by_cases hlt : k < s.size
    · obtain ⟨hb, hr, st, blk, hg, hh⟩ := HK.out
      have he : t.toList.isEmpty = false := by rw [emp, decide_eq_false_iff_not]; omega
      have he2 : (!t.toList.isEmpty) = true := by rw [he]; rfl
      have cs := hh.size
      have hll : (l ++ s.data.toList.take k).length = l.length + k := by simp; omega
      rw [hll] at cs hh
      have fs := free_of hh.2 72
      obtain ⟨n, hn⟩ : ∃ n, l.length + k = n := ⟨_, rfl⟩
      rw [hn] at cs hh hll
      obtain ⟨i, hi⟩ : ∃ i, n % 64 = i := ⟨_, rfl⟩
      have hi2 : (n : Int) % 64 = (i : Int) := by omega
      have hi3 : (n : Int).tmod 64 = (i : Int) := by rw [Int.tmod_eq_emod_of_nonneg (by omega)]; exact hi2
      have hm : i < 64 := by omega
      have hn64 : n ≤ 1152921504606846976 := by omega
      have b1 : (0 : Int) ≤ (i : Int) := by omega
      have b2 : (i : Int) < 64 := by omega
      have HH := Lib.hid hh
      have HN := Lib.hid hn
      have HLL := Lib.hid hll
      have HI := Lib.hid hi
      have HTS := Lib.hid hts
      clear hh hn hll hi hts
      have hsl := slice_block b i hm
      obtain ⟨m, hmin⟩ : ∃ m, Nat.min t.size (64 - i) = m := ⟨_, rfl⟩
      have hm1 : m ≤ t.size := by rw [← hmin]; exact Nat.min_le_left _ _
      have hm2 : m ≤ 64 - i := by rw [← hmin]; exact Nat.min_le_right _ _
      have hm0 : 0 < m := by
        rw [← hmin]
        have : 0 < t.size := by have := HTS.out; omega
        exact Nat.lt_min.2 ⟨this, by omega⟩
      have hxl : (t.data.toList.take m).length = m := by simp; omega
      have HMIN := Lib.hid hmin
      have HXL := Lib.hid hxl
      clear hmin hxl
      have hE : ∃ t : Bool, (((n : Int) + m) % 64 == 0) = t ∧ (t = true ↔ i + m = 64) := by
        refine ⟨_, rfl, ?_⟩
        rw [beq_iff_eq]
        omega
      obtain ⟨tb, hE, hEt⟩ := hE
      have HET := Lib.hid hEt
      clear hEt
      cases tb
      all_goals
        go_wp2_with (first
          | ((refine wpList_copy_part (by rfl) (.tmp 17) (.tmp 18) 23 9 (by rfl) 5 Tryz.underlying23 (by kernel_rfl) b (8 + i) (64 - i) (64 - i) m t (by rfl) (by rfl) _ 190 (by exact HH.out.2) (by exact HMIN.out) (by simp [u32s_length, u8s_length, HH.out.1, St.list_length]; omega) ?_)
             intro w2 HC HG2
             have HH2 := Lib.hid (HH.out.copied i (t.data.toList.take m) (by have := HXL.out; omega) (by rw [HXL.out]; exact HC.out))
             have cs2 := HH2.out.size
             have fs2 := free_of HH2.out.2 72
             clear HC))
      · go_roundw
        case rel =>
          have hT := HET.out
          have hG := hg.less (x := t.data.toList.take m) (by rw [HLL.out, HI.out, HXL.out]; have : ¬ i + m = 64 := fun e => by simpa using hT.2 e
                                                             omega)
          rw [HLL.out, HI.out] at hG
          have g3 := grownBy_trans HG2.out (grownBy_setCell (World.grownBy.refl _ _) 72 (.int .u64 ((n : Int) + m)))
          refine ⟨_, k + m, by have := HTS.out; omega, rfl, ?_, ?_, ?_, grownBy_trans HG.out g3⟩
          · show _ = _
            rw [text_drop, HT.out, List.drop_drop]
          · rw [text_drop_size _ _ hm1, HTS.out]; omega
          · refine took_take _ b l _ k m ?_
            rw [← HT.out]
            refine Took.put hb (hr.kept g3 (by simp; omega)) hG ?_
            rw [HLL.out, HXL.out]
            exact HH2.out.sized (n + m)
        case measure =>
          show (t.extract m t.size).size < t.size
          rw [text_drop_size _ _ hm1]
          omega
      · have HR2 := Lib.hid (hr.kept (grownBy_trans HG2.out (grownBy_setCell (World.grownBy.refl _ _) 72 (.int .u64 ((n : Int) + m)))) (by simp; omega))
        refine (mix_any _ b st _ _ (HH2.out.sized (n + m)) hg.ok HR2.out (by omega)).mono ?_
        rintro e w3 ⟨rfl, h1, h2⟩
        have H1 := Lib.hid h1
        have H2 := Lib.hid h2
        clear h1 h2
        go_wp2_with fail
        go_roundw
        case rel =>
          have hT := HET.out
          have hG := hg.full (x := t.data.toList.take m) (by rw [HLL.out, HI.out, HXL.out]; exact hT.1 (by simp))
          rw [HLL.out, HI.out] at hG
          have g3 := grownBy_trans (grownBy_trans HG2.out (grownBy_setCell (World.grownBy.refl _ _) 72 (.int .u64 ((n : Int) + m)))) H2.out
          refine ⟨_, k + m, by have := HTS.out; omega, rfl, ?_, ?_, ?_, grownBy_trans HG.out g3⟩
          · show _ = _
            rw [text_drop, HT.out, List.drop_drop]
          · rw [text_drop_size _ _ hm1, HTS.out]; omega
          · refine took_take _ b l _ k m ?_
            rw [← HT.out]
            refine Took.put hb (hr.kept g3 (by simp; omega)) hG ?_
            rw [HLL.out, HXL.out]
            exact H1.out
        case measure =>
          show (t.extract m t.size).size < t.size
          rw [text_drop_size _ _ hm1]
          omega
    · have he : t.toList.isEmpty = true := by rw [emp, decide_eq_true_eq]; omega
      have he2 : (!t.toList.isEmpty) = false := by rw [he]; rfl
      have : k = s.size := by omega
      subst this
      have hK := HK.out
      rw [List.take_of_length_le (by simp)] at hK
      have HK2 := Lib.hid hK
      clear hK HK HT hts hlt
      go_wp2_with fail
      go_end0
      exact ⟨rfl, HK2.out, HG.out⟩

theorem be_take (n k i : Nat) (h : i < k) : (be n k).take (i + 1) = (be n k).take i ++ [UInt8.ofNat (n / 256 ^ (k - 1 - i) % 256)] := by
  have hl : i < (be n k).length := by rw [be_length]; exact h
  rw [List.take_succ_eq_append_getElem hl]
  congr 2
  induction k generalizing n i with
  | zero => omega
  | succ k ih =>
    have e := be_cons n k
    cases i with
    | zero => simp [e]
    | succ i =>
      have := ih n i (by omega) (by rw [be_length]; omega)
      simp only [e, List.getElem_cons_succ]
      rw [this, show k + 1 - 1 - (i + 1) = k - 1 - i from by omega]

theorem byte_at (n j : Nat) : (n : Int) / 2 ^ (8 * j) % 256 = ((UInt8.ofNat (n / 256 ^ j % 256)).toNat : Int) := by
  have e : (UInt8.ofNat (n / 256 ^ j % 256)).toNat = n / 256 ^ j % 256 := by simp
  have p : (2 : Int) ^ (8 * j) = 256 ^ j := by rw [Int.pow_mul]; rfl
  rw [e, p]
  simp

set_option maxRecDepth 100000 in
set_option maxHeartbeats 800000 in
theorem writeNum_any (w : World) (b : Nat) (l : List UInt8) (n k : Nat) (h : Took w b l) (hn : n ≤ 18446744073709551615) (hk : k ≤ 8) (hl : l.length + 8 ≤ 1152921504606846976) :
    Calls Tryz.prog 57 #[.pointer (some ⟨b, 0, none⟩), .int .u64 n, .int .i64 k] w fun e w' => e = .returned (.tuple #[]) ∧ Took w' b (l ++ be n k) ∧ w.grownBy w' (some b) := by
  have H := Lib.hid h
  clear h
  go_enter Tryz.func57, Tryz.ntmps57
  go_wp2_with fail
  go_loopw [8] (fun v wr => ∃ i : Nat, i ≤ k ∧ v = .int .i64 i ∧ Hid (Took wr b (l ++ (be n k).take i)) ∧ Hid (w.grownBy wr (some b))) (fun v _ => k - (intOf v).toNat)
  case atStart => exact ⟨0, Nat.zero_le _, rfl, by simpa [Hid] using H.out, World.grownBy.refl _ _⟩
  case round =>
    obtain ⟨i, hi, rfl, HT, HG⟩ := hrel
    by_cases hlt : i < k
    · obtain ⟨j, hj⟩ : ∃ j, k - 1 - i = j := ⟨_, rfl⟩
      have hj2 : (k : Int) - 1 - (i : Int) = (j : Int) := by omega
      have hj3 : j ≤ 7 := by omega
      have HJ := Lib.hid hj
      clear hj
      go_wp2_with fail
      rw [byte_at n j]
      refine (writeByte_any _ b _ _ HT.out (by have : (l ++ (be n k).take i).length ≤ l.length + 8 := by simp [be_length]; omega
                                               omega)).mono ?_
      rintro e w' ⟨rfl, h1, h2⟩
      have H1 := Lib.hid h1
      have H2 := Lib.hid h2
      clear h1 h2
      go_wp2_with fail
      go_roundw
      case rel =>
        refine ⟨i + 1, by omega, by go_num, ?_, grownBy_trans HG.out H2.out⟩
        show Took _ _ _
        rw [be_take n k i hlt, HJ.out, ← List.append_assoc]
        exact H1.out
      case measure => simp [intOf]; omega
    · have : i = k := by omega
      subst this
      have hT := HT.out
      rw [List.take_of_length_le (by rw [be_length]; omega)] at hT
      have HT2 := Lib.hid hT
      clear hT HT
      go_wp2_with fail
      go_end0
      exact ⟨rfl, HT2.out, HG.out⟩
end Go.Proofs.YtbhoeiopckmfhaaGreatDoor

namespace Go.Proofs.YtbhoeiopckmfhaaGreatDoor
open Go.RowKit
attribute [local irreducible] sched

/-- the starting state in memory -/
def StartAt (w : World) : Prop := w.rangeAt 0 0 (u32s start.list)
theorem StartAt.kept {w w' : World} {row : Option Nat} (h : StartAt w) (hg : w.grownBy w' row) (hr : row ≠ some 0) : StartAt w' := fun j v hv => by
  have h0 := h j v hv
  have hl : 0 < w.heap.size := World.block_lt_of_cell? w _ h0
  have := hg.block 0 hl (fun e => hr e.symm)
  rw [← h0]
  unfold World.cell?
  simp only [this]

/-- the zero hash's cells (where the seat's loader names none) -/
def hashZ : Array Value := (u32s (List.replicate 8 0) ++ (u8s (List.replicate 64 0) ++ [Value.int .u64 0])).toArray
theorem hashZ_size : hashZ.size = 73 := by kernel_rfl
theorem hashZ_ne : ¬ hashZ = #[] := fun e => by have := hashZ_size; rw [e] at this; cases this
theorem zero_hash (w : World) : (zeroValue 190).run Tryz.prog w = .ok (.agg hashZ) w := by
  obtain ⟨i, hi, hz⟩ := Option.map_eq_some_iff.1 (show (Tryz.prog.info? 190).map (·.zero) = some (some (.agg hashZ)) by kernel_rfl)
  simp [zeroValue, typeInfo, hi, hz]

set_option maxRecDepth 100000 in
set_option maxHeartbeats 800000 in
theorem newHash_any (w : World) (hs : StartAt w) (hr : RootsAt w) :
    Calls Tryz.prog 55 #[] w fun e w' => e = .returned (.pointer (some ⟨w.heap.size, 0, none⟩)) ∧ Took w' w.heap.size [] ∧ w.grownBy w' none := by
  have HS := Lib.hid hs
  have HR := Lib.hid hr
  clear hs hr
  have hz1 := hashZ_size
  have hz2 := hashZ_ne
  have hz3 := zero_hash
  go_enter Tryz.func55, Tryz.ntmps55
  go_wp2_with (refine wpList_load_mid (by rfl) 188 (.global 0) (by rfl) 0 0 (by rfl) (u32s start.list) (.array 8 161) (by exact HS.out) Tryz.underlying188 (by rfl) (by kernel_rfl) ?_)
  go_ret
  first
    | (have hc : List.foldl (fun (cs : Array Value) x => cs.setIfInBounds x.snd x.fst) hashZ (u32s start.list).zipIdx = (u32s start.list ++ (u8s (List.replicate 64 0) ++ [Value.int .u64 (([] : List UInt8).length : Nat)])).toArray := by kernel_rfl
       rw [hc])
    | (have hc : List.foldl (fun (cs : Array Value) x => cs.setIfInBounds x.snd x.fst) Tryz.zeroCells190 (u32s start.list).zipIdx = (u32s start.list ++ (u8s (List.replicate 64 0) ++ [Value.int .u64 (([] : List UInt8).length : Nat)])).toArray := by kernel_rfl
       rw [hc])
  have hg : w.grownBy (w.alloc (.cells (u32s start.list ++ (u8s (List.replicate 64 0) ++ [Value.int .u64 (([] : List UInt8).length : Nat)])).toArray 190)) none := World.grownBy_alloc _ _ _
  refine ⟨rfl, ⟨World.block_lt_of_cell? w _ (HR.out 0 (by decide)), HR.out.kept hg (by simp), start, List.replicate 64 0, Good.start, by simp, ?_⟩, hg⟩
  exact heap_alloc_at _ _ _ rfl

theorem St.bytes_length (s : St) : s.bytes.length = 32 := by simp [St.bytes, St.list, be_length]
/-- the digest's bytes so far -/
def bytesZ (s : St) (k : Nat) : List UInt8 := s.bytes.take k ++ List.replicate (32 - k) 0
theorem bytesZ_length (s : St) (k : Nat) (h : k ≤ 32) : (bytesZ s k).length = 32 := by simp [bytesZ, St.bytes_length]; omega
theorem be4_at (x j : Nat) (h : j < 4) : (be x 4)[j]? = some (UInt8.ofNat (x / 256 ^ (3 - j) % 256)) := by
  have h1 := be_take x 4 j h
  have hl : j < (be x 4).length := by rw [be_length]; exact h
  rw [List.take_succ_eq_append_getElem hl] at h1
  have h2 := List.append_cancel_left h1
  rw [List.getElem?_eq_getElem hl]
  simpa using h2
theorem bytes_at (s : St) (i j : Nat) (hi : i < 8) (hj : j < 4) : s.bytes[4 * i + j]? = some (UInt8.ofNat (s.list.getD i 0 / 256 ^ (3 - j) % 256)) := by
  have e : ∀ (l : List Nat) (i : Nat), i < l.length → (l.flatMap fun x => be x 4)[4 * i + j]? = (be (l.getD i 0) 4)[j]? := by
    intro l
    induction l with
    | nil => intro i h; cases h
    | cons x l ih =>
      intro i h
      cases i with
      | zero =>
        rw [List.flatMap_cons, List.getElem?_append_left (by rw [be_length]; omega)]
        simp
      | succ i =>
        rw [List.flatMap_cons, List.getElem?_append_right (by rw [be_length]; omega), be_length, show 4 * (i + 1) + j - 4 = 4 * i + j from by omega, ih i (by simpa using h)]
        simp
  rw [St.bytes, e s.list i hi, be4_at _ _ hj]
theorem bytesZ_succ (s : St) (i j : Nat) (hi : i < 8) (hj : j < 4) : (bytesZ s (4 * i + j)).set (4 * i + j) (UInt8.ofNat (s.list.getD i 0 / 256 ^ (3 - j) % 256)) = bytesZ s (4 * i + (j + 1)) := by
  have hl : 4 * i + j < s.bytes.length := by rw [St.bytes_length]; omega
  have hb := bytes_at s i j hi hj
  rw [List.getElem?_eq_getElem hl] at hb
  have hb := Option.some.inj hb
  have ht : (s.bytes.take (4 * i + j)).length = 4 * i + j := by simp; omega
  rw [bytesZ, bytesZ, ← Nat.add_assoc, List.take_succ_eq_append_getElem hl, hb, List.set_append_right _ _ (by omega), ht, Nat.sub_self,
    show 32 - (4 * i + j) = (32 - (4 * i + j + 1)) + 1 from by omega, List.replicate_succ, List.set_cons_zero, List.append_assoc]
  rfl
theorem u8s_set (l : List UInt8) (i : Nat) (x : UInt8) : u8s (l.set i x) = (u8s l).set i (.int .u8 x.toNat) := by simp [u8s, List.map_set]

/-- 'string(b[:])', b a row of bytes -/
theorem row_string {w : World} {g : Nat} {l : List UInt8} {t : TypeId} (h : w.heap[g]? = some (.cells (u8s l).toArray t (0, 0))) (cap : Nat) :
    (convert 23 9 (.slice (some ⟨g, 0, none⟩) l.length cap)).run Tryz.prog w = .ok (.string (str l)) w := by
  refine run_convert_bytes_back w 23 9 5 _ cap l Tryz.underlying23 Tryz.underlying5 Tryz.underlying9 fun j hj => ?_
  rw [show Addr.add ⟨g, 0, none⟩ j = (⟨g, j, none⟩ : Addr) from by simp [Addr.add]; omega, cell_of h, List.getElem?_toArray]
  simp [u8s, List.getElem?_eq_getElem hj]

theorem sum_index (v : St) (i : Nat) (hi : i < 8) (w : World) : (Instr.index 188 (.agg (u32s v.list).toArray) (.int .i64 i)).run Tryz.prog w = .ok (.int .u32 (v.list.getD i 0 : Nat)) w := st_index v i hi w
/-- what sum's second part keeps -/
structure MS (w wr : World) (b B : Nat) (s : St) (k : Nat) : Prop where
  g : w.grownBy wr (some b)
  c : wr.heap[B]? = some (.cells (u8s (bytesZ s k)).toArray 191 (0, 0))

theorem MS.put {w wr : World} {b B : Nat} {s : St} {i j : Nat} (h : MS w wr b B s (4 * i + j)) (hi : i < 8) (hj : j < 4) (hB : w.heap.size ≤ B) :
    MS w (wr.setCell ⟨B, 4 * i + j, none⟩ (.int .u8 (UInt8.ofNat (s.list.getD i 0 / 256 ^ (3 - j) % 256)).toNat)) b B s (4 * i + (j + 1)) := by
  refine ⟨grownBy_setNew h.g hB _ _, ?_⟩
  rw [heap_setCell h.c, List.setIfInBounds_toArray, ← u8s_set, bytesZ_succ s i j hi hj]
theorem slice_sum (B : Nat) (w : World) : (Instr.sliceAt 191 (.pointer (some ⟨B, 0, none⟩)) none none none).run Tryz.prog w = .ok (.slice (some ⟨B, 0, none⟩) 32 32) w := by
  have hl : Tryz.prog.arrayLen 191 = 32 := by kernel_rfl
  have he : Tryz.prog.elem 191 = 5 := by kernel_rfl
  obtain ⟨i0, h0⟩ : ∃ i0, Tryz.prog.info? 5 = some i0 := Option.isSome_iff_exists.1 (by kernel_rfl)
  have hc : Tryz.prog.cellsOf 5 = 1 := by kernel_rfl
  rw [run_sliceAt_array_all w 191 ⟨B, 0, none⟩ (by rw [hl, he]; exact Tryz.underlying191), hl, he, run_sizeOf w h0, hc]
  simp [Result.andThen, slicedAt, Addr.add]

set_option maxRecDepth 100000 in
set_option maxHeartbeats 1600000 in
theorem sum_any (w : World) (b : Nat) (l : List UInt8) (h : Took w b l) (hl : l.length ≤ 1000000000000000000) :
    Calls Tryz.prog 59 #[.pointer (some ⟨b, 0, none⟩)] w fun e w' => e = .returned (.string (str (shaL l))) ∧ w.grownBy w' (some b) := by
  have cs := (let ⟨_, _, _, _, _, h⟩ := h; h.size)
  have HT := Lib.hid h
  have hbl := h.lt
  clear h
  have HP : Hid (∃ K, K = (119 - l.length % 64) % 64) := ⟨_, rfl⟩
  obtain ⟨K, hK⟩ := HP.out
  have HK := Lib.hid hK
  clear hK HP
  go_enter Tryz.func59, Tryz.ntmps59
  go_wp2_with fail
  refine (writeByte_any _ b l 128 HT.out (by omega)).mono ?_
  rintro e w1 ⟨rfl, h1, g1⟩
  have H1 := Lib.hid h1
  have G1 := Lib.hid g1
  clear h1 g1 cs
  go_wp2_with fail
  go_loopg [15] K (fun g _ wr => ∃ k : Nat, k + g = K ∧ Hid (Took wr b (l ++ 128 :: List.replicate k 0)) ∧ Hid (w.grownBy wr (some b)))
  case atStart => exact ⟨0, by omega, H1.out, G1.out⟩
  case round =>
    clear H1 G1
    obtain ⟨k, hk, H1, G1⟩ := hrel
    obtain ⟨n, hn⟩ : ∃ n, (l ++ 128 :: List.replicate k 0).length = n := ⟨_, rfl⟩
    have hn2 : n = l.length + 1 + k := by rw [← hn]; simp; omega
    have hK := HK.out
    have cs := (let ⟨_, _, _, _, _, h⟩ := H1.out; h.size)
    rw [hn] at cs
    have HN := Lib.hid hn
    clear hn
    have ht : ∃ t : Bool, ((n : Int) % 64 != 56) = t ∧ (t = true ↔ n % 64 ≠ 56) := ⟨_, rfl, by rw [bne_iff_ne]; omega⟩
    obtain ⟨tb, htb, hti⟩ := ht
    have HTI := Lib.hid (And.intro hti hn2)
    have hnb : n ≤ 1000000000000000064 := by omega
    clear hti hn2 hK
    cases tb
    · have hp : (l ++ 128 :: List.replicate k 0) ++ be (8 * l.length) 8 = pad l := by
        have h1 := HTI.out
        have h2 := HK.out
        simp only [Bool.false_eq_true, false_iff, Decidable.not_not] at h1
        exact pad_parts l k (by omega) (by omega)
      have HPD := Lib.hid hp
      clear hp
      go_wp2_with fail
      rw [show (8 * (l.length : Int)) = ((8 * l.length : Nat) : Int) from by simp]
      refine (writeNum_any _ b _ (8 * l.length) 8 H1.out (by omega) (by omega) (by rw [HN.out]; omega)).mono ?_
      rintro e w2 ⟨rfl, h2, g2⟩
      rw [HPD.out] at h2
      have G2 : Hid (w.grownBy w2 (some b)) := grownBy_trans G1.out g2
      obtain ⟨hb, hr, st, blk, hg, hh⟩ := h2
      have HSH := Lib.hid (sha_of_took hg)
      have hblt := hh.lt
      have hra : w2.rangeAt b 0 (u32s st.list) := fun j v hv => by
        rw [Nat.zero_add, cell_of hh.2, List.getElem?_toArray, List.getElem?_append_left (List.getElem?_eq_some_iff.1 hv).1]
        exact hv
      have HRA := Lib.hid hra
      have hok := hg.ok
      have HGD := Lib.hid hg
      have hsz : w.heap.size ≤ w2.heap.size := G2.out.size
      clear g2 hr hg hra G1 H1 HTI HN hh
      go_wp2_with (first
        | (refine wpList_load_mid (by rfl) 188 (.tmp 28) (by rfl) b 0 (by rfl) (u32s st.list) (.array 8 161) (by exact World.rangeAt_alloc HRA.out _) Tryz.underlying188 (by rfl) (by rw [u32s_length, St.list_length]; kernel_rfl) ?_))
      go_loopw [30] (fun v wr => ∃ i : Nat, i ≤ 8 ∧ v = .int .i64 i ∧ MS w wr b w2.heap.size st (4 * i)) (fun v _ => 8 - (intOf v).toNat)
      case atStart => exact ⟨0, by omega, rfl, grownBy_alloc' G2.out _, heap_alloc_at _ _ _ rfl⟩
      case round =>
        obtain ⟨i, hi, rfl, hm⟩ := hrel
        by_cases hlt : i < 8
        · have q := sum_index st i hlt
          have hx := getD_lt (list_ok hok) (by decide) i
          generalize hX : st.list.getD i 0 = x at q hx
          have HX := Lib.hid hX
          have HM := Lib.hid hm
          clear hX hm
          have hd : decide ((i : Int) < 8) = true := by simp; omega
          go_wp2_with fail
          go_loopw [34] (fun v wr => ∃ j : Nat, j ≤ 4 ∧ v = .int .i64 j ∧ MS w wr b w2.heap.size st (4 * i + j)) (fun v _ => 4 - (intOf v).toNat)
          case atStart => exact ⟨0, by omega, rfl, HM.out⟩
          case round =>
            clear HM
            obtain ⟨j, hj, rfl, hm⟩ := hrel
            by_cases hjl : j < 4
            · obtain ⟨r, hr⟩ : ∃ r, 3 - j = r := ⟨_, rfl⟩
              have hr2 : (3 : Int) - (j : Int) = (r : Int) := by omega
              have hr3 : r ≤ 3 := by omega
              have c := cell_of hm.c (4 * i + j)
              rw [List.getElem?_toArray, u8s_at _ _ (by rw [bytesZ_length _ _ (by omega)]; omega)] at c
              have f := free_of hm.c (4 * i + j)
              have HR := Lib.hid hr
              have HM := Lib.hid hm
              have hsm := hm.g.size
              clear hr hm
              have b1 : (0 : Int) ≤ 4 * (i : Int) + j := by omega
              have b2 : 4 * (i : Int) + j < 32 := by omega
              have b3 : (4 * (i : Int) + j).toNat = 4 * i + j := by omega
              go_wp2_with fail
              go_roundw
              case rel =>
                refine ⟨j + 1, by omega, by go_num, ?_⟩
                have := HM.out.put hlt hjl hsz
                rw [HX.out, HR.out, ← byte_at] at this
                exact this
              case measure => simp [intOf]; omega
            · have : j = 4 := by omega
              subst this
              have HM : Hid (MS w wr b w2.heap.size st (4 * (i + 1))) := hm
              clear hm
              go_wp2_with fail
              go_roundw
              case rel => exact ⟨i + 1, by omega, by go_num, HM.out⟩
              case measure => simp [intOf]; omega
        · have : i = 8 := by omega
          subst this
          have hz : bytesZ st (4 * 8) = shaL l := by rw [← HSH.out]; simp [bytesZ, St.bytes_length]; exact List.take_of_length_le (by rw [St.bytes_length]; omega)
          have hc := hm.c
          rw [hz] at hc
          have hstr := row_string hc 32
          rw [shaL_length] at hstr
          have hsl := slice_sum w2.heap.size
          have HM := Lib.hid hm.g
          clear hm hz hc
          go_wp2_with fail
          go_ret
          exact ⟨rfl, HM.out⟩
    · go_wp2_with fail
      refine (writeByte_any _ b _ 0 H1.out (by rw [HN.out]; omega)).mono ?_
      rintro e w2 ⟨rfl, h2, g2⟩
      have H2 := Lib.hid h2
      have G2 := Lib.hid g2
      clear h2 g2
      have hgk : k + 1 + (gk - 1) = K := by
        have h1 := HTI.out
        have h2 := HK.out
        simp only [true_iff] at h1
        have : k ≠ K := by
          intro e
          subst e
          omega
        omega
      go_wp2_with fail
      go_roundg (gk - 1)
      case measure =>
        have h1 := HTI.out
        have h2 := HK.out
        simp only [true_iff] at h1
        have : k ≠ K := by
          intro e
          subst e
          omega
        omega
      case rel =>
        refine ⟨k + 1, hgk, ?_, grownBy_trans G1.out G2.out⟩
        show Took _ _ _
        have := H2.out
        rw [List.append_assoc, List.cons_append, ← List.replicate_succ'] at this
        exact this
end Go.Proofs.YtbhoeiopckmfhaaGreatDoor

namespace Go.Proofs.YtbhoeiopckmfhaaGreatDoor
open Go.RowKit
attribute [local irreducible] sched

/-- a slice that holds these texts -/
def StrsAt (w : World) (v : Value) (L : List ByteArray) : Prop :=
  ∃ a cap, v = .slice a L.length cap ∧ ∀ i (h : i < L.length), ∃ g o, a = some ⟨g, o, none⟩ ∧ w.cell? ⟨g, o + i, none⟩ = some (.string L[i])
theorem StrsAt.kept {w w' : World} {v : Value} {L : List ByteArray} (h : StrsAt w v L) (hb : Below w.heap.size w w') : StrsAt w' v L := by
  obtain ⟨a, cap, rfl, hc⟩ := h
  refine ⟨a, cap, rfl, fun i hi => ?_⟩
  obtain ⟨g, o, ha, hcell⟩ := hc i hi
  exact ⟨g, o, ha, (hb.cell (World.block_lt_of_cell? w _ hcell)).trans hcell⟩
/-- texts, one behind the other -/
def catB (L : List ByteArray) : List UInt8 := L.flatMap fun s => s.data.toList
theorem catB_take (L : List ByteArray) (i : Nat) (h : i < L.length) : catB (L.take (i + 1)) = catB (L.take i) ++ L[i].data.toList := by
  unfold catB
  rw [List.take_succ_eq_append_getElem h, List.flatMap_append, List.flatMap_singleton]
theorem catB_split (L : List ByteArray) (i : Nat) : catB L = catB (L.take i) ++ catB (L.drop i) := by
  unfold catB
  rw [← List.flatMap_append, List.take_append_drop]
theorem catB_take_le (L : List ByteArray) (i : Nat) : (catB (L.take i)).length ≤ (catB L).length := by
  rw [catB_split L i, List.length_append]
  omega
/-- the two tables of package sha in memory -/
structure ShaReady (w : World) : Prop where
  s : StartAt w
  r : RootsAt w
theorem ShaReady.lt {w : World} (h : ShaReady w) : 0 < w.heap.size ∧ 1 < w.heap.size :=
  ⟨World.block_lt_of_cell? w _ (h.s 0 _ rfl), World.block_lt_of_cell? w _ (h.r 0 (by decide))⟩
theorem ShaReady.kept {w w' : World} {row : Option Nat} (h : ShaReady w) (hg : w.grownBy w' row) (hs : row ≠ some 0) (hr : row ≠ some 1) : ShaReady w' := ⟨h.s.kept hg hs, h.r.kept hg hr⟩
theorem ShaReady.below {w w' : World} (h : ShaReady w) (hb : Below w.heap.size w w') : ShaReady w' := h.kept (grownBy_below hb) (by simp) (by simp)

/-- a new block's world, seen from ahead of it -/
theorem grown_new {a b c : World} {k : Nat} (h : a.grownBy b none) (hg : b.grownBy c (some k)) (hk : a.heap.size ≤ k) : a.grownBy c none :=
  ⟨hg.os.trans h.os, hg.tape.trans h.tape, hg.output.trans h.output, Nat.le_trans h.size hg.size, fun i hi _ => (hg.block i (Nat.lt_of_lt_of_le hi h.size) (by intro e; cases e; omega)).trans (h.block i hi (by simp))⟩

/-- what a tagged digest is of -/
def tagB (tag : UInt8) (L : List ByteArray) : List UInt8 := tag :: L.flatMap fun s => be s.size 4 ++ s.data.toList
theorem tagB_take (tag : UInt8) (L : List ByteArray) (i : Nat) (h : i < L.length) : tagB tag (L.take (i + 1)) = tagB tag (L.take i) ++ be L[i].size 4 ++ L[i].data.toList := by
  unfold tagB
  rw [List.take_succ_eq_append_getElem h, List.flatMap_append, List.flatMap_singleton, ← List.cons_append, List.append_assoc]
theorem tagB_take_le (tag : UInt8) (L : List ByteArray) (i : Nat) : (tagB tag (L.take i)).length ≤ (tagB tag L).length := by
  have e : tagB tag L = tagB tag (L.take i) ++ (L.drop i).flatMap fun s => be s.size 4 ++ s.data.toList := by
    unfold tagB
    rw [List.cons_append, ← List.flatMap_append, List.take_append_drop]
  rw [e, List.length_append]
  omega

set_option maxRecDepth 100000 in
set_option maxHeartbeats 800000 in
theorem tagged_any (w : World) (tag : UInt8) (v : Value) (L : List ByteArray) (hv : StrsAt w v L) (hr : ShaReady w) (hn : L.length ≤ maxLen) (hl : (tagB tag L).length ≤ 100000000000000000) :
    Calls Tryz.prog 26 #[.int .u8 tag.toNat, v] w fun e w' => e = .returned (.string (str ((shaL (tagB tag L)).take 16))) ∧ w.grownBy w' none := by
  obtain ⟨a, cap, rfl, hc⟩ := hv
  have HC := Lib.hid hc
  have HR := Lib.hid hr
  unfold maxLen at hn
  clear hc hr
  go_enter Tryz.func26, Tryz.ntmps26
  go_wp2_with fail
  refine (newHash_any _ HR.out.s HR.out.r).mono ?_
  rintro e w1 ⟨rfl, h1, g1⟩
  have H1 := Lib.hid h1
  have G1 := Lib.hid g1
  clear h1 g1
  go_wp2_with fail
  refine (writeByte_any _ _ [] tag H1.out (by simp)).mono ?_
  rintro e w2 ⟨rfl, h2, g2⟩
  have H2 : Hid (Took w2 w.heap.size (tagB tag (L.take 0))) := h2
  have G2 := Lib.hid (grown_new G1.out g2 (Nat.le_refl _))
  clear h2 g2 G1 H1
  go_wp2_with fail
  go_loopw [14] (fun i wr => ∃ k : Nat, k ≤ L.length ∧ i = .int .i64 k ∧ Hid (Took wr w.heap.size (tagB tag (L.take k))) ∧ Hid (w.grownBy wr none)) (fun i _ => L.length - (intOf i).toNat)
  case atStart => exact ⟨0, Nat.zero_le _, rfl, H2.out, G2.out⟩
  case round =>
    obtain ⟨k, hk, rfl, HT, HG⟩ := hrel
    by_cases hlt : k < L.length
    · obtain ⟨g, o, rfl, hcell⟩ := HC.out k hlt
      have cw : wr.cell? ⟨g, o + k, none⟩ = some (.string L[k]) := HG.out.cell hcell (by simp)
      have hcs : (tagB tag (L.take k)).length + 4 + L[k].size ≤ (tagB tag L).length := by
        have h1 := tagB_take tag L k hlt
        have h2 := tagB_take_le tag L (k + 1)
        rw [h1] at h2
        simpa [be_length, Nat.add_assoc] using h2
      generalize hs : L[k] = s at cw hcs
      have HS := Lib.hid hs
      clear hs hcell
      have b1 : (0 : Int) ≤ (k : Int) := by omega
      have b2 : (k : Int) < (L.length : Int) := by omega
      have b3 : s.size ≤ 100000000000000000 := by omega
      go_wp2_with fail
      refine (writeNum_any _ w.heap.size _ s.size 4 HT.out (by omega) (by omega) (by omega)).mono ?_
      rintro e w3 ⟨rfl, h3, g3⟩
      have H3 := Lib.hid h3
      have G3 := Lib.hid (grown_new HG.out g3 (Nat.le_refl _))
      clear h3 g3
      go_wp2_with fail
      refine (write_any _ w.heap.size _ s H3.out (by rw [List.length_append, be_length]; omega)).mono ?_
      rintro e w4 ⟨rfl, h4, g4⟩
      have H4 := Lib.hid h4
      have G4 := Lib.hid (grown_new G3.out g4 (Nat.le_refl _))
      clear h4 g4
      go_wp2_with fail
      go_roundw
      case rel =>
        refine ⟨k + 1, by omega, by go_num, ?_, G4.out⟩
        show Took _ _ _
        rw [tagB_take tag L k hlt, HS.out]
        exact H4.out
      case measure => simp [intOf]; omega
    · have : k = L.length := by omega
      subst this
      have hT := HT.out
      rw [List.take_of_length_le (Nat.le_refl _)] at hT
      have HT2 := Lib.hid hT
      clear hT HT
      go_wp2_with fail
      refine (sum_any _ _ _ HT2.out (by omega)).mono ?_
      rintro e w2 ⟨rfl, g2⟩
      have G2 := Lib.hid (grown_new HG.out g2 (Nat.le_refl _))
      clear g2
      have hsz : (str (shaL (tagB tag L))).size = 32 := by rw [str_size, shaL_length]
      have hx : (str (shaL (tagB tag L))).extract 0 16 = str ((shaL (tagB tag L)).take 16) := by
        apply ByteArray.ext
        simp [str]
      generalize str (shaL (tagB tag L)) = S at hsz hx ⊢
      have HX := Lib.hid hx
      clear hx
      go_wp2_with fail
      go_ret
      refine ⟨?_, G2.out⟩
      rw [← HX.out]
      rfl
/-- 'f(x, y, ..)': the texts handed in, in a new block -/
theorem strs_new (w : World) (L : List ByteArray) (t : TypeId) (n : Nat) (hn : n = L.length) : StrsAt (w.alloc (.cells (L.map Value.string).toArray t)) (.slice (some ⟨w.heap.size, 0, none⟩) n n) L := by
  subst hn
  refine ⟨_, _, rfl, fun i hi => ⟨_, _, rfl, ?_⟩⟩
  rw [cell_of (heap_alloc_at w _ _ rfl)]
  simp [List.getElem?_eq_getElem hi]
end Go.Proofs.YtbhoeiopckmfhaaGreatDoor
