/- The walk of hash.schedule. -/
import Derived.Test.YtmdogeampigfoaaDoorShaRot
import Derived.Test.YtmdogeampigfoaaDoorMem
import Derived.Deep.MidRow
import Derived.Deep.QuietTactic
import Derived.BigQuiet
import Derived.StillTailTactics
import Derived.IntWalk
import Derived.Deep.RegionHeld3
namespace Go.Proofs.YtmdogeampigfoaaDoor
open Go.RowKit

def u32s (l : List Nat) : List Value := l.map fun n : Nat => Value.int .u32 (n : Int)
def u8s (l : List UInt8) : List Value := l.map fun c : UInt8 => Value.int .u8 (c.toNat : Int)
/-- a hash in memory: its state, its block, how many bytes it took -/
def HashAt (w : World) (b : Nat) (s : St) (blk : List UInt8) (n : Nat) : Prop :=
  blk.length = 64 ∧ w.heap[b]? = some (.cells (u32s s.list ++ (u8s blk ++ [Value.int .u64 (n : Int)])).toArray 101 (0, 0))

theorem sig0_bits (x : Nat) (hx : x < 4294967296) : bits .xor .u32 (bits .xor .u32 (rotr 7 x : Nat) (rotr 18 x : Nat)) ((x : Int) / 8) = (sig0 x : Nat) := by
  have h3 : (x : Int) / 8 = ((x / 2 ^ 3 : Nat) : Int) := by simp
  rw [u32_xor_nat _ _ (rotr_lt (by decide) hx) (rotr_lt (by decide) hx), h3, u32_xor_nat _ _ (xor_lt (rotr_lt (by decide) hx) (rotr_lt (by decide) hx)) (div_lt32 hx)]
  rfl
theorem sig1_bits (x : Nat) (hx : x < 4294967296) : bits .xor .u32 (bits .xor .u32 (rotr 17 x : Nat) (rotr 19 x : Nat)) ((x : Int) / 1024) = (sig1 x : Nat) := by
  have h3 : (x : Int) / 1024 = ((x / 2 ^ 10 : Nat) : Int) := by simp
  rw [u32_xor_nat _ _ (rotr_lt (by decide) hx) (rotr_lt (by decide) hx), h3, u32_xor_nat _ _ (xor_lt (rotr_lt (by decide) hx) (rotr_lt (by decide) hx)) (div_lt32 hx)]
  rfl
/-- what the walk of schedule keeps: the result's block, and the words' -/
structure SW (w wr : World) (L : List Nat) : Prop where
  g : w.grownBy wr none
  s : wr.heap.size = w.heap.size + 2
  r : wr.heap[w.heap.size]? = some (.cells (u32s (List.replicate 64 0)).toArray 110 (0, 0))
  c : wr.heap[w.heap.size + 1]? = some (.cells (u32s L).toArray 110 (0, 0))
  l : L.length = 64
  b : ∀ x ∈ L, x < 4294967296

theorem u32s_length (l : List Nat) : (u32s l).length = l.length := by simp [u32s]
theorem u8s_length (l : List UInt8) : (u8s l).length = l.length := by simp [u8s]
theorem u32s_at (l : List Nat) (i : Nat) (h : i < l.length) : (u32s l)[i]? = some (.int .u32 (l.getD i 0 : Nat)) := by
  simp [u32s, List.getElem?_eq_getElem h, List.getD_eq_getElem?_getD]
theorem u8s_at (l : List UInt8) (i : Nat) (h : i < l.length) : (u8s l)[i]? = some (.int .u8 (l.getD i 0).toNat) := by
  simp [u8s, List.getElem?_eq_getElem h, List.getD_eq_getElem?_getD]
theorem u32s_set (l : List Nat) (i x : Nat) : u32s (l.set i x) = (u32s l).set i (.int .u32 x) := by simp [u32s, List.map_set]
theorem St.list_length (s : St) : s.list.length = 8 := rfl

theorem HashAt.lt {w : World} {b : Nat} {s : St} {blk : List UInt8} {n : Nat} (h : HashAt w b s blk n) : b < w.heap.size := (Array.getElem?_eq_some_iff.1 h.2).1
theorem HashAt.word {w : World} {b : Nat} {s : St} {blk : List UInt8} {n : Nat} (h : HashAt w b s blk n) (i : Nat) (hi : i < 8) : w.cell? ⟨b, i, none⟩ = some (.int .u32 (s.list.getD i 0 : Nat)) := by
  rw [cell_of h.2, List.getElem?_toArray, List.getElem?_append_left (by rw [u32s_length, St.list_length]; exact hi), u32s_at _ _ (by rw [St.list_length]; exact hi)]
theorem HashAt.byte {w : World} {b : Nat} {s : St} {blk : List UInt8} {n : Nat} (h : HashAt w b s blk n) (i : Nat) (hi : i < 64) : w.cell? ⟨b, 8 + i, none⟩ = some (.int .u8 (blk.getD i 0).toNat) := by
  have hl := h.1
  rw [cell_of h.2, List.getElem?_toArray, List.getElem?_append_right (by rw [u32s_length, St.list_length]; omega), u32s_length, St.list_length, show 8 + i - 8 = i from by omega,
    List.getElem?_append_left (by rw [u8s_length]; omega), u8s_at _ _ (by omega)]
theorem HashAt.size {w : World} {b : Nat} {s : St} {blk : List UInt8} {n : Nat} (h : HashAt w b s blk n) : w.cell? ⟨b, 72, none⟩ = some (.int .u64 n) := by
  have hl := h.1
  rw [cell_of h.2, List.getElem?_toArray, List.getElem?_append_right (by rw [u32s_length, St.list_length]; omega), u32s_length, St.list_length,
    List.getElem?_append_right (by rw [u8s_length]; omega), u8s_length, hl]
  rfl
theorem HashAt.kept {w w' : World} {row : Option Nat} {b : Nat} {s : St} {blk : List UInt8} {n : Nat} (h : HashAt w b s blk n) (hg : w.grownBy w' row) (hb : row ≠ some b) : HashAt w' b s blk n :=
  ⟨h.1, by rw [hg.block b h.lt (fun e => hb e.symm)]; exact h.2⟩

theorem SW.drewN {w wr : World} {L : List Nat} (h : SW w wr L) (n : Nat) : SW w (wr.drewN n) L :=
  ⟨⟨h.g.os, h.g.tape, h.g.output, h.g.size, h.g.block⟩, h.s, h.r, h.c, h.l, h.b⟩
theorem SW.cell {w wr : World} {L : List Nat} (h : SW w wr L) (i : Nat) (hi : i < 64) : wr.cell? ⟨w.heap.size + 1, i, none⟩ = some (.int .u32 (L.getD i 0 : Nat)) := by
  rw [cell_of h.c, List.getElem?_toArray, u32s_at _ _ (by rw [h.l]; exact hi)]
theorem SW.free {w wr : World} {L : List Nat} (h : SW w wr L) (i : Nat) : wr.frozen? ⟨w.heap.size + 1, i, none⟩ = false := free_of h.c i
theorem SW.put {w wr : World} {L : List Nat} (h : SW w wr L) (i x : Nat) (hx : x < 4294967296) : SW w ((wr.setCell ⟨w.heap.size + 1, i, none⟩ (.int .u32 x)).drew) (L.set i x) := by
  refine ⟨grownBy_drew (grownBy_setNew h.g (by omega) _ _), ?_, ?_, ?_, ?_, ?_⟩
  · show (wr.setCell _ _).heap.size = _
    rw [size_setCell]; exact h.s
  · show (wr.setCell _ _).heap[_]? = _
    rw [heap_setCell_ne _ _ _ _ (by omega)]; exact h.r
  · show (wr.setCell _ _).heap[_]? = _
    rw [heap_setCell h.c, u32s_set]
    simp
  · rw [List.length_set]; exact h.l
  · intro y hy
    rcases List.mem_or_eq_of_mem_set hy with hy | rfl
    · exact h.b y hy
    · exact hx
theorem SW.start (w : World) : SW w ((w.alloc (.cells (u32s (List.replicate 64 0)).toArray 110)).alloc (.cells (u32s (List.replicate 64 0)).toArray 110)) (List.replicate 64 0) := by
  refine ⟨?_, ?_, ?_, ?_, ?_, ?_⟩
  · exact grownBy_alloc' (World.grownBy_alloc _ _ _) _
  · simp
  · generalize (Obj.cells (u32s (List.replicate 64 0)).toArray 110) = o
    show ((w.heap.push o).push o)[_]? = _
    simp [Array.getElem?_push]
  · exact heap_alloc_at _ _ _ (by simp)
  · simp
  · intro x hx
    rw [List.eq_of_mem_replicate hx]
    decide

/-- the words so far -/
def wordsZ (blk : List UInt8) (k : Nat) : List Nat := words blk k ++ List.replicate (64 - k) 0
/-- the bytes of a word so far -/
def part (blk : List UInt8) (k : Nat) : Nat → Nat
  | 0 => 0
  | j + 1 => part blk k j * 256 + (blk.getD (4 * k + j) 0).toNat
theorem part_lt (blk : List UInt8) (k j : Nat) : part blk k j < 256 ^ j := by
  induction j with
  | zero => simp [part]
  | succ j ih =>
    have := (blk.getD (4 * k + j) 0).toNat_lt
    rw [part, Nat.pow_succ]
    omega
theorem part_lt3 (blk : List UInt8) (k j : Nat) (h : j < 4) : part blk k j < 16777216 :=
  Nat.lt_of_lt_of_le (part_lt blk k j) (Nat.le_trans (Nat.pow_le_pow_right (by decide) (show j ≤ 3 by omega)) (by decide))
theorem part_four (blk : List UInt8) (k : Nat) : part blk k 4 = word blk k := by simp [part, word]
theorem words_length (blk : List UInt8) (k : Nat) : (words blk k).length = k := by simp [words]
theorem words_succ (blk : List UInt8) (k : Nat) : words blk (k + 1) = words blk k ++ [word blk k] := by simp [words, List.range_succ]
theorem wordsZ_at (blk : List UInt8) (k : Nat) (h : k < 64) : (wordsZ blk k).getD k 0 = 0 := by
  rw [wordsZ, List.getD_eq_getElem?_getD, List.getElem?_append_right (by rw [words_length]; omega), words_length, Nat.sub_self]
  rw [show 64 - k = (63 - k) + 1 from by omega, List.replicate_succ]
  rfl
theorem wordsZ_start (blk : List UInt8) (k : Nat) (h : k < 64) : (wordsZ blk k).set k (part blk k 0) = wordsZ blk k := by
  apply List.ext_getElem?
  intro i
  rw [List.getElem?_set]
  split
  · rename_i e
    subst e
    have := wordsZ_at blk k h
    rw [List.getD_eq_getElem?_getD] at this
    have hl : k < (wordsZ blk k).length := by simp [wordsZ, words_length]; omega
    rw [if_pos hl]
    rw [List.getElem?_eq_getElem hl] at this ⊢
    simp at this
    rw [this]
    rfl
  · rfl
theorem wordsZ_end (blk : List UInt8) (k : Nat) (h : k < 64) : (wordsZ blk k).set k (part blk k 4) = wordsZ blk (k + 1) := by
  rw [part_four, wordsZ, wordsZ, words_succ, List.set_append_right _ _ (by rw [words_length]; omega), words_length, Nat.sub_self,
    show 64 - k = (64 - (k + 1)) + 1 from by omega, List.replicate_succ, List.set_cons_zero, List.append_assoc]
  rfl
theorem or8 (p v : Nat) (hp : p < 16777216) (hv : v < 256) : bits .or .u32 ((p : Int) * 256) (v : Int) = ((p * 256 + v : Nat) : Int) := by
  have h2 : ((p : Int) * 256) = ((p * 256 : Nat) : Int) := by simp
  rw [h2, u32_or_nat _ _ (by omega) (by omega)]
  congr 1
  have := Nat.two_pow_add_eq_or_of_lt (i := 8) (b := v) (by omega) p
  rw [Nat.mul_comm p 256]
  exact this.symm

/-- the words behind so many rounds -/
def wordsM (blk : List UInt8) (m : Nat) : List Nat := more (m - 16) (words blk 16) ++ List.replicate (64 - m) 0
theorem more16_length (blk : List UInt8) (m : Nat) (h : 16 ≤ m) : (more (m - 16) (words blk 16)).length = m := by rw [more_length, words_length]; omega
theorem wordsM_at (blk : List UInt8) (m i : Nat) (h : 16 ≤ m) (hi : i < m) : (wordsM blk m).getD i 0 = (more (m - 16) (words blk 16)).getD i 0 := by
  rw [wordsM, List.getD_eq_getElem?_getD, List.getD_eq_getElem?_getD, List.getElem?_append_left (by rw [more16_length blk m h]; exact hi)]
theorem wordsM_zero (blk : List UInt8) (m : Nat) (h : 16 ≤ m) (h2 : m < 64) : (wordsM blk m).getD m 0 = 0 := by
  rw [wordsM, List.getD_eq_getElem?_getD, List.getElem?_append_right (by rw [more16_length blk m h]; omega), more16_length blk m h, Nat.sub_self,
    show 64 - m = (63 - m) + 1 from by omega, List.replicate_succ]
  rfl
theorem wordsM_succ (blk : List UInt8) (m : Nat) (h : 16 ≤ m) (h2 : m < 64) : (wordsM blk m).set m (nextW (more (m - 16) (words blk 16))) = wordsM blk (m + 1) := by
  rw [wordsM, wordsM, show m + 1 - 16 = (m - 16) + 1 from by omega, more_succ, List.set_append_right _ _ (by rw [more16_length blk m h]; omega), more16_length blk m h, Nat.sub_self,
    show 64 - m = (64 - (m + 1)) + 1 from by omega, List.replicate_succ, List.set_cons_zero, List.append_assoc, List.singleton_append]
theorem wordsM_end (blk : List UInt8) : wordsM blk 64 = sched blk := by
  rw [wordsM, sched]
  simp
theorem wordsM_start (blk : List UInt8) : wordsM blk 16 = wordsZ blk 16 := rfl
theorem next_sum (a b c d : Nat) : (((a + b + c + d) % 4294967296 : Nat) : Int) = ((a : Int) + b + c + d) % 4294967296 := by simp

attribute [local irreducible] sched

set_option maxRecDepth 100000 in
set_option maxHeartbeats 800000 in
theorem schedule_any (w : World) (b : Nat) (s : St) (blk : List UInt8) (n : Nat) (h : HashAt w b s blk n) :
    Calls Tryd.prog 61 #[.pointer (some ⟨b, 0, none⟩)] w fun e w' => e = .returned (.agg (u32s (sched blk)).toArray) ∧ w.grownBy w' none := by
  have H := Lib.hid h
  clear h
  go_enter Tryd.func61, Tryd.ntmps61
  go_wp2
  go_loopw [9] (fun i wr => ∃ k : Nat, k ≤ 16 ∧ i = .int .i64 k ∧ SW w wr (wordsZ blk k)) (fun i _ => 16 - (intOf i).toNat)
  case atStart => exact ⟨0, by omega, rfl, SW.start w⟩
  case round =>
    obtain ⟨k, hk, rfl, hs⟩ := hrel
    by_cases hlt : k < 16
    · have hd : decide ((k : Int) < 16) = true := by simp; omega
      go_wp2
      go_loopw [12] (fun i wr => ∃ j : Nat, j ≤ 4 ∧ i = .int .i64 j ∧ SW w wr ((wordsZ blk k).set k (part blk k j))) (fun i _ => 4 - (intOf i).toNat)
      case atStart => exact ⟨0, by omega, rfl, by rw [wordsZ_start blk k (by omega)]; exact hs⟩
      case round =>
        clear hs
        obtain ⟨j, hj, rfl, hs⟩ := hrel
        by_cases hjl : j < 4
        · have c1 : wr.cell? ⟨w.heap.size + 1, k, none⟩ = some (.int .u32 (part blk k j)) := by
            rw [hs.cell k (by omega), List.getD_eq_getElem?_getD, List.getElem?_set_self (by simp [wordsZ, words_length]; omega)]
            rfl
          have c2 : wr.cell? ⟨b, 8 + (4 * k + j), none⟩ = some (.int .u8 ((blk.getD (4 * k + j) 0).toNat)) := (H.out.kept hs.g (by simp)).byte _ (by omega)
          have f1 : wr.frozen? ⟨w.heap.size + 1, k, none⟩ = false := hs.free k
          have hp : part blk k j < 16777216 := part_lt3 blk k j hjl
          have hv := (blk.getD (4 * k + j) 0).toNat_lt
          generalize hP : part blk k j = p at c1 hp
          generalize hV : (blk.getD (4 * k + j) 0).toNat = v at c2 hv
          have HP := Lib.hid hP
          have HV := Lib.hid hV
          have HS := Lib.hid hs
          clear hP hV hs
          have b1 : (0 : Int) ≤ (k : Int) := by omega
          have b2 : (k : Int) < 64 := by omega
          have b3 : (0 : Int) ≤ 4 * (k : Int) + j := by omega
          have b4 : 4 * (k : Int) + j < 64 := by omega
          have b5 : IntKind.i64.wrap (4 * (k : Int)) = 4 * (k : Int) := IntWalk.i64_in _ (by omega)
          have b6 : IntKind.i64.wrap (4 * (k : Int) + j) = 4 * (k : Int) + j := IntWalk.i64_in _ (by omega)
          have b7 : (4 * (k : Int) + j).toNat = 4 * k + j := by omega
          have b8 : IntKind.u32.wrap ((p : Int) * 256) = (p : Int) * 256 := by
            simp only [IntKind.wrap, IntKind.bits, IntKind.signed, IntKind.min, IntKind.max]; simp; omega
          have b9 : IntKind.u32.wrap (v : Int) = (v : Int) := by
            simp only [IntKind.wrap, IntKind.bits, IntKind.signed, IntKind.min, IntKind.max]; simp; omega
          go_wp2
          go_still_tail 17, (by kernel_rfl)
          go_wp2
          go_roundw
          case rel =>
            refine ⟨j + 1, by omega, by go_num, ?_⟩
            have := HS.out.put k (p * 256 + v) (by omega)
            rw [← or8 p v hp hv, List.set_set] at this
            rw [part, HP.out, HV.out]
            exact this
          case measure => simp [intOf]; omega
        · have : j = 4 := by omega
          subst this
          rw [wordsZ_end blk k (by omega)] at hs
          go_wp2
          go_roundw
          case rel => exact ⟨k + 1, by omega, by go_num, hs⟩
          case measure => simp [intOf]; omega
    · have hk16 : k = 16 := by omega
      subst hk16
      rw [show ((16 : Nat) : Int) = 16 from rfl]
      go_wp2
      go_loopw [6] (fun i wr => ∃ m : Nat, 16 ≤ m ∧ m ≤ 64 ∧ i = .int .i64 m ∧ SW w wr (wordsM blk m)) (fun i _ => 64 - (intOf i).toNat)
      case atStart => exact ⟨16, by omega, by omega, rfl, hs⟩
      case round =>
        clear hs
        obtain ⟨m, hm1, hm2, rfl, hs⟩ := hrel
        by_cases hlt : m < 64
        · obtain ⟨i15, r15⟩ : ∃ i : Nat, (m : Int) - 15 = i := ⟨m - 15, by omega⟩
          obtain ⟨i2, r2⟩ : ∃ i : Nat, (m : Int) - 2 = i := ⟨m - 2, by omega⟩
          obtain ⟨i16, r16⟩ : ∃ i : Nat, (m : Int) - 16 = i := ⟨m - 16, by omega⟩
          obtain ⟨i7, r7⟩ : ∃ i : Nat, (m : Int) - 7 = i := ⟨m - 7, by omega⟩
          have c15 : wr.cell? ⟨w.heap.size + 1, i15, none⟩ = some (.int .u32 ((more (m - 16) (words blk 16)).getD i15 0 : Nat)) := by rw [hs.cell i15 (by omega), wordsM_at blk m i15 hm1 (by omega)]
          have c2 : wr.cell? ⟨w.heap.size + 1, i2, none⟩ = some (.int .u32 ((more (m - 16) (words blk 16)).getD i2 0 : Nat)) := by rw [hs.cell i2 (by omega), wordsM_at blk m i2 hm1 (by omega)]
          have c16 : wr.cell? ⟨w.heap.size + 1, i16, none⟩ = some (.int .u32 ((more (m - 16) (words blk 16)).getD i16 0 : Nat)) := by rw [hs.cell i16 (by omega), wordsM_at blk m i16 hm1 (by omega)]
          have c7 : wr.cell? ⟨w.heap.size + 1, i7, none⟩ = some (.int .u32 ((more (m - 16) (words blk 16)).getD i7 0 : Nat)) := by rw [hs.cell i7 (by omega), wordsM_at blk m i7 hm1 (by omega)]
          have c0 : wr.cell? ⟨w.heap.size + 1, m, none⟩ = some (.int .u32 0) := by rw [hs.cell m (by omega), wordsM_zero blk m hm1 hlt]; rfl
          have f0 : wr.frozen? ⟨w.heap.size + 1, m, none⟩ = false := hs.free m
          have hL := more_lt (m - 16) _ (words_lt blk 16)
          have l15 := getD_lt hL (by decide) i15
          have l2 := getD_lt hL (by decide) i2
          have l16 := getD_lt hL (by decide) i16
          have l7 := getD_lt hL (by decide) i7
          clear hL
          generalize h15 : (more (m - 16) (words blk 16)).getD i15 0 = x15 at c15 l15
          generalize h2 : (more (m - 16) (words blk 16)).getD i2 0 = x2 at c2 l2
          generalize h16 : (more (m - 16) (words blk 16)).getD i16 0 = x16 at c16 l16
          generalize h7 : (more (m - 16) (words blk 16)).getD i7 0 = x7 at c7 l7
          have H15 := Lib.hid h15
          have H2 := Lib.hid h2
          have H16 := Lib.hid h16
          have H7 := Lib.hid h7
          have HS := Lib.hid hs
          clear h15 h2 h16 h7 hs
          have e15 : IntKind.i64.wrap (i15 : Int) = i15 := IntWalk.i64_in _ (by omega)
          have p15 : (0 : Int) ≤ (i15 : Int) := by omega
          have q15 : (i15 : Int) < 64 := by omega
          have e2 : IntKind.i64.wrap (i2 : Int) = i2 := IntWalk.i64_in _ (by omega)
          have p2 : (0 : Int) ≤ (i2 : Int) := by omega
          have q2 : (i2 : Int) < 64 := by omega
          have e16 : IntKind.i64.wrap (i16 : Int) = i16 := IntWalk.i64_in _ (by omega)
          have p16 : (0 : Int) ≤ (i16 : Int) := by omega
          have q16 : (i16 : Int) < 64 := by omega
          have e7 : IntKind.i64.wrap (i7 : Int) = i7 := IntWalk.i64_in _ (by omega)
          have p7 : (0 : Int) ≤ (i7 : Int) := by omega
          have q7 : (i7 : Int) < 64 := by omega
          have p0 : (0 : Int) ≤ (m : Int) := by omega
          have q0 : (m : Int) < 64 := by omega
          go_wp2
          have s15 := sig0_bits x15 l15
          have s2 := sig1_bits x2 l2
          go_quiet ((go_at_call 62; exact Calls.quiet_of_same (rot_q _ _ (by assumption) (by decide) _)))
          revert nq; intro n1
          go_wp2
          go_quiet ((go_at_call 62; exact quiet_add_same (rot_q _ _ (by assumption) (by decide) _)))
          go_wp2
          revert nq; intro n2
          have C16 : ((wr.drewN n1).drewN n2).cell? ⟨w.heap.size + 1, i16, none⟩ = some (.int .u32 x16) := by simpa using c16
          have C7 : ((wr.drewN n1).drewN n2).cell? ⟨w.heap.size + 1, i7, none⟩ = some (.int .u32 x7) := by simpa using c7
          have C0 : ((wr.drewN n1).drewN n2).cell? ⟨w.heap.size + 1, m, none⟩ = some (.int .u32 0) := by simpa using c0
          have F0 : ((wr.drewN n1).drewN n2).frozen? ⟨w.heap.size + 1, m, none⟩ = false := by simpa using f0
          have HQ := Lib.hid ((HS.out.drewN n1).drewN n2)
          clear c15 c2 c16 c7 c0 f0 HS s15 s2
          generalize (wr.drewN n1).drewN n2 = wq at C16 C7 C0 F0 HQ ⊢
          go_still_tail 15, (by kernel_rfl)
          go_wp2
          go_roundw
          case rel =>
            refine ⟨m + 1, by omega, by omega, by go_num, ?_⟩
            have := HQ.out.put m (nextW (more (m - 16) (words blk 16))) (nextW_lt _)
            rw [wordsM_succ blk m hm1 hlt, nextW, more16_length blk m hm1] at this
            rw [show m - 16 = i16 from by omega, show m - 15 = i15 from by omega, show m - 7 = i7 from by omega, show m - 2 = i2 from by omega] at this
            have e16' := H16.out
            have e15' := H15.out
            have e7' := H7.out
            have e2' := H2.out
            rw [show m - 16 = i16 from by omega] at e16' e15' e7' e2'
            rw [e16', e15', e7', e2', next_sum] at this
            exact this
          case measure => simp [intOf]; omega
        · have : m = 64 := by omega
          subst this
          rw [wordsM_end] at hs
          have hl := sched_length blk
          have ht : wr.there w.heap.size 0 (u32s (sched blk)).toArray.size := fun j hj => by
            rw [List.size_toArray, u32s_length, hl] at hj
            refine ⟨?_, free_of hs.r _⟩
            rw [cell_of hs.r, List.getElem?_toArray, u32s_at _ _ (by simp; omega)]
            rfl
          have hi : (Tryd.prog.info? 110).map (·.size) = some (u32s (sched blk)).toArray.size := by
            rw [List.size_toArray, u32s_length, hl]; kernel_rfl
          have h1 : (u32s (sched blk)).toArray.all (·.oneCell') = true := all_oneCell_toArray (by
            intro v hv
            obtain ⟨x, _, rfl⟩ := List.mem_map.1 hv
            rfl)
          have HT := Lib.hid ht
          have HI := Lib.hid hi
          have H1 := Lib.hid h1
          have HS := Lib.hid hs
          clear ht hi h1 hs hl
          go_wp2_with (first
            | (refine wpList_load_row (by rfl) 110 (.tmp 3) (by rfl) (w.heap.size + 1) (by rfl) _ _ _ _ HS.out.c Tryd.underlying110 (by rfl) (by exact HI.out) ?_)
            | (refine wpList_store_mid (by rfl) 110 (.tmp 2) (.tmp 87) (by rfl) w.heap.size 0 (u32s (sched blk)).toArray (by rfl) (by rfl) HT.out HI.out H1.out ?_))
          have hW : (wr.setCells w.heap.size 0 (u32s (sched blk))).heap[w.heap.size]? = some (.cells (u32s (sched blk)).toArray 110 (0, 0)) := by
            rw [heap_setCells (u32s (sched blk)) 0 wr (u32s (List.replicate 64 0)).toArray HS.out.r (by simp [u32s_length, HS.out.l])]
            simp [u32s_length, HS.out.l]
          refine bodyPost_ret (v := .agg (u32s (sched blk)).toArray) (results_cell_row (p := 2) (ty := 110) (by kernel_rfl) _ _ w.heap.size 110 _ (0, 0) (.array 64 85) (by rfl) hW Tryd.underlying110 rfl HI.out) rfl ⟨rfl, ?_⟩
          exact grownBy_setCellsNew (Nat.le_refl _) _ _ _ HS.out.g
end Go.Proofs.YtmdogeampigfoaaDoor
