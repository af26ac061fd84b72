/- The walk of the law's key. -/
import Derived.Test.YtbakhdbnfmoceaaDoorSmtMem
import Derived.Test.YtbakhdbnfmoceaaDoorBitsC
import Derived.Deep.DeepCutAuto
namespace Go.Proofs.YtbakhdbnfmoceaaDoor
open Go.RowKit Go.Maps

theorem infoU8K : (Tryd.prog.info? 5).map (fun i => (i.zero, i.size, i.bytes)) = some (some (.int .u8 0), 1, 1) := by kernel_rfl
/-- a key of two small numbers -/
def keyL (a b : UInt8) : List UInt8 := [a, 0, 0, UInt8.ofNat (b.toNat / 16), 0, 0, 0, 0, 0, 0, 0, 0, 0, 0, 0, b]
def keyS (a b : UInt8) : ByteArray := str (keyL a b)
theorem keyS_size (a b : UInt8) : (keyS a b).size = 16 := rfl
set_option maxRecDepth 100000 in
set_option maxHeartbeats 1600000 in
theorem key_any (a b : UInt8) (w : World) : Calls Tryd.prog 16 #[.int .u8 a.toNat, .int .u8 b.toNat] w fun e w' => e = .returned (.string (keyS a b)) ∧ w.grownBy w' none := by
  obtain ⟨i0, hi, hz0, hz3, hz4⟩ := info_parts infoU8K
  have hb := b.toNat_lt
  obtain ⟨c, hc⟩ : ∃ c, b.toNat / 16 = c := ⟨_, rfl⟩
  have hc16 : (b.toNat : Int) / 16 = (c : Int) := by omega
  have hkl : keyL a b = ((((List.replicate 16 (0 : UInt8)).set 0 a).set 3 (UInt8.ofNat c)).set 15 b) := by unfold keyL; rw [hc]; rfl
  have hcu : ((UInt8.ofNat c).toNat : Int) = (c : Int) := by rw [UInt8.toNat_ofNat_of_lt' (show c < 256 by omega)]
  have HK := Lib.hid hkl
  have HC := Lib.hid hcu
  clear hc hkl hcu
  go_enter Tryd.func16, Tryd.ntmps16
  go_wp2_with (at_make; refine wpList_make_full _ rfl _ _ 78 rfl w.heap.size 5 i0 (.int .u8 0) 1 Tryd.underlying78 hi hz0 hz3 _ _ _ _ 16 rfl rfl rfl rfl ?c1 ?c2 ?c3 ?_)
  case c1 => rw [hz4]; omega
  case c2 => unfold maxLen; omega
  case c3 => omega
  intro w4 hown hg
  have hm : (madeCells #[Value.int .u8 0] 16).toList = bytesV (List.replicate 16 0) := made_bytes 16
  rw [hm] at hown
  have hblk : w4.heap[w.heap.size]? = some (.cells (bytesV (List.replicate 16 0)).toArray 5 (0, 0)) := by
    rcases hown.2 with ⟨h, _⟩ | ⟨g, cap, cur, he, hB, hg4, h1, h2, h3, h4⟩
    · cases h
    · cases he
      have h5 : cur.toList = bytesV (List.replicate 16 0) := by
        rw [← h4, List.take_of_length_le (by rw [Array.length_toList]; omega)]
      rw [hg4, ← h5]
  have HG4 := Lib.hid hg
  have f0 := free_of hblk 0
  have f3 := free_of hblk 3
  have f15 := free_of hblk 15
  have c0 : w4.cell? ⟨w.heap.size, 0, none⟩ = some (.int .u8 0) := by rw [cell_of hblk]; rfl
  have c3 : w4.cell? ⟨w.heap.size, 3, none⟩ = some (.int .u8 0) := by rw [cell_of hblk]; rfl
  have c15 : w4.cell? ⟨w.heap.size, 15, none⟩ = some (.int .u8 0) := by rw [cell_of hblk]; rfl
  have HB := Lib.hid hblk
  obtain ⟨KB, hKB⟩ : ∃ KB, w.heap.size = KB := ⟨_, rfl⟩
  have HKB := Lib.hid hKB
  rw [hKB] at f0 f3 f15 c0 c3 c15 HB ⊢
  clear hown hm hg hblk hKB
  go_upto_region 3 with (fail)
  have hb5 := heap_setCell (heap_setCell (heap_setCell HB.out 0 (.int .u8 a.toNat)) 3 (.int .u8 c)) 15 (.int .u8 b.toNat)
  have hg5 : w.grownBy (((w4.setCell ⟨KB, 0, none⟩ (.int .u8 a.toNat)).setCell ⟨KB, 3, none⟩ (.int .u8 c)).setCell ⟨KB, 15, none⟩ (.int .u8 b.toNat)) none := grownBy_setNew (grownBy_setNew (grownBy_setNew HG4.out (Nat.le_of_eq HKB.out) 0 _) (Nat.le_of_eq HKB.out) 3 _) (Nat.le_of_eq HKB.out) 15 _
  have hl : (bytesV (List.replicate 16 0)).toArray.setIfInBounds 0 (.int .u8 a.toNat) = (bytesV ((List.replicate 16 (0 : UInt8)).set 0 a)).toArray := bytesV_set _ _ _
  rw [hl, ← HC.out, bytesV_set, bytesV_set, ← HK.out] at hb5
  rw [HC.out] at hb5
  have hst := blk_str hb5 16
  have HG5 := Lib.hid hg5
  generalize ((w4.setCell ⟨KB, 0, none⟩ (.int .u8 a.toNat)).setCell ⟨KB, 3, none⟩ (.int .u8 c)).setCell ⟨KB, 15, none⟩ (.int .u8 b.toNat) = w5 at *
  have h16 : (keyL a b).length = 16 := rfl
  rw [h16] at hst
  clear hb5 hg5 hl h16 c0 c3 c15 f0 f3 f15
  go_wp2_with fail
  go_ret
  exact ⟨rfl, HG5.out⟩
end Go.Proofs.YtbakhdbnfmoceaaDoor
