/- The walk of layer 14's laws' key. · The walk of proof's turned. -/
import Derived.Test.YtheabbknflmnfaaDoorSmtMem
import Derived.Test.YtheabbknflmnfaaDoorBitsC
import Derived.Deep.DeepCutAuto
import Derived.Test.YtheabbknflmnfaaDoorBitsP
import Derived.Laws.BitsAllLaws
import Derived.Lib.ConvBytes
namespace Go.Proofs.YtheabbknflmnfaaDoor
open Go.RowKit Go.Maps

theorem infoU8P : (Tryd.prog.info? 5).map (fun i => (i.zero, i.size, i.bytes)) = some (some (.int .u8 0), 1, 1) := by kernel_rfl
/-- a key of two small numbers -/
def keyL14 (a b : UInt8) : List UInt8 := [a, 0, b, 0, 0, 0, 0, 0, 0, 0, 0, 0, 0, 0, 0, 0]
def keyS14 (a b : UInt8) : ByteArray := str (keyL14 a b)
theorem keyS14_size (a b : UInt8) : (keyS14 a b).size = 16 := rfl
set_option maxRecDepth 100000 in
set_option maxHeartbeats 1600000 in
theorem key14_any (a b : UInt8) (w : World) : Calls Tryd.prog 24 #[.int .u8 a.toNat, .int .u8 b.toNat] w fun e w' => e = .returned (.string (keyS14 a b)) ∧ w.grownBy w' none := by
  obtain ⟨i0, hi, hz0, hz3, hz4⟩ := info_parts infoU8P
  have HK : Hid (keyL14 a b = (((List.replicate 16 (0 : UInt8)).set 0 a).set 2 b)) := Lib.hid rfl
  go_enter Tryd.func24, Tryd.ntmps24
  go_wp2_with (at_make; refine wpList_make_full _ rfl _ _ 74 rfl w.heap.size 5 i0 (.int .u8 0) 1 Tryd.underlying74 hi hz0 hz3 _ _ _ _ 16 rfl rfl rfl rfl ?c1 ?c2 ?c3 ?_)
  case c1 => rw [hz4]; omega
  case c2 => unfold maxLen; omega
  case c3 => omega
  intro w4 hown hg
  have hm : (madeCells #[Value.int .u8 0] 16).toList = bytesV (List.replicate 16 0) := made_bytes 16
  rw [hm] at hown
  have hblk : w4.heap[w.heap.size]? = some (.cells (bytesV (List.replicate 16 0)).toArray 5 (0, 0)) := by
    rcases hown.2 with ⟨h, _⟩ | ⟨g, cap, cur, he, hB, hg4, h1, h2, h3, h4⟩
    · cases h
    · cases he
      have h5 : cur.toList = bytesV (List.replicate 16 0) := by
        rw [← h4, List.take_of_length_le (by rw [Array.length_toList]; omega)]
      rw [hg4, ← h5]
  have HG4 := Lib.hid hg
  have f0 := free_of hblk 0
  have f2 := free_of hblk 2
  have c0 : w4.cell? ⟨w.heap.size, 0, none⟩ = some (.int .u8 0) := by rw [cell_of hblk]; rfl
  have c2 : w4.cell? ⟨w.heap.size, 2, none⟩ = some (.int .u8 0) := by rw [cell_of hblk]; rfl
  have HB := Lib.hid hblk
  obtain ⟨KB, hKB⟩ : ∃ KB, w.heap.size = KB := ⟨_, rfl⟩
  have HKB := Lib.hid hKB
  rw [hKB] at f0 f2 c0 c2 HB ⊢
  clear hown hm hg hblk hKB
  go_upto_region 3 with (fail)
  have hb5 := heap_setCell (heap_setCell HB.out 0 (.int .u8 a.toNat)) 2 (.int .u8 b.toNat)
  have hg5 : w.grownBy ((w4.setCell ⟨KB, 0, none⟩ (.int .u8 a.toNat)).setCell ⟨KB, 2, none⟩ (.int .u8 b.toNat)) none := grownBy_setNew (grownBy_setNew HG4.out (Nat.le_of_eq HKB.out) 0 _) (Nat.le_of_eq HKB.out) 2 _
  rw [bytesV_set, bytesV_set, ← HK.out] at hb5
  have hst := blk_str hb5 16
  have HG5 := Lib.hid hg5
  generalize (w4.setCell ⟨KB, 0, none⟩ (.int .u8 a.toNat)).setCell ⟨KB, 2, none⟩ (.int .u8 b.toNat) = w5 at *
  have h16 : (keyL14 a b).length = 16 := rfl
  rw [h16] at hst
  clear hb5 hg5 h16 c0 c2 f0 f2
  go_wp2_with fail
  go_ret
  exact ⟨rfl, HG5.out⟩
end Go.Proofs.YtheabbknflmnfaaDoor

namespace Go.Proofs.YtheabbknflmnfaaDoor
open Go.RowKit Go.Maps

theorem conv_bytes (k : ByteArray) (w : World) : (convert 9 74 (.string k)).run Tryd.prog w = .ok (.slice (some ⟨w.heap.size, 0, none⟩) k.size (grownCap w k.size 0 5)) (Lib.bytesWorld w 5 k) :=
  Lib.run_convert_string_bytes w 9 74 5 k (u := .string) Tryd.underlying9 Tryd.underlying74 Tryd.underlying5
theorem grown_bytes (k : ByteArray) (w : World) (e : TypeId) : w.grownBy (Lib.bytesWorld w e k) none := by
  have h := grownBy_alloc' (grownBy_drew (World.grownBy.refl w none)) (.cells (Lib.bytesCells w e k) e)
  refine ⟨h.os, h.tape, h.output, by rw [Lib.bytesWorld_size]; omega, fun i hi _ => Lib.bytesWorld_at_old w e k i hi⟩
theorem bitL_flip (l : List UInt8) (q r c : Nat) (hq : q < l.length) (hr : r < 8) (hc : ((l[q]?).getD 0).toNat = c) (i : Nat) :
    bitL (l.set q (UInt8.ofNat (c ^^^ 2 ^ (7 - r)))) i = if i = 8 * q + r then 1 - bitL l i else bitL l i := by
  have hp : 2 ^ (7 - r) < 256 := Nat.lt_of_le_of_lt (Nat.pow_le_pow_right (by decide) (by omega : 7 - r ≤ 7)) (by decide)
  have hc8 : c < 256 := by rw [← hc]; exact UInt8.toNat_lt _
  have hor : c ^^^ 2 ^ (7 - r) < 256 := Nat.xor_lt_two_pow (n := 8) hc8 hp
  unfold bitL
  by_cases hiq : i / 8 = q
  · rw [hiq, List.getElem?_set_self hq, Option.getD_some, UInt8.toNat_ofNat_of_lt' hor, hc, bit_test, bit_test, Nat.testBit_xor, Nat.testBit_two_pow]
    by_cases hir : i % 8 = r
    · rw [if_pos (by omega), hir]
      cases c.testBit (7 - r) <;> simp
    · rw [if_neg (by omega)]
      have : decide (7 - r = 7 - i % 8) = false := by simp; omega
      rw [this]
      simp
  · rw [List.getElem?_set_ne (fun e => hiq e.symm), if_neg (by omega)]
theorem half_pow (r : Nat) (h : r < 8) : (128 : Int) / 2 ^ r = ((2 ^ (7 - r) : Nat) : Int) := by
  match r, h with
  | 0, _ | 1, _ | 2, _ | 3, _ | 4, _ | 5, _ | 6, _ | 7, _ => rfl
theorem flip_conv (k : ByteArray) (hk : k.size = 16) (w : World) (KB q : Nat) (hKB : w.heap.size = KB) (u : UInt8) (C : Nat) (W3 : World) (hW : W3.heap = ((Lib.bytesWorld w 5 k).setCell ⟨KB, q, none⟩ (.int .u8 u.toNat)).heap) :
    (convert 74 9 (.slice (some ⟨KB, 0, none⟩) 16 C)).run Tryd.prog W3 = .ok (.string (str (k.data.toList.set q u))) W3 := by
  subst hKB
  have h16 : (k.data.toList.set q u).length = 16 := by rw [List.length_set, Array.length_toList]; exact hk
  have h := run_convert_bytes_back (P := Tryd.prog) W3 74 9 5 ⟨w.heap.size, 0, none⟩ C (k.data.toList.set q u) Tryd.underlying74 Tryd.underlying5 Tryd.underlying9 (fun j hj => by
    have hb := Lib.bytesWorld_at_new w 5 k
    have hj2 : j < k.size := by omega
    have hc := Lib.bytesWorld_cell w 5 k j hj2
    rw [cell_of hb] at hc
    have hs := cell_of (heap_setCell hb q (.int .u8 u.toNat)) j
    have hW3 : W3.cell? ⟨w.heap.size, j, none⟩ = ((Lib.bytesWorld w 5 k).setCell ⟨w.heap.size, q, none⟩ (.int .u8 u.toNat)).cell? ⟨w.heap.size, j, none⟩ := by unfold World.cell?; rw [hW]
    rw [show (⟨w.heap.size, 0, none⟩ : Addr).add j = ⟨w.heap.size, j, none⟩ from (by unfold Addr.add; split <;> simp_all), hW3, hs, Array.getElem?_setIfInBounds]
    have hsz : j < (Lib.bytesCells w 5 k).size := by
      rcases Nat.lt_or_ge j (Lib.bytesCells w 5 k).size with h | h
      · exact h
      · rw [Array.getElem?_eq_none h] at hc; cases hc
    by_cases e : q = j
    · subst e
      simp [hsz]
    · have hl : j < k.data.toList.length := by rw [Array.length_toList]; exact hj2
      rw [if_neg e, hc, List.getElem_set_ne e]
      simp [List.getD, List.getElem?_eq_getElem hl])
  rw [h16] at h
  exact h
set_option maxRecDepth 100000 in
set_option maxHeartbeats 1600000 in
theorem turned_any (k : ByteArray) (hk : k.size = 16) (d : Nat) (hd : d < 128) (w : World) : Calls Tryd.prog 46 #[.string k, .int .i64 d] w fun e w' => ∃ s : ByteArray, e = .returned (.string s) ∧ (s.size = 16 ∧ ∀ i, i < 128 → bitS s i = if i = d then 1 - bitS k i else bitS k i) ∧ w.grownBy w' none := by
  have hcv := conv_bytes k w
  rw [hk] at hcv
  have hg := grown_bytes k w 5
  have hb := Lib.bytesWorld_at_new w 5 k
  obtain ⟨W2, hW2⟩ : ∃ W2, Lib.bytesWorld w 5 k = W2 := ⟨_, rfl⟩
  rw [hW2] at hcv hg hb
  generalize grownCap w 16 0 5 = C at hcv
  obtain ⟨q, hq⟩ : ∃ q, d / 8 = q := ⟨_, rfl⟩
  obtain ⟨r, hr⟩ : ∃ r, d % 8 = r := ⟨_, rfl⟩
  have hq1 : (d : Int) / 8 = (q : Int) := by omega
  have hr1 : (d : Int) % 8 = (r : Int) := by omega
  have hqt : Int.tdiv (d : Int) 8 = (q : Int) := by rw [Int.tdiv_eq_ediv_of_nonneg (by omega)]; exact hq1
  have hrt : Int.tmod (d : Int) 8 = (r : Int) := by rw [Int.tmod_eq_emod_of_nonneg (by omega)]; exact hr1
  have hq16 : (q : Int) < 16 := by omega
  have hq0 : (0 : Int) ≤ (q : Int) := by omega
  have hr8 : (r : Int) < 8 := by omega
  have hr0 : (0 : Int) ≤ (r : Int) := by omega
  obtain ⟨v, hv⟩ : ∃ v : UInt8, k.data.toList.getD q 0 = v := ⟨_, rfl⟩
  have hcell : W2.cell? ⟨w.heap.size, q, none⟩ = some (.int .u8 v.toNat) := by
    rw [← hW2, Lib.bytesWorld_cell w _ k q (by omega), hv]
  have hfree : W2.frozen? ⟨w.heap.size, q, none⟩ = false := by
    have hs : 16 ≤ (Lib.bytesCells w 5 k).size := by unfold Lib.bytesCells; rw [Array.size_append, Array.size_map]; have : k.data.size = 16 := hk; omega
    simp [World.frozen?, hb]
    omega
  have hvl : ((k.data.toList[q]?).getD 0).toNat = v.toNat := by rw [← hv]; rfl
  have hx : bits .xor .u8 (v.toNat : Int) ((128 : Int) / 2 ^ r) = ((UInt8.ofNat (v.toNat ^^^ 2 ^ (7 - r))).toNat : Int) := by
    have hp : 2 ^ (7 - r) < 256 := Nat.lt_of_le_of_lt (Nat.pow_le_pow_right (by decide) (by omega : 7 - r ≤ 7)) (by decide)
    have hor : v.toNat ^^^ 2 ^ (7 - r) < 256 := Nat.xor_lt_two_pow (n := 8) (UInt8.toNat_lt v) hp
    rw [half_pow r (by omega), u8_xor_nat _ _ (UInt8.toNat_lt v) hp, UInt8.toNat_ofNat_of_lt' hor]
  have hbits := fun i => bitL_flip k.data.toList q r v.toNat (by rw [Array.length_toList]; have : k.data.size = 16 := hk; omega) (by omega) hvl i
  generalize UInt8.ofNat (v.toNat ^^^ 2 ^ (7 - r)) = u at hx hbits
  have hfc := flip_conv k hk w w.heap.size q rfl u C
  rw [hW2, ← hx] at hfc
  have hfc1 := hfc (W2.setCell ⟨w.heap.size, q, none⟩ (.int .u8 (bits .xor .u8 (v.toNat : Int) ((128 : Int) / 2 ^ r)))).drew rfl
  have hst : (str (k.data.toList.set q u)).size = 16 := by show (k.data.toList.set q u).length = 16; rw [List.length_set, Array.length_toList]; exact hk
  have hg3 := grownBy_drew (grownBy_setNew hg (Nat.le_refl _) q (.int .u8 (bits .xor .u8 (v.toNat : Int) ((128 : Int) / 2 ^ r))))
  have HB := Lib.hid (And.intro hst (And.intro hg3 hbits))
  have hqr : 8 * q + r = d := by omega
  have HQ := Lib.hid hqr
  obtain ⟨KB, hKB⟩ : ∃ KB, w.heap.size = KB := ⟨_, rfl⟩
  rw [hKB] at hcell hcv hfree hfc1 HB
  clear hb hg hW2 hfc hst hg3 hbits hx hvl hv hqr
  go_enter Tryd.func46, Tryd.ntmps46
  go_wp2_with fail
  go_region
  all_goals
    go_wp2_with fail
    go_ret
    refine ⟨_, rfl, ⟨HB.out.1, fun i _ => ?_⟩, HB.out.2.1⟩
    have := HB.out.2.2 i
    rw [HQ.out] at this
    exact this
end Go.Proofs.YtheabbknflmnfaaDoor
