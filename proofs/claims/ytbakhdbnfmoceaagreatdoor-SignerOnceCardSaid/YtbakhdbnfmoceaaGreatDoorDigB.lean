/- The walk of digits.Of. -/
import Derived.Test.YtbakhdbnfmoceaaGreatDoorDigA
namespace Go.Proofs.YtbakhdbnfmoceaaGreatDoor
open Go.RowKit

theorem slice_two (B : Nat) (w : World) : (Instr.sliceAt 129 (.pointer (some ⟨B, 0, none⟩)) none none none).run Tryz.prog w = .ok (.slice (some ⟨B, 0, none⟩) 2 2) w := by
  have hl : Tryz.prog.arrayLen 129 = 2 := by kernel_rfl
  have he : Tryz.prog.elem 129 = 3 := by kernel_rfl
  obtain ⟨i0, h0⟩ : ∃ i0, Tryz.prog.info? 3 = some i0 := Option.isSome_iff_exists.1 (by kernel_rfl)
  have hc : Tryz.prog.cellsOf 3 = 1 := by kernel_rfl
  rw [run_sliceAt_array_all w 129 ⟨B, 0, none⟩ (by rw [hl, he]; exact Tryz.underlying129), hl, he, run_sizeOf w h0, hc]
  simp [Result.andThen, slicedAt, Addr.add]
theorem slice_three (B : Nat) (w : World) : (Instr.sliceAt 131 (.pointer (some ⟨B, 0, none⟩)) none none none).run Tryz.prog w = .ok (.slice (some ⟨B, 0, none⟩) 3 3) w := by
  have hl : Tryz.prog.arrayLen 131 = 3 := by kernel_rfl
  have he : Tryz.prog.elem 131 = 3 := by kernel_rfl
  obtain ⟨i0, h0⟩ : ∃ i0, Tryz.prog.info? 3 = some i0 := Option.isSome_iff_exists.1 (by kernel_rfl)
  have hc : Tryz.prog.cellsOf 3 = 1 := by kernel_rfl
  rw [run_sliceAt_array_all w 131 ⟨B, 0, none⟩ (by rw [hl, he]; exact Tryz.underlying131), hl, he, run_sizeOf w h0, hc]
  simp [Result.andThen, slicedAt, Addr.add]
theorem cells_new (w : World) (t : TypeId) (cs : List Value) : ∀ j u, cs[j]? = some u → (w.alloc (.cells cs.toArray t)).cell? ((⟨w.heap.size, 0, none⟩ : Addr).add j) = some u := by
  intro j u hj
  rw [show Addr.add ⟨w.heap.size, 0, none⟩ j = (⟨w.heap.size, j, none⟩ : Addr) from by simp [Addr.add]; omega, cell_of (heap_alloc_at w (.cells cs.toArray t) _ rfl)]
  simpa using hj
theorem ints_one (L : List Int) : ∀ u ∈ ints L, u.oneCell' = true := by
  intro u hu
  obtain ⟨x, _, rfl⟩ := List.mem_map.1 hu
  rfl

set_option maxHeartbeats 400000 in
theorem of_bad (s : ByteArray) (hs : s.size ≤ maxLen) (h : s.size ≠ 16) (w : World) :
    Calls Tryz.prog 51 #[.string s] w fun e w' => e = .returned (.tuple #[.slice none 0 0, .int .i64 1]) ∧ w = w' := by
  unfold maxLen at hs
  have hb : ((s.size : Int) != 16) = true := by simp; omega
  go_enter Tryz.func51, Tryz.ntmps51
  go_wp2
  go_ret2
  exact ⟨rfl, rfl⟩

set_option maxRecDepth 100000 in
set_option maxHeartbeats 800000 in
theorem of_ok (s : ByteArray) (h : s.size = 16) (w : World) :
    Calls Tryz.prog 51 #[.string s] w fun e w' => ∃ v, e = .returned (.tuple #[v, .int .i64 0]) ∧ IntsAt w' v (digs s.data.toList) ∧ w.grownBy w' none := by
  obtain ⟨i0, hi, hz0, hz1, hz2⟩ := info_parts infoIntD
  have hb : ((s.size : Int) != 16) = false := by simp; omega
  have H16 := Lib.hid h
  have hs1 : s.size ≤ 16 := by omega
  clear h
  go_enter Tryz.func51, Tryz.ntmps51
  go_wp2_with (at_make; refine wpList_make_own _ rfl _ _ 35 rfl w.heap.size 3 i0 (.int .i64 0) 1 Tryz.underlying35 hi hz0 hz1 _ _ _ 35 rfl rfl rfl ?c1 ?c2 ?c3 ?_)
  case c1 => rw [hz2]; omega
  case c2 => unfold maxLen; omega
  case c3 => omega
  intro w1 hown hg
  have HO := Lib.hid hown
  have HG := Lib.hid hg
  clear hown hg
  go_wp2_with fail
  go_loopw [4, 5, 6, 14] (fun lv _ _ iv wr => ∃ k : Nat, ∃ len : Nat, k ≤ 16 ∧ len = 2 * k ∧ iv = .int .i64 k ∧ lv = .slice (some ⟨w.heap.size, 0, none⟩) len 35 ∧ Hid (wr.ownsRow w.heap.size 3 1 (.slice (some ⟨w.heap.size, 0, none⟩) len 35) len (ints (digL (s.data.toList.take k)))) ∧ Hid (w.grownBy wr none)) (fun _ _ _ iv _ => 16 - (intOf iv).toNat)
  case atStart => exact ⟨0, 0, Nat.zero_le _, rfl, rfl, rfl, HO.out, HG.out⟩
  case round =>
    clear HO HG
    obtain ⟨k, len, hk, hlen, rfl, rfl, HO, HG⟩ := hrel
    by_cases hlt : k < 16
    · have hl35 : len + 2 ≤ 35 := by omega
      have HLN := Lib.hid hlen
      clear hlen
      have hks : k < s.size := by have := H16.out; omega
      have hsn := digL_take s k hks
      have b1 : (0 : Int) ≤ (k : Int) := by omega
      have b2 : (k : Int) < (s.size : Int) := by omega
      generalize hc : s[k] = c at hsn
      have HS := Lib.hid hsn
      have HCC := Lib.hid hc
      clear hsn hc
      have hbl := HO.out.lt w.heap.size rfl
      go_wp2_with fail
      rw [HCC.out]
      refine (halves_any c _).mono ?_
      rintro e w2 ⟨rfl, h2⟩
      have G2 := Lib.hid (grownBy_trans HG.out (grownBy_below h2))
      have HO2 := Lib.hid (own_kept HO.out (grownBy_below h2))
      clear h2 HO HG HCC
      have hsl := slice_two w2.heap.size
      go_wp2_with (refine wpList_append_fits _ rfl _ _ 35 rfl w.heap.size 3 i0 1 Tryz.underlying35 hi hz1 w.heap.size len 35 _ rfl (HO2.out.alloc _) ⟨w2.heap.size, 0, none⟩ 2 2 (ints [(c.toNat : Int) / 16, (c.toNat : Int) % 16]) rfl rfl ?q1 ?q2 ?q3 ?_)
      case q1 => exact cells_new w2 _ (ints [(c.toNat : Int) / 16, (c.toNat : Int) % 16])
      case q2 => exact ints_one _
      case q3 => omega
      intro w3 hown3 hg3
      have HO3 := Lib.hid hown3
      have HG3 : Hid (w.grownBy w3 none) := grownBy_below (((below_grownBy G2.out).alloc G2.out.size _).grown hg3 (by have := G2.out.size; simp; omega) (by intro r hr; cases hr; exact Nat.le_refl _))
      clear hown3 hg3 HO2 G2
      go_wp2_with fail
      go_roundw
      case rel =>
        refine ⟨k + 1, len + 2, by omega, by have := HLN.out; omega, by go_num, rfl, ?_, HG3.out⟩
        show World.ownsRow _ _ _ _ _ _ _
        rw [HS.out, ints_append]
        exact HO3.out
      case measure => simp [intOf]; omega
    · have : k = 16 := by omega
      subst this
      obtain rfl : len = 32 := by omega
      have hl16 : s.data.toList.length = 16 := H16.out
      have ho := HO.out
      rw [List.take_of_length_le (by omega)] at ho
      have hin := ints_of_own ho
      have hb1 := sum_lefts_bd s.data.toList
      have hb2 := lefts_bd (digL s.data.toList)
      have hb3 : (digL s.data.toList).length = 32 := by rw [digL_length]; omega
      have hD : digs s.data.toList = digL s.data.toList ++ chk (sumI (lefts (digL s.data.toList))) := rfl
      rw [hl16] at hb1
      have HO2 := Lib.hid ho
      have HI := Lib.hid hin
      have HB := Lib.hid (And.intro hb2 hb3)
      have HD := Lib.hid hD
      clear ho hin HO hb2 hb3 hD hl16
      generalize digL s.data.toList = L at hb1 HO2 HI HB HD
      have hbl := HO2.out.lt w.heap.size rfl
      go_wp2_with fail
      refine (left_any _ L _ HI.out (by rw [HB.out.2]; omega)).mono ?_
      rintro e w2 ⟨v2, rfl, h2, g2⟩
      have HI2 := Lib.hid h2
      have HO3 := Lib.hid (own_kept HO2.out g2)
      have HG3 := Lib.hid (grownBy_trans HG.out g2)
      clear h2 g2 HO2 HI HG
      go_wp2_with fail
      refine (dsum_any _ _ _ HI2.out HB.out.1 (by rw [lefts_length, HB.out.2]; omega)).mono ?_
      rintro e w' ⟨rfl, rfl⟩
      obtain ⟨n, hn⟩ : ∃ n, sumI (lefts L) = n := ⟨_, rfl⟩
      rw [hn] at hb1 HD ⊢
      clear hn
      go_wp2_with fail
      refine (inSixteens_any n hb1.1 (by omega) _).mono ?_
      rintro e w4 ⟨rfl, h4⟩
      have HO4 := Lib.hid (own_kept HO3.out (grownBy_below h4))
      have HG4 := Lib.hid (grownBy_trans HG3.out (grownBy_below h4))
      clear h4 HO3 HG3
      have hsl := slice_three w4.heap.size
      go_wp2_with (refine wpList_append_fits _ rfl _ _ 35 rfl w.heap.size 3 i0 1 Tryz.underlying35 hi hz1 w.heap.size 32 35 _ rfl (HO4.out.alloc _) ⟨w4.heap.size, 0, none⟩ 3 3 (ints (chk n)) rfl rfl ?r1 ?r2 ?r3 ?_)
      case r1 => exact cells_new w4 _ (ints (chk n))
      case r2 => exact ints_one _
      case r3 => omega
      intro w5 hown5 hg5
      have HG5 : Hid (w.grownBy w5 none) := grownBy_below (((below_grownBy HG4.out).alloc HG4.out.size _).grown hg5 (by have := HG4.out.size; simp; omega) (by intro r hr; cases hr; exact Nat.le_refl _))
      rw [← ints_append, ← HD.out] at hown5
      have HI5 := Lib.hid (ints_of_own hown5)
      clear hown5 hg5 HO4 HG4
      go_wp2_with fail
      go_ret2
      exact ⟨.slice (some ⟨w.heap.size, 0, none⟩) 35 35, rfl, HI5.out, HG5.out⟩
end Go.Proofs.YtbakhdbnfmoceaaGreatDoor
