/- The law OctetWrites: whatever parts are written. -/
import Derived.Test.YtgolffjiepcbpaaOctetS
import Derived.Test.YtgolffjiepcbpaaOctetLaw
import Derived.Test.YtgolffjiepcbpaaOctetF
import Derived.Test.YtgolffjiepcbpaaBase
import Derived.Deep.Slices
import Derived.Deep.Fields
import Derived.Deep.DeepCutAuto
import Derived.Deep.DeepFit
import Derived.Deep.CutBlock
import Derived.Deep.RegionHeld3
import Derived.StillTailTactics
namespace Go.Proofs.Ytgolffjiepcbpaa.octetWrites
open Go.RowKit Go.ChangeShapes Go.WideShapes Go.ChangeAt

theorem small12 {a j m : Nat} (h : a ≤ j * 1048600) (hj : j ≤ m) (hm : m ≤ 12) : a ≤ 12583200 := by
  have := Nat.le_trans hj hm
  omega
theorem sum_fits {a b : Nat} (h : a ≤ 12583200) (h2 : b ≤ 1048600) : a + b ≤ 9223372036854775807 := by omega

theorem tmod3 (x : Int) : -2 ≤ x.tmod 3 ∧ x.tmod 3 ≤ 2 := by
  have h1 := Int.natAbs_tmod x 3
  have h2 : (3 : Int).natAbs = 3 := rfl
  rw [h2] at h1
  have h3 : x.natAbs % 3 < 3 := Nat.mod_lt _ (by decide)
  omega

/-- the copy of a part stands behind a call with the Writer -/
theorem copied {wr w2 : World} {b : Nat} {row : Option Nat} {x0 x1 x2 x3 : Value} (hr : ∀ k, row = some k → k = b) (hlt : b < wr.heap.size) (hg : (wr.alloc (.cells #[x0, x1, x2, x3] 30)).grownBy w2 row) :
    w2.cell? ⟨wr.heap.size, 0, none⟩ = some x0 ∧ w2.cell? ⟨wr.heap.size, 1, none⟩ = some x1 ∧ w2.cell? ⟨wr.heap.size, 2, none⟩ = some x2 ∧ w2.cell? ⟨wr.heap.size, 3, none⟩ = some x3 := by
  have h : w2.heap[wr.heap.size]? = some (.cells #[x0, x1, x2, x3] 30 (0, 0)) := by
    rw [hg.block wr.heap.size (by simp) (by intro e; have := hr _ e.symm; omega)]
    exact heap_alloc_at _ _ _ rfl
  exact ⟨by simp [cell_of h], by simp [cell_of h], by simp [cell_of h], by simp [cell_of h]⟩

theorem wrap_u64 (n : Nat) (h : n ≤ 18446744073709551615) : IntKind.u64.wrap (n : Int) = (n : Int) := by
  simp only [IntKind.wrap, IntKind.bits, IntKind.signed, IntKind.min, IntKind.max]
  simp
  omega

theorem RsAt.drew {w : World} {p : Option Addr} {st : Option RSt} (h : RsAt w p st) : RsAt w.drew p st := by
  cases st with
  | none => exact h
  | some st => exact h
theorem le_max {l : List UInt8} (h : l.length ≤ 12583200) : (str l).size ≤ maxLen := Nat.le_trans h (by decide)
theorem done_nil : (⟨str [], 0⟩ : RSt).done = 0 := by decide

/-- the copy of a part stands behind a call with the Reader, the order of the statement being drawn -/
theorem copied_drew {wr w2 : World} {b : Nat} {x0 x1 x2 x3 : Value} (hlt : b < wr.heap.size) (hg : (wr.alloc (.cells #[x0, x1, x2, x3] 30)).drew.grownBy w2 (prow (some ⟨b, 0, none⟩))) :
    (wr.alloc (.cells #[x0, x1, x2, x3] 30)).grownBy w2 (some b) ∧
    w2.cell? ⟨wr.heap.size, 1, none⟩ = some x1 ∧ w2.cell? ⟨wr.heap.size, 2, none⟩ = some x2 ∧ w2.cell? ⟨wr.heap.size, 3, none⟩ = some x3 := by
  have h : (wr.alloc (.cells #[x0, x1, x2, x3] 30)).grownBy w2 (some b) := ⟨hg.os, hg.tape, hg.output, hg.size, hg.block⟩
  exact ⟨h, (copied (by rintro k ⟨⟩; rfl) hlt h).2⟩

theorem rnum_at {w : World} {b n : Nat} {k : Int} {r : List UInt8} (hf : 1 ≤ k ∧ k ≤ 8 ∧ n < 256 ^ k.toNat) (h : RsAt w (some ⟨b, 0, none⟩) (some ⟨str (be n k.toNat ++ r), 0⟩)) (hm : (str (be n k.toNat ++ r)).size ≤ maxLen) :
    Calls Try.prog 12 #[.pointer (some ⟨b, 0, none⟩), .int .i64 k] w fun e w' => e = .returned (.int .u64 n) ∧ RsAt w' (some ⟨b, 0, none⟩) (some ⟨str r, 0⟩) ∧ w.grownBy w' (prow (some ⟨b, 0, none⟩)) := by
  have h' := rnum_any k w _ _ h (by rintro x ⟨⟩; exact hm)
  rw [Option.map_some, Option.map_some, rd_num hf] at h'
  exact h'
theorem rtext_at {w : World} {b : Nat} {t : ByteArray} {r : List UInt8} (ht : t.size ≤ 4096) (h : RsAt w (some ⟨b, 0, none⟩) (some ⟨str ((be t.size 2 ++ t.data.toList) ++ r), 0⟩)) (hm : (str ((be t.size 2 ++ t.data.toList) ++ r)).size ≤ maxLen) :
    Calls Try.prog 13 #[.pointer (some ⟨b, 0, none⟩)] w fun e w' => e = .returned (.string t) ∧ RsAt w' (some ⟨b, 0, none⟩) (some ⟨str r, 0⟩) ∧ w.grownBy w' (prow (some ⟨b, 0, none⟩)) := by
  have h' := rtext_any w _ _ h (by rintro x ⟨⟩; exact hm)
  rw [Option.map_some, Option.map_some, rd_text ht] at h'
  exact h'
theorem rfixed_at {w : World} {b : Nat} {t : ByteArray} {r : List UInt8} (h : RsAt w (some ⟨b, 0, none⟩) (some ⟨str (t.data.toList ++ r), 0⟩)) (hm : (str (t.data.toList ++ r)).size ≤ maxLen) :
    Calls Try.prog 14 #[.pointer (some ⟨b, 0, none⟩), .int .i64 t.size] w fun e w' => e = .returned (.string t) ∧ RsAt w' (some ⟨b, 0, none⟩) (some ⟨str r, 0⟩) ∧ w.grownBy w' (prow (some ⟨b, 0, none⟩)) := by
  have h' := rfixed_any t.size w _ _ h (by rintro x ⟨⟩; exact hm)
  rw [Option.map_some, Option.map_some, rd_fixed] at h'
  exact h'
theorem fits_of_code {what : Int} {n : Nat} {size : Int} {text : ByteArray} (hk : (PartV.mk what n size text).kind = 0) (hc : (PartV.mk what n size text).code = 0) : 1 ≤ size ∧ size ≤ 8 ∧ n < 256 ^ size.toNat := by
  rw [(of0 ⟨[], 0⟩ hk).2.1] at hc
  apply Decidable.byContradiction
  intro h
  rw [if_pos (refNum_not h)] at hc
  cases hc
theorem small_of_code {what : Int} {n : Nat} {size : Int} {text : ByteArray} (hk : (PartV.mk what n size text).kind = 1) (hc : (PartV.mk what n size text).code = 0) : text.size ≤ 4096 := by
  rw [(of1 ⟨[], 0⟩ hk).2.1] at hc
  apply Decidable.byContradiction
  intro h
  rw [if_pos (by omega)] at hc
  cases hc
theorem size_of_code {what : Int} {n : Nat} {size : Int} {text : ByteArray} (hk : (PartV.mk what n size text).kind = 2) (hc : (PartV.mk what n size text).code = 0) : (text.size : Int) = size := by
  rw [(of2 ⟨[], 0⟩ hk).2.1] at hc
  apply Decidable.byContradiction
  intro h
  rw [if_neg h] at hc
  cases hc

theorem str_empty (l : List UInt8) : (str l).toList.isEmpty = l.isEmpty := by rw [ByteArray.toList_eq]; rfl

theorem wsAt_some {w : World} {b : Nat} {st : WSt} (h : WsAt w (some ⟨b, 0, none⟩) (some st)) : WrAt w b st := by
  obtain ⟨b', hb, hw⟩ := h
  cases hb
  exact hw

set_option maxRecDepth 100000 in
set_option maxHeartbeats 1000000 in
theorem walk (pb po len cap : Nat) (L : Nat → PartV) (w : World) (hlen : len ≤ 9223372036854775807) (hcap : len ≤ cap)
    (hn : ∀ i, i < len → (L i).n ≤ 18446744073709551615 ∧ (L i).text.size ≤ 1048576 ∧ -9223372036854775808 ≤ (L i).size ∧ (L i).size ≤ 9223372036854775807)
    (hc0 : ∀ i, i < len → w.cell? ⟨pb, po + i * 4, none⟩ = some (.int .i64 (L i).what))
    (hc1 : ∀ i, i < len → w.cell? ⟨pb, po + i * 4 + 1, none⟩ = some (.int .u64 (L i).n))
    (hc2 : ∀ i, i < len → w.cell? ⟨pb, po + i * 4 + 2, none⟩ = some (.int .i64 (L i).size))
    (hc3 : ∀ i, i < len → w.cell? ⟨pb, po + i * 4 + 3, none⟩ = some (.string (L i).text)) :
    Calls Try.prog 3 #[.slice (some ⟨pb, po, none⟩) len cap] w fun e w' => e = .returned (.bool true) ∧ Below w.heap.size w w' := by
  have hold : ∀ j, j < len → pb < w.heap.size := fun j hj => World.block_lt_of_cell? w _ (hc0 j hj)
  have HC := Lib.hid (And.intro hc0 (And.intro hc1 (And.intro hc2 hc3)))
  have HN := Lib.hid hn
  clear hc0 hc1 hc2 hc3 hn
  go_enter Try.func3, Try.ntmps3
  go_wp2_with fail
  refine (speaks_true _).mono ?_
  rintro e w1 ⟨rfl, h1⟩
  have B1 := Lib.hid h1
  clear h1
  go_upto_region 5 with (fail)
  go_cut [0, 20] (fun s0 s20 wx => ∃ m : Nat, m ≤ len ∧ m ≤ 12 ∧ s0 = .slice (some ⟨pb, po, none⟩) m cap ∧ wx = w1.alloc (.cells #[.pointer none, .int .i64 0, .int .i64 0] 27))
  case first =>
    go_wp2
    · go_meet
      case rel => exact ⟨12, by omega, by omega, rfl, rfl⟩
    · go_meet
      case rel => exact ⟨len, by omega, by omega, rfl, rfl⟩
  case rest =>
    obtain ⟨m, hm, hm12, rfl, rfl⟩ := hcut
    have hl1 : w.heap.size ≤ w1.heap.size := B1.out.size
    obtain ⟨wb, HWB⟩ : ∃ wb, Hid (wb = w1.heap.size) := ⟨_, rfl⟩
    go_wp2_with fail
    go_loopw [4, 5, 6] (fun wa bd i wr => ∃ j : Nat, ∃ ws : ByteArray, j ≤ m ∧ i = .int .i64 j ∧ wa = .string ws ∧ Hid ((accTo L j).2 = 0 → ws = str (accTo L j).1) ∧ bd = .int .i64 (accTo L j).2 ∧ Hid (WrAt wr w1.heap.size (wrTo L j)) ∧ Hid (Below w.heap.size w wr)) (fun _ _ i _ => m - (intOf i).toNat)
    case atStart => exact ⟨0, _, Nat.zero_le _, rfl, rfl, fun _ => rfl, rfl, (wsAt_some (WsAt.fresh w1) : WrAt _ _ _), B1.out.alloc B1.out.size _⟩
    case round =>
      obtain ⟨j, ws, hj, rfl, rfl, HS1, rfl, HW, HB⟩ := hrel
      have INV := Lib.hid (inv_to L j (fun i hi => (HN.out i (by omega)).2.1))
      by_cases hlt : j < m
      · have d0 := (HB.out.cell (p := ⟨pb, po + j * 4, none⟩) (hold j (by omega))).trans (HC.out.1 j (by omega))
        have d1 := (HB.out.cell (p := ⟨pb, po + j * 4 + 1, none⟩) (hold j (by omega))).trans (HC.out.2.1 j (by omega))
        have d2 := (HB.out.cell (p := ⟨pb, po + j * 4 + 2, none⟩) (hold j (by omega))).trans (HC.out.2.2.1 j (by omega))
        have d3 := (HB.out.cell (p := ⟨pb, po + j * 4 + 3, none⟩) (hold j (by omega))).trans (HC.out.2.2.2 j (by omega))
        have hnj := HN.out j (by omega)
        rcases hx : L j with ⟨what, n, size, text⟩
        rw [hx] at d0 d1 d2 d3 hnj
        simp only at d0 d1 d2 d3 hnj
        have HX := Lib.hid hx
        clear hx
        obtain ⟨hn1, hn2, hn3, hn4⟩ := hnj
        have hm1 : -2 ≤ what.tmod 3 := (tmod3 what).1
        have hm2 : what.tmod 3 ≤ 2 := (tmod3 what).2
        have hlw : w1.heap.size < wr.heap.size := HW.out.lt
        have HT : Hid (total (wrTo L j).ts ≤ j * 1048600) := INV.out.small
        go_upto_block 2 with (fail)
        obtain ⟨K, hK⟩ : ∃ K, K = (what.tmod 3 + 3) % 3 := ⟨_, rfl⟩
        rw [← hK]
        have HK : Hid ((PartV.mk what n size text).kind = K) := hK.symm
        have HK' : Hid (K = 0 ∨ K = 1 ∨ K = 2) := by show _ ∨ _; omega
        clear hK
        go_cut [8, 9] (fun s8 s9 wx => ∃ t : ByteArray, ∃ c : Int, s8 = .string t ∧ s9 = .int .i64 c ∧ t.size ≤ 1048600 ∧ Hid ((PartV.mk what n size text).code = c ∧ (c = 0 → t = str (PartV.mk what n size text).enc)) ∧ Hid (WrAt wx w1.heap.size ((PartV.mk what n size text).wr (wrTo L j))) ∧ Hid (Below w.heap.size w wx))
        case first =>
          have HA : Hid (WsAt (wr.alloc (.cells #[.int .i64 what, .int .u64 n, .int .i64 size, .string text] 30)) (some ⟨w1.heap.size, 0, none⟩) (some (wrTo L j))) := ⟨_, rfl, HW.out.grown (World.grownBy_alloc _ _ _)⟩
          have HBA : Hid (Below w.heap.size w (wr.alloc (.cells #[.int .i64 what, .int .u64 n, .int .i64 size, .string text] 30))) := HB.out.alloc HB.out.size _
          clear d0 d1 d2 d3
          rcases HK'.out with h | h | h
          · have t0 : (K == 0) = true := by simp [h]
            have HK0 : Hid ((PartV.mk what n size text).kind = 0) := HK.out.trans h
            clear h HK HK'
            go_wp2_with fail
            refine (wnum_any n hn1 size _ _ _ HA.out (WRoom.of _ _ (by have := HT.out; omega))).mono ?_
            rintro e w2 ⟨rfl, h2, g2⟩
            obtain ⟨e0, e1, e2, e3⟩ := copied (by rintro k ⟨⟩; rfl) hlw g2
            have HW2 := Lib.hid h2
            have HB2 : Hid (Below w.heap.size w w2) := below_row HBA.out g2 HBA.out.size (by rintro x ⟨⟩; exact hl1)
            clear h2 g2
            go_wp2_with fail
            refine (refNum_any n hn1 size ⟨hn3, hn4⟩ _).mono ?_
            rintro e w3 ⟨rfl, g3⟩
            have HW3 := Lib.hid (HW2.out.grown g3)
            have HB3 : Hid (Below w.heap.size w w3) := HB2.out.trans ((below_grownBy g3).mono HB2.out.size)
            clear g3 HW2 HB2 e0 e1 e2 e3
            by_cases hR : refNum n size = []
            · have hE : (str (refNum n size)).toList.isEmpty = true := by rw [str_empty, hR]; rfl
              have HR := Lib.hid hR
              clear hR
              go_wp2_with fail
              go_meet
              case rel =>
                refine ⟨_, _, rfl, rfl, ?_, ⟨?_, fun h => by cases h⟩, ?_, HB3⟩
                · first | (have := refNum_le n size; rw [str_size]; omega) | (have := refNum_le text.size 2; rw [ByteArray.size_append, str_size]; omega) | omega
                · rw [(of0 (wrTo L j) HK0.out).2.1, if_pos HR.out]
                · rw [(of0 (wrTo L j) HK0.out).2.2]
                  exact wsAt_some HW3.out
            · have hE : (str (refNum n size)).toList.isEmpty = false := by rw [str_empty]; simpa using hR
              have HR := Lib.hid hR
              clear hR
              go_wp2_with fail
              go_meet
              case rel =>
                refine ⟨_, _, rfl, rfl, ?_, ⟨?_, fun _ => ?_⟩, ?_, HB3⟩
                · first | (have := refNum_le n size; rw [str_size]; omega) | (have := refNum_le text.size 2; rw [ByteArray.size_append, str_size]; omega) | omega
                · rw [(of0 (wrTo L j) HK0.out).2.1, if_neg HR.out]
                · rw [(of0 (wrTo L j) HK0.out).1]
                · rw [(of0 (wrTo L j) HK0.out).2.2]
                  exact wsAt_some HW3.out
          · have t0 : (K == 0) = false := by simp [h]
            have t1 : (K == 1) = true := by simp [h]
            have HK0 : Hid ((PartV.mk what n size text).kind = 1) := HK.out.trans h
            clear h HK HK'
            by_cases hS : 4096 < text.size
            all_goals
              go_wp2_with fail
              refine (wtext_any text (by unfold maxLen; omega) _ _ _ HA.out (WRoom.of _ _ (by have := HT.out; omega))).mono ?_
              rintro e w2 ⟨rfl, h2, g2⟩
              obtain ⟨e0, e1, e2, e3⟩ := copied (by rintro k ⟨⟩; rfl) hlw g2
              have HW2 := Lib.hid h2
              have HB2 : Hid (Below w.heap.size w w2) := below_row HBA.out g2 HBA.out.size (by rintro x ⟨⟩; exact hl1)
              clear h2 g2
              have hsz : (str (refNum text.size 2)).size + text.size ≤ 9223372036854775807 := by
                have : (refNum text.size 2).length ≤ 2 := by unfold refNum; split <;> simp [be_length]
                rw [str_size]
                omega
              have hsz2 : (9223372036854775807 < (str (refNum text.size 2)).size + text.size) = False := by rw [eq_iff_iff, iff_false]; omega
              have hwrap := wrap_u64 text.size (by omega)
              go_upto_region 23 with (fail)
              go_region_held3 (fun w' => w'.cell? ⟨wr.heap.size, 3, none⟩ = some (.string text)) (first | exact f3 | exact e3 | go_keep)
                ((go_at_call 7; refine (refNum_any text.size (by omega) 2 (by decide) _).mono ?_; rintro e w3 ⟨rfl, g3⟩; have f3 := World.grownBy.cell g3 (a := ⟨wr.heap.size, 3, none⟩) (v := .string text) (by first | assumption | exact e3) (by simp)))
              have HW3 := Lib.hid (HW2.out.grown ⟨g3.os, g3.tape, g3.output, g3.size, g3.block⟩)
              have HB3 : Hid (Below w.heap.size w w3) := HB2.out.trans ((below_grownBy (a := w2) ⟨g3.os, g3.tape, g3.output, g3.size, g3.block⟩).mono HB2.out.size)
              clear g3 HW2 HB2 e0 e1 e2 e3
              go_wp2_with fail
              go_meet
            · case rel =>
                refine ⟨_, _, rfl, rfl, ?_, ⟨?_, fun h => by cases h⟩, ?_, HB3⟩
                · first | (have := refNum_le n size; rw [str_size]; omega) | (have := refNum_le text.size 2; rw [ByteArray.size_append, str_size]; omega) | omega
                · rw [(of1 (wrTo L j) HK0.out).2.1, if_pos hS]
                · rw [(of1 (wrTo L j) HK0.out).2.2]
                  exact wsAt_some HW3.out
            · case rel =>
                refine ⟨_, _, rfl, rfl, ?_, ⟨?_, fun _ => ?_⟩, ?_, HB3⟩
                · first | (have := refNum_le n size; rw [str_size]; omega) | (have := refNum_le text.size 2; rw [ByteArray.size_append, str_size]; omega) | omega
                · rw [(of1 (wrTo L j) HK0.out).2.1, if_neg hS]
                · rw [(of1 (wrTo L j) HK0.out).1, ← str_append]
                  rfl
                · rw [(of1 (wrTo L j) HK0.out).2.2]
                  exact wsAt_some HW3.out
          · have t0 : (K == 0) = false := by simp [h]
            have t1 : (K == 1) = false := by simp [h]
            have HK0 : Hid ((PartV.mk what n size text).kind = 2) := HK.out.trans h
            clear h HK HK'
            by_cases hS : (text.size : Int) = size
            · have hS2 : ((text.size : Int) != size) = false := by simpa using hS
              have HS := Lib.hid hS
              clear hS
              go_wp2_with fail
              refine (wfixed_any text size _ _ _ HA.out (WRoom.of _ _ (by have := HT.out; omega))).mono ?_
              rintro e w2 ⟨rfl, h2, g2⟩
              obtain ⟨e0, e1, e2, e3⟩ := copied (by rintro k ⟨⟩; rfl) hlw g2
              have HW2 := Lib.hid h2
              have HB2 : Hid (Below w.heap.size w w2) := below_row HBA.out g2 HBA.out.size (by rintro x ⟨⟩; exact hl1)
              clear h2 g2
              go_wp2_with fail
              go_meet
              case rel =>
                refine ⟨_, _, rfl, rfl, ?_, ⟨?_, fun _ => ?_⟩, ?_, HB2⟩
                · first | (have := refNum_le n size; rw [str_size]; omega) | (have := refNum_le text.size 2; rw [ByteArray.size_append, str_size]; omega) | omega
                · rw [(of2 (wrTo L j) HK0.out).2.1, if_pos HS.out]
                · rw [(of2 (wrTo L j) HK0.out).1]
                  rfl
                · rw [(of2 (wrTo L j) HK0.out).2.2]
                  exact wsAt_some HW2.out
            · have hS2 : ((text.size : Int) != size) = true := by simpa using hS
              have HS := Lib.hid hS
              clear hS
              go_wp2_with fail
              refine (wfixed_any text size _ _ _ HA.out (WRoom.of _ _ (by have := HT.out; omega))).mono ?_
              rintro e w2 ⟨rfl, h2, g2⟩
              obtain ⟨e0, e1, e2, e3⟩ := copied (by rintro k ⟨⟩; rfl) hlw g2
              have HW2 := Lib.hid h2
              have HB2 : Hid (Below w.heap.size w w2) := below_row HBA.out g2 HBA.out.size (by rintro x ⟨⟩; exact hl1)
              clear h2 g2
              go_wp2_with fail
              go_meet
              case rel =>
                refine ⟨_, _, rfl, rfl, ?_, ⟨?_, fun h => by cases h⟩, ?_, HB2⟩
                · first | (have := refNum_le n size; rw [str_size]; omega) | (have := refNum_le text.size 2; rw [ByteArray.size_append, str_size]; omega) | omega
                · rw [(of2 (wrTo L j) HK0.out).2.1, if_neg HS.out]
                · rw [(of2 (wrTo L j) HK0.out).2.2]
                  exact wsAt_some HW2.out
        case rest =>
          obtain ⟨t, c, rfl, rfl, ht, HE, HW2, HB2⟩ := hcut
          have HWN : Hid (WrAt wc w1.heap.size (wrTo L (j + 1))) := by
            show WrAt wc w1.heap.size ((L j).wr (wrTo L j))
            rw [HX.out]
            exact HW2.out
          have HAN : Hid (accTo L (j + 1) = (PartV.mk what n size text).acc (accTo L j)) := by
            show (L j).acc (accTo L j) = _
            rw [HX.out]
          by_cases hb : (accTo L j).2 = 0
          · have hb' : ((accTo L j).2 == 0) = true := by simpa using hb
            have hw : ws = str (accTo L j).1 := HS1.out hb
            have hwz : ws.size ≤ 12583200 := by
              rw [hw, str_size, ← INV.out.flat hb, flat_length]
              exact small12 HT.out hj hm12
            have hz : ws.size + t.size ≤ 9223372036854775807 := sum_fits hwz ht
            have HWS := Lib.hid hw
            have HB0 := Lib.hid hb
            clear hw hb
            go_wp2_with fail
            go_roundw
            case rel =>
              have e : accTo L (j + 1) = ((accTo L j).1 ++ (PartV.mk what n size text).enc, c) := by
                rw [HAN.out]
                simp [PartV.acc, HB0.out, HE.out.1]
              refine ⟨j + 1, _, by omega, by go_num, rfl, ?_, ?_, HWN, HB2⟩
              · intro hc
                rw [e] at hc ⊢
                rw [HWS.out, HE.out.2 hc, str_append]
              · rw [e]
            case measure => simp [intOf]; omega
          · have hb' : ((accTo L j).2 == 0) = false := by simpa using hb
            have HB0 := Lib.hid hb
            clear hb
            go_wp2_with fail
            go_roundw
            case rel =>
              have e : accTo L (j + 1) = accTo L j := by
                rw [HAN.out]
                simp [PartV.acc, HB0.out]
              refine ⟨j + 1, _, by omega, by go_num, rfl, ?_, ?_, HWN, HB2⟩
              · rw [e]
                exact HS1.out
              · rw [e]
            case measure => simp [intOf]; omega
      · have hjm : j = m := by omega
        have HJ := Lib.hid hjm
        clear hjm
        by_cases hb : (accTo L j).2 = 0
        · have HB0 := Lib.hid hb
          have hws : Hid (ws = str (accTo L j).1) := HS1.out hb
          obtain ⟨ts, hts⟩ : ∃ ts, ts = (wrTo L j).ts := ⟨_, rfl⟩
          have hst : wrTo L j = ⟨ts, 0⟩ := by
            have := INV.out.err
            rw [hb] at this
            subst hts
            cases h : wrTo L j
            rw [h] at this
            simp at this
            rw [this]
          rw [hst] at HW
          have hflat : flat ts = (accTo L j).1 := by rw [hts]; exact INV.out.flat hb
          have hsmall : total ts ≤ 12583200 := by rw [hts]; exact small12 INV.out.small hj hm12
          have HFL := Lib.hid hflat
          have HGOOD := Lib.hid (acc_good L j hb)
          rw [hb]
          clear hb hts hst hflat
          go_wp2_with fail
          refine (bytes_ok _ _ _ HW.out (Nat.le_trans hsmall (by decide))).mono ?_
          rintro e w2 ⟨rfl, g2⟩
          have HB3 : Hid (Below w.heap.size w w2) := HB.out.trans ((below_grownBy g2).mono HB.out.size)
          clear g2
          rw [HFL.out, ← hws.out]
          go_wp2_with fail
          refine (read_any _ _).mono ?_
          rintro e w3 ⟨rfl, h3, g3⟩
          have HR3 : Hid (RsAt w3 (some ⟨w2.heap.size, 0, none⟩) (some ⟨str (suf L 0 (j - 0)), 0⟩)) := ⟨_, rfl, by rw [Nat.sub_zero, ← HGOOD.out.1, ← hws.out]; exact h3⟩
          have HB4 : Hid (Below w.heap.size w w3) := HB3.out.trans ((below_grownBy g3).mono HB3.out.size)
          have hl2 : w.heap.size ≤ w2.heap.size := HB3.out.size
          clear h3 g3 HB3 HW
          go_wp2_with fail
          go_loopw [13] (fun iv wx => ∃ i : Nat, i ≤ j ∧ iv = .int .i64 i ∧ Hid (RsAt wx (some ⟨w2.heap.size, 0, none⟩) (some ⟨str (suf L i (j - i)), 0⟩)) ∧ Hid ((suf L i (j - i)).length ≤ 12583200) ∧ Hid (Below w.heap.size w wx)) (fun iv _ => j - (intOf iv).toNat)
          case atStart => exact ⟨0, Nat.zero_le _, rfl, HR3, (by show _ ≤ _; rw [Nat.sub_zero, ← HGOOD.out.1, ← HFL.out, flat_length]; exact hsmall), HB4⟩
          case round =>
            clear HR3 HB4
            obtain ⟨i, hi, rfl, HR, HLEN, HBX⟩ := hrel
            by_cases hij : i < j
            · have him : i < m := by have := HJ.out; omega
              have d0 := (HBX.out.cell (p := ⟨pb, po + i * 4, none⟩) (hold i (by omega))).trans (HC.out.1 i (by omega))
              have d1 := (HBX.out.cell (p := ⟨pb, po + i * 4 + 1, none⟩) (hold i (by omega))).trans (HC.out.2.1 i (by omega))
              have d2 := (HBX.out.cell (p := ⟨pb, po + i * 4 + 2, none⟩) (hold i (by omega))).trans (HC.out.2.2.1 i (by omega))
              have d3 := (HBX.out.cell (p := ⟨pb, po + i * 4 + 3, none⟩) (hold i (by omega))).trans (HC.out.2.2.2 i (by omega))
              have hgood := HGOOD.out.2 i hij
              have hsuf : suf L i (j - i) = (L i).enc ++ suf L (i + 1) (j - (i + 1)) := by
                rw [show j - i = (j - (i + 1)) + 1 from by omega]
                rfl
              rw [hsuf] at HR HLEN
              clear hsuf
              rcases hx : L i with ⟨what, n, size, text⟩
              rw [hx] at d0 d1 d2 d3 hgood HR HLEN
              simp only at d0 d1 d2 d3
              have HGI := Lib.hid hgood
              clear hx hgood
              obtain ⟨r, hr⟩ : ∃ r, r = suf L (i + 1) (j - (i + 1)) := ⟨_, rfl⟩
              rw [← hr] at HR HLEN
              have HRS := Lib.hid hr
              clear hr
              have hm1 : -2 ≤ what.tmod 3 := (tmod3 what).1
              have hm2 : what.tmod 3 ≤ 2 := (tmod3 what).2
              have hlw : w2.heap.size < wr.heap.size := by obtain ⟨b, hb, h⟩ := HR.out; cases hb; exact h.lt
              go_upto_block 5 with (fail)
              obtain ⟨K, hK⟩ : ∃ K, K = (what.tmod 3 + 3) % 3 := ⟨_, rfl⟩
              rw [← hK]
              have HK : Hid ((PartV.mk what n size text).kind = K) := hK.symm
              have HK' : Hid (K = 0 ∨ K = 1 ∨ K = 2) := by show _ ∨ _; omega
              clear hK
              rcases HK'.out with h | h | h
              · have t0 : (K == 0) = true := by simp [h]
                have HK0 : Hid ((PartV.mk what n size text).kind = 0) := HK.out.trans h
                have hfit := fits_of_code HK0.out HGI.out
                have HF := Lib.hid hfit
                clear hfit
                rw [(of0 ⟨[], 0⟩ HK0.out).1, (refNum_fits HF.out).1] at HR HLEN
                have HRA := Lib.hid (RsAt.drew (HR.out.grown (World.grownBy_alloc wr (.cells #[.int .i64 what, .int .u64 n, .int .i64 size, .string text] 30) none)))
                have HMX := Lib.hid (le_max HLEN.out)
                have HBA : Hid (Below w.heap.size w (wr.alloc (.cells #[.int .i64 what, .int .u64 n, .int .i64 size, .string text] 30))) := HBX.out.alloc HBX.out.size _
                clear h HK HK' d0 d1 d2 d3 HR
                go_wp2_with fail
                go_region_held3 (fun w' => w'.cell? ⟨wr.heap.size, 1, none⟩ = some (.int .u64 n) ∧ w'.cell? ⟨wr.heap.size, 2, none⟩ = some (.int .i64 size) ∧ w'.cell? ⟨wr.heap.size, 3, none⟩ = some (.string text)) (first | exact ck.2 | go_keep)
                  ((go_at_call 12; refine (rnum_at HF.out HRA.out HMX.out).mono ?_; rintro e w4 ⟨rfl, h4, g4⟩; have ck := copied_drew hlw g4; have H4 := Lib.hid h4; clear h4))
                have HB5 : Hid (Below w.heap.size w w4) := HBA.out.grown ck.1 HBA.out.size (by rintro k ⟨⟩; exact hl2)
                clear g4 ck
                go_wp2_with fail
                go_roundw
                case rel => exact ⟨i + 1, by omega, by go_num, by rw [← HRS.out]; exact H4.out, (by have := HLEN.out; rw [List.length_append] at this; rw [← HRS.out]; show _ ≤ _; omega), HB5⟩
                case measure => simp [intOf]; omega
              · have t0 : (K == 0) = false := by simp [h]
                have t1 : (K == 1) = true := by simp [h]
                have HK0 : Hid ((PartV.mk what n size text).kind = 1) := HK.out.trans h
                have hfit := small_of_code HK0.out HGI.out
                have HF := Lib.hid hfit
                clear hfit
                rw [(of1 ⟨[], 0⟩ HK0.out).1, refNum_len HF.out] at HR HLEN
                have HRA := Lib.hid (RsAt.drew (HR.out.grown (World.grownBy_alloc wr (.cells #[.int .i64 what, .int .u64 n, .int .i64 size, .string text] 30) none)))
                have HMX := Lib.hid (le_max HLEN.out)
                have HBA : Hid (Below w.heap.size w (wr.alloc (.cells #[.int .i64 what, .int .u64 n, .int .i64 size, .string text] 30))) := HBX.out.alloc HBX.out.size _
                clear h HK HK' d0 d1 d2 d3 HR
                go_wp2_with fail
                go_region_held3 (fun w' => w'.cell? ⟨wr.heap.size, 1, none⟩ = some (.int .u64 n) ∧ w'.cell? ⟨wr.heap.size, 2, none⟩ = some (.int .i64 size) ∧ w'.cell? ⟨wr.heap.size, 3, none⟩ = some (.string text)) (first | exact ck.2 | go_keep)
                  ((go_at_call 13; refine (rtext_at HF.out HRA.out HMX.out).mono ?_; rintro e w4 ⟨rfl, h4, g4⟩; have ck := copied_drew hlw g4; have H4 := Lib.hid h4; clear h4))
                have HB5 : Hid (Below w.heap.size w w4) := HBA.out.grown ck.1 HBA.out.size (by rintro k ⟨⟩; exact hl2)
                clear g4 ck
                go_wp2_with fail
                go_roundw
                case rel => exact ⟨i + 1, by omega, by go_num, by rw [← HRS.out]; exact H4.out, (by have := HLEN.out; rw [List.length_append] at this; rw [← HRS.out]; show _ ≤ _; omega), HB5⟩
                case measure => simp [intOf]; omega
              · have t0 : (K == 0) = false := by simp [h]
                have t1 : (K == 1) = false := by simp [h]
                have HK0 : Hid ((PartV.mk what n size text).kind = 2) := HK.out.trans h
                have hfit := size_of_code HK0.out HGI.out
                subst hfit
                rw [(of2 ⟨[], 0⟩ HK0.out).1] at HR HLEN
                have HRA := Lib.hid (RsAt.drew (HR.out.grown (World.grownBy_alloc wr (.cells #[.int .i64 what, .int .u64 n, .int .i64 text.size, .string text] 30) none)))
                have HMX := Lib.hid (le_max HLEN.out)
                have HBA : Hid (Below w.heap.size w (wr.alloc (.cells #[.int .i64 what, .int .u64 n, .int .i64 text.size, .string text] 30))) := HBX.out.alloc HBX.out.size _
                clear h HK HK' d0 d1 d2 d3 HR
                go_wp2_with fail
                go_region_held3 (fun w' => w'.cell? ⟨wr.heap.size, 1, none⟩ = some (.int .u64 n) ∧ w'.cell? ⟨wr.heap.size, 2, none⟩ = some (.int .i64 text.size) ∧ w'.cell? ⟨wr.heap.size, 3, none⟩ = some (.string text)) (first | exact ck.2 | go_keep)
                  ((go_at_call 14; refine (rfixed_at HRA.out HMX.out).mono ?_; rintro e w4 ⟨rfl, h4, g4⟩; have ck := copied_drew hlw g4; have H4 := Lib.hid h4; clear h4))
                have HB5 : Hid (Below w.heap.size w w4) := HBA.out.grown ck.1 HBA.out.size (by rintro k ⟨⟩; exact hl2)
                clear g4 ck
                go_wp2_with fail
                go_roundw
                case rel => exact ⟨i + 1, by omega, by go_num, by rw [← HRS.out]; exact H4.out, (by have := HLEN.out; rw [List.length_append] at this; rw [← HRS.out]; show _ ≤ _; omega), HB5⟩
                case measure => simp [intOf]; omega
            · have hij2 : i = j := by omega
              rw [hij2, Nat.sub_self] at HR
              rw [show suf L j 0 = [] from rfl] at HR
              have hse : (ws.toList == ws.toList) = true := by simp
              go_wp2_with fail
              refine (end_any _ _ _ HR.out).mono ?_
              rintro e w5 ⟨rfl, rfl⟩
              rw [Option.map_some, done_nil]
              go_wp2_with fail
              refine (left_any _ _ _ HR.out).mono ?_
              rintro e w6 ⟨rfl, rfl⟩
              rw [Option.map_some, show (str []).size = 0 from rfl]
              go_wp2
              go_ret
              exact ⟨rfl, HBX.out⟩
        · have hb' : ((accTo L j).2 != 0) = true := by simpa using hb
          have HB0 := Lib.hid hb
          clear hb
          go_wp2_with fail
          refine (bytes_err _ _ _ HW.out (by rw [INV.out.err]; exact HB0.out)).mono ?_
          rintro e w2 ⟨rfl, g2⟩
          rw [INV.out.err]
          have HB3 : Hid (Below w.heap.size w w2) := HB.out.trans ((below_grownBy g2).mono HB.out.size)
          clear g2
          go_wp2
          go_ret
          exact ⟨rfl, HB3.out⟩
end Go.Proofs.Ytgolffjiepcbpaa.octetWrites
