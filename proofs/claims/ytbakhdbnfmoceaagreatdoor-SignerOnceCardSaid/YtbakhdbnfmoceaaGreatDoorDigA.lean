/- The walks of digits' small functions. -/
import Derived.Test.YtbakhdbnfmoceaaGreatDoorInts
import Derived.Test.YtbakhdbnfmoceaaGreatDoorDigSpec
import Derived.WalkSpells
import Derived.WalkLawsBesides
import Derived.Laws.IdiomStrings
import Derived.Deep.LoopGhost
namespace Go.Proofs.YtbakhdbnfmoceaaGreatDoor
open Go.RowKit

theorem infoIntD : (Tryz.prog.info? 3).map (fun i => (i.zero, i.size, i.bytes)) = some (some (.int .i64 0), 1, 8) := by kernel_rfl
theorem and_low (c : Nat) (h : c < 256) : bits .and .u8 (c : Int) 15 = (c : Int) % 16 := by
  rw [show (15 : Int) = ((15 : Nat) : Int) from rfl, u8_and_nat _ _ h (by omega)]
  have : c &&& 15 = c % 16 := Nat.and_two_pow_sub_one_eq_mod c 4
  rw [this]
  omega

set_option maxHeartbeats 400000 in
theorem halves_any (b : UInt8) (w : World) :
    Calls Tryz.prog 73 #[.int .u8 b.toNat] w fun e w' => e = .returned (.agg #[.int .i64 ((b.toNat : Int) / 16), .int .i64 ((b.toNat : Int) % 16)]) ∧ Below w.heap.size w w' := by
  have hc := b.toNat_lt
  have hl := and_low b.toNat hc
  generalize b.toNat = c at hc hl
  have b4 : (c : Int) / 16 < 16 := by omega
  have b5 : (c : Int) / 16 < 256 := by omega
  go_enter Tryz.func73, Tryz.ntmps73
  go_wp2
  exact bodyPost_ret (v := .agg #[.int .i64 ((c : Int) / 16), .int .i64 ((c : Int) % 16)]) (by simp [results, Tryz.results73, go_sem]) rfl ⟨rfl, (Below.refl _ _).alloc (Nat.le_refl _) _⟩

set_option maxHeartbeats 400000 in
theorem dsum_any (v : Value) (L : List Int) (w : World) (hv : IntsAt w v L) (hL : ∀ x ∈ L, 0 ≤ x ∧ x ≤ 15) (hn : L.length ≤ 1000000) :
    Calls Tryz.prog 75 #[v] w fun e w' => e = .returned (.int .i64 (sumI L)) ∧ w = w' := by
  obtain ⟨a, cap, rfl, hc⟩ := hv
  have HC := Lib.hid hc
  have HL := Lib.hid hL
  clear hc hL
  go_enter Tryz.func75, Tryz.ntmps75
  go_wp2
  go_loop [3, 8] (fun nv iv => ∃ k : Nat, k ≤ L.length ∧ iv = .int .i64 k ∧ nv = .int .i64 (sumI (L.take k))) (fun _ iv => L.length - (intOf iv).toNat)
  case atStart => exact ⟨0, Nat.zero_le _, rfl, rfl⟩
  case round =>
    obtain ⟨k, hk, rfl, rfl⟩ := hrel
    by_cases hlt : k < L.length
    · obtain ⟨g, o, rfl, hcell⟩ := HC.out k hlt
      have hx := HL.out L[k] (List.getElem_mem hlt)
      have hs := sumI_bd (L.take k) (fun x hx => HL.out x (List.mem_of_mem_take hx))
      have hsn : sumI (L.take (k + 1)) = sumI (L.take k) + L[k] := by rw [List.take_succ_eq_append_getElem hlt, sumI_snoc]
      have hlk : (L.take k).length ≤ L.length := by simp; omega
      generalize L[k] = x at hcell hx hsn
      have HS := Lib.hid hsn
      clear hsn
      generalize sumI (L.take k) = m at hs HS ⊢
      have b1 : (0 : Int) ≤ (k : Int) := by omega
      have b2 : (k : Int) < (L.length : Int) := by omega
      go_wp2
      go_round
      case rel => exact ⟨k + 1, by omega, by go_num, by rw [HS.out]⟩
      case measure => simp [intOf]; omega
    · have : k = L.length := by omega
      subst this
      go_wp2
      go_ret
      exact ⟨rfl, rfl⟩

set_option maxHeartbeats 800000 in
theorem left_any (v : Value) (L : List Int) (w : World) (hv : IntsAt w v L) (hn : L.length ≤ 1000000) :
    Calls Tryz.prog 76 #[v] w fun e w' => ∃ v', e = .returned v' ∧ IntsAt w' v' (lefts L) ∧ w.grownBy w' none := by
  obtain ⟨i0, hi, hz0, hz1, hz2⟩ := info_parts infoIntD
  obtain ⟨a, cap, rfl, hc⟩ := hv
  have HC := Lib.hid hc
  clear hc
  go_enter Tryz.func76, Tryz.ntmps76
  go_wp2_with (at_make; refine wpList_make_full _ rfl _ _ 35 rfl w.heap.size 3 i0 (.int .i64 0) 1 Tryz.underlying35 hi hz0 hz1 _ _ _ _ L.length rfl rfl rfl rfl ?c1 ?c2 ?c3 ?_)
  case c1 => rw [hz2]; omega
  case c2 => unfold maxLen; omega
  case c3 => omega
  intro w1 hown hg
  have hrow : ∀ k, k ≤ L.length → ((madeCells #[Value.int .i64 0] L.length).toList = ints (lefts (L.take 0) ++ List.replicate (L.length - 0) 0)) := by
    intro k hk
    apply List.ext_getElem?
    intro i
    simp [madeCells, ints, lefts, List.getElem?_replicate]
    by_cases h : i < L.length <;> simp [h, Nat.mod_one]
  rw [hrow 0 (Nat.zero_le _)] at hown
  have HO := Lib.hid hown
  have HG := Lib.hid hg
  clear hown hg hrow
  go_wp2_with fail
  go_loopw [4, 5, 11] (fun _ _ i wr => ∃ k : Nat, k ≤ L.length ∧ i = .int .i64 k ∧ Hid (wr.ownsRow w.heap.size 3 1 (.slice (some ⟨w.heap.size, 0, none⟩) L.length L.length) L.length (ints (lefts (L.take k) ++ List.replicate (L.length - k) 0))) ∧ Hid (w.grownBy wr none))
    (fun _ _ i _ => L.length - (intOf i).toNat)
  case atStart => exact ⟨0, Nat.zero_le _, rfl, HO.out, HG.out⟩
  case round =>
    clear HO HG
    obtain ⟨k, hk, rfl, HO, HG⟩ := hrel
    by_cases hlt : k < L.length
    · obtain ⟨g, o, rfl, hcell⟩ := HC.out k hlt
      have hcell' : wr.cell? ⟨g, o + k, none⟩ = some (.int .i64 L[k]) := HG.out.cell hcell (by simp)
      have hsn : lefts (L.take (k + 1)) = lefts (L.take k) ++ [leftI L[k]] := by rw [List.take_succ_eq_append_getElem hlt]; unfold lefts; rw [List.map_append]; rfl
      have hset : (ints (lefts (L.take k) ++ List.replicate (L.length - k) 0)).set k (.int .i64 (leftI L[k])) = ints (lefts (L.take (k + 1)) ++ List.replicate (L.length - (k + 1)) 0) := by
        have hll : (lefts (L.take k)).length = k := by rw [lefts_length]; simp; omega
        rw [hsn, show L.length - k = (L.length - (k + 1)) + 1 from by omega, List.replicate_succ, ints_append, List.set_append_right _ _ (by rw [ints_length]; omega), ints_length, hll, Nat.sub_self]
        simp [ints]
      have hat : wr.cell? ⟨w.heap.size, k, none⟩ = some (.int .i64 0) := by
        rw [HO.out.cellAt k (by omega), ints_append, List.getElem?_append_right (by rw [ints_length, lefts_length]; simp; omega), ints_length, lefts_length]
        simp [ints, List.getElem?_replicate]
        omega
      have hf := HO.out.frozenAt k
      have HS := Lib.hid hset
      clear hset hsn hcell
      generalize L[k] = x at hcell' HS
      have b1 : (0 : Int) ≤ (k : Int) := by omega
      have b2 : (k : Int) < (L.length : Int) := by omega
      by_cases hx : 0 ≤ x ∧ x ≤ 15
      · obtain ⟨hx0, hx1⟩ := hx
        go_wp2_with fail
        go_roundw
        case rel =>
          refine ⟨k + 1, by omega, by go_num, ?_, grownBy_setNew HG.out (Nat.le_refl _) _ _⟩
          show World.ownsRow _ _ _ _ _ _ _
          rw [← HS.out, leftI_yes x hx0 hx1]
          exact (HO.out.stored _ _).1
        case measure => simp [intOf]; omega
      · have hno := leftI_no x hx
        rw [hno] at HS
        have hz : (ints (lefts (L.take k) ++ List.replicate (L.length - k) 0)).set k (.int .i64 0) = ints (lefts (L.take k) ++ List.replicate (L.length - k) 0) := by
          have h0 := HO.out.cellAt k (by omega)
          rw [hat] at h0
          apply List.ext_getElem?
          intro i
          rw [List.getElem?_set]
          split
          · next h => subst h; rw [← h0]; simp; exact (List.getElem?_eq_some_iff.1 h0.symm).1
          · rfl
        rw [hz] at HS
        clear hno hz hf hat
        by_cases hx0 : 0 ≤ x
        · have hx1 : ¬ x ≤ 15 := fun h => hx ⟨hx0, h⟩
          clear hx
          go_wp2_with fail
          go_roundw
          case rel =>
            refine ⟨k + 1, by omega, by go_num, ?_, HG.out⟩
            show World.ownsRow _ _ _ _ _ _ _
            rw [← HS.out]
            exact HO.out
          case measure => simp [intOf]; omega
        · clear hx
          go_wp2_with fail
          go_roundw
          case rel =>
            refine ⟨k + 1, by omega, by go_num, ?_, HG.out⟩
            show World.ownsRow _ _ _ _ _ _ _
            rw [← HS.out]
            exact HO.out
          case measure => simp [intOf]; omega
    · have : k = L.length := by omega
      subst this
      have hr := HO.out
      rw [Nat.sub_self, List.take_of_length_le (Nat.le_refl _), List.replicate_zero, List.append_nil] at hr
      have hi := ints_of_own hr
      have HI := Lib.hid hi
      clear hr hi HO
      go_wp2_with fail
      go_ret
      exact ⟨_, rfl, HI.out, HG.out⟩

def sixQ (n : Int) : Nat → Int | 0 => n | 1 => n / 16 | 2 => n / 16 / 16 | _ => n / 16 / 16 / 16
def sixR (n : Int) : Nat → List Int | 0 => [0, 0, 0] | 1 => [0, 0, n % 16] | 2 => [0, n / 16 % 16, n % 16] | _ => [n / 16 / 16 % 16, n / 16 % 16, n % 16]

set_option maxHeartbeats 800000 in
theorem inSixteens_any (n : Int) (h0 : 0 ≤ n) (h1 : n ≤ 4095) (w : World) :
    Calls Tryz.prog 74 #[.int .i64 n] w fun e w' => e = .returned (.agg #[.int .i64 (n / 256), .int .i64 (n / 16 % 16), .int .i64 (n % 16)]) ∧ Below w.heap.size w w' := by
  go_enter Tryz.func74, Tryz.ntmps74
  go_wp2_with fail
  go_loopw [0, 4, 5] (fun nv _ iv wr => ∃ k : Nat, k ≤ 3 ∧ iv = .int .i64 k ∧ nv = .int .i64 (sixQ n k) ∧ Hid (wr.heap[w.heap.size + 1]? = some (.cells (ints (sixR n k)).toArray 131 (0, 0))) ∧ Hid (wr.heap[w.heap.size]? = some (.cells (ints [0, 0, 0]).toArray 131 (0, 0))) ∧ Hid (w.grownBy wr none)) (fun _ _ iv _ => 3 - (intOf iv).toNat)
  case atStart =>
    refine ⟨0, Nat.zero_le _, rfl, rfl, ?_, ?_, grownBy_alloc' (grownBy_alloc' (World.grownBy.refl _ _) _) _⟩
    · show _ = _
      exact heap_alloc_at _ _ _ (by simp)
    · show _ = _
      rw [Below.heap_alloc _ _ _ (by simp)]
      exact heap_alloc_at _ _ _ rfl
  case round =>
    obtain ⟨k, hk, rfl, rfl, HC, HD, HG⟩ := hrel
    have hk4 : k = 0 ∨ k = 1 ∨ k = 2 ∨ k = 3 := by omega
    have c := cell_of HC.out
    have f := free_of HC.out
    rcases hk4 with rfl | rfl | rfl | rfl
    · have c2 := c 2
      have f2 := f 2
      clear c f
      simp [sixR, ints] at c2
      simp only [sixQ]
      go_wp2_with fail
      go_roundw
      case rel =>
        refine ⟨1, by omega, rfl, rfl, ?_, ?_, grownBy_setNew HG.out (by omega) _ _⟩
        · show _ = _
          rw [heap_setCell HC.out]
          rfl
        · show _ = _
          rw [heap_setCell_ne _ _ _ _ (by omega)]
          exact HD.out
      case measure => simp [intOf]
    · have c2 := c 1
      have f2 := f 1
      clear c f
      simp [sixR, ints] at c2
      simp only [sixQ]
      go_wp2_with fail
      go_roundw
      case rel =>
        refine ⟨2, by omega, rfl, rfl, ?_, ?_, grownBy_setNew HG.out (by omega) _ _⟩
        · show _ = _
          rw [heap_setCell HC.out]
          rfl
        · show _ = _
          rw [heap_setCell_ne _ _ _ _ (by omega)]
          exact HD.out
      case measure => simp [intOf]
    · have c2 := c 0
      have f2 := f 0
      clear c f
      simp [sixR, ints] at c2
      simp only [sixQ]
      go_wp2_with fail
      go_roundw
      case rel =>
        refine ⟨3, by omega, rfl, rfl, ?_, ?_, grownBy_setNew HG.out (by omega) _ _⟩
        · show _ = _
          rw [heap_setCell HC.out]
          rfl
        · show _ = _
          rw [heap_setCell_ne _ _ _ _ (by omega)]
          exact HD.out
      case measure => simp [intOf]
    · have d := cell_of HD.out
      have fd := free_of HD.out
      have c0 := c 0
      have c1 := c 1
      have c2 := c 2
      have d0 := d 0
      have d1 := d 1
      have d2 := d 2
      have f0 := fd 0
      have f1 := fd 1
      have f2 := fd 2
      clear c f d fd
      simp [sixR, ints] at c0 c1 c2 d0 d1 d2
      simp only [sixQ]
      go_wp2_with fail
      have e : n / 16 / 16 % 16 = n / 256 := by omega
      rw [e] at *
      have hW : (((wr.setCell ⟨w.heap.size, 0, none⟩ (.int .i64 (n / 256))).setCell ⟨w.heap.size, 1, none⟩ (.int .i64 (n / 16 % 16))).setCell ⟨w.heap.size, 2, none⟩ (.int .i64 (n % 16))).heap[w.heap.size]? = some (.cells (ints [n / 256, n / 16 % 16, n % 16]).toArray 131 (0, 0)) := by
        rw [heap_setCell (heap_setCell (heap_setCell HD.out 0 _) 1 _) 2 _]
        rfl
      refine bodyPost_ret (v := .agg (ints [n / 256, n / 16 % 16, n % 16]).toArray) (results_cell_row (p := 2) (ty := 131) (by kernel_rfl) _ _ w.heap.size 131 _ (0, 0) (.array 3 3) (by rfl) hW Tryz.underlying131 rfl (by kernel_rfl)) rfl ⟨rfl, ?_⟩
      exact below_grownBy (grownBy_setNew (grownBy_setNew (grownBy_setNew HG.out (Nat.le_refl _) _ _) (Nat.le_refl _) _ _) (Nat.le_refl _) _ _)
end Go.Proofs.YtbakhdbnfmoceaaGreatDoor
