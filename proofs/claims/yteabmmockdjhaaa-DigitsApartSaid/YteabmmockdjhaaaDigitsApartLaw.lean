/- The walk of the law DigitsApart. -/
import Derived.Test.YteabmmockdjhaaaDigSpeaks
import Derived.Test.YteabmmockdjhaaaDigApart
import Derived.Test.YteabmmockdjhaaaBytesEq
namespace Go.Proofs.Yteabmmockdjhaaa
open Go.RowKit

set_option maxRecDepth 100000 in
set_option maxHeartbeats 1600000 in
theorem digitsApart_walk (la lb : List UInt8) (ha : la.length = 16) (hb : lb.length = 16) (w : World) :
    Calls Try.prog 4 #[.agg (bytesV la).toArray, .agg (bytesV lb).toArray] w fun e w' => e = .returned (.bool true) ∧ Below w.heap.size w w' := by
  have HA := Lib.hid ha
  have HB := Lib.hid hb
  clear ha hb
  go_enter Try.func4, Try.ntmps4
  go_wp2_with fail
  have hA : ((w.alloc (.cells (bytesV la).toArray 30)).alloc (.cells (bytesV lb).toArray 30)).heap[w.heap.size]? = some (.cells (bytesV la).toArray 30 (0, 0)) := by
    rw [Below.heap_alloc _ _ _ (by simp)]
    exact heap_alloc_at _ _ _ rfl
  have hB : ((w.alloc (.cells (bytesV la).toArray 30)).alloc (.cells (bytesV lb).toArray 30)).heap[w.heap.size + 1]? = some (.cells (bytesV lb).toArray 30 (0, 0)) := heap_alloc_at _ _ _ (by simp)
  have hG : w.grownBy ((w.alloc (.cells (bytesV la).toArray 30)).alloc (.cells (bytesV lb).toArray 30)) none := grownBy_alloc' (grownBy_alloc' (World.grownBy.refl _ _) _) _
  generalize (w.alloc (.cells (bytesV la).toArray 30)).alloc (.cells (bytesV lb).toArray 30) = w0 at hA hB hG ⊢
  have KA := Lib.hid hA
  have KB := Lib.hid hB
  have G0 := Lib.hid hG
  clear hA hB hG
  refine (dig_speaks _).mono ?_
  rintro e w1 ⟨rfl, h1⟩
  have G1 := Lib.hid (grownBy_below h1)
  clear h1
  have hsA := blk_str (G1.out.heap KA.out (by simp)) 16
  rw [HA.out] at hsA
  have hslA := slice_sixteen w.heap.size
  have hslB := slice_sixteen (w.heap.size + 1)
  go_wp2_with fail
  refine (of_ok (str la) HA.out _).mono ?_
  rintro e w2 ⟨v2, rfl, h2, g2⟩
  rw [str_data] at h2
  have I2 := Lib.hid h2
  have G2 := Lib.hid (grownBy_trans G1.out g2)
  clear h2 g2 G1 hsA
  have hsB := blk_str (G2.out.heap KB.out (by simp)) 16
  rw [HB.out] at hsB
  go_wp2_with fail
  refine (of_ok (str lb) HB.out _).mono ?_
  rintro e w3 ⟨v3, rfl, h3, g3⟩
  rw [str_data] at h3
  have I3 := Lib.hid h3
  have J2 := Lib.hid (I2.out.kept g3)
  have G3 := Lib.hid (grownBy_trans G2.out g3)
  clear h3 g3 G2 hsB I2 hslA hslB
  obtain ⟨a2, c2, rfl⟩ := J2.out.form
  obtain ⟨a3, c3, rfl⟩ := I3.out.form
  have hla : (digs la).length = 35 := by rw [digs_length, HA.out]
  have hlb : (digs lb).length = 35 := by rw [digs_length, HB.out]
  rw [hla] at J2 ⊢
  rw [hlb] at I3 ⊢
  have HLA := Lib.hid hla
  have HLB := Lib.hid hlb
  clear hla hlb
  go_wp2_with fail
  go_loopw [9, 10, 11] (fun lv mv iv wr => ∃ k : Nat, k ≤ 35 ∧ iv = .int .i64 k ∧ lv = .bool (lessB (digs la) (digs lb) k) ∧ mv = .bool (lessB (digs lb) (digs la) k) ∧ Hid (w3.grownBy wr none)) (fun _ _ iv _ => 35 - (intOf iv).toNat)
  case atStart => exact ⟨0, by omega, rfl, rfl, rfl, World.grownBy.refl _ _⟩
  case round =>
    obtain ⟨k, hk, rfl, rfl, rfl, HG⟩ := hrel
    by_cases hlt : k < 35
    · have e1 := lessB_succ (digs la) (digs lb) k
      have e2 := lessB_succ (digs lb) (digs la) k
      have hx : (digs la)[k]? = some ((digs la).getD k 0) := by rw [List.getD_eq_getElem?_getD, List.getElem?_eq_getElem (by rw [HLA.out]; exact hlt)]; rfl
      have hy : (digs lb)[k]? = some ((digs lb).getD k 0) := by rw [List.getD_eq_getElem?_getD, List.getElem?_eq_getElem (by rw [HLB.out]; exact hlt)]; rfl
      generalize (digs la).getD k 0 = x at hx e1 e2
      generalize (digs lb).getD k 0 = y at hy e1 e2
      obtain ⟨g2, o2, rfl, q2⟩ := J2.out.at_ k _ hx
      obtain ⟨g3, o3, rfl, q3⟩ := I3.out.at_ k _ hy
      have r2 : wr.cell? ⟨g2, o2 + k, none⟩ = _ := HG.out.cell q2 (by simp)
      have r3 : wr.cell? ⟨g3, o3 + k, none⟩ = _ := HG.out.cell q3 (by simp)
      clear hx hy q2 q3
      have b1 : (0 : Int) ≤ (k : Int) := by omega
      have E1 := Lib.hid e1
      have E2 := Lib.hid e2
      clear e1 e2
      generalize lessB (digs la) (digs lb) k = p at E1 ⊢
      generalize lessB (digs lb) (digs la) k = q at E2 ⊢
      cases p
      all_goals cases q
      all_goals
        go_wp2_with fail
        go_quiet (fail)
        go_wp2_with fail
        go_quiet (fail)
        go_wp2_with fail
        go_roundw
        case rel =>
          refine ⟨k + 1, by omega, by go_num, ?_, ?_, grownBy_drewN HG.out _⟩
          · rw [E1.out]; simp
          · rw [E2.out]; simp
        case measure => simp [intOf]; omega
    · have : k = 35 := by omega
      subst this
      have hkA : w3.heap[w.heap.size]? = _ := G3.out.heap KA.out (by simp)
      have hkB : w3.heap[w.heap.size + 1]? = _ := G3.out.heap KB.out (by simp)
      have LA := Lib.hid (HG.out.heap hkA (by simp))
      have LB := Lib.hid (HG.out.heap hkB (by simp))
      clear hkA hkB
      have iA := Lib.hid (sixteen_info la HA.out)
      have iB := Lib.hid (sixteen_info lb HB.out)
      by_cases hab : la = lb
      · subst hab
        rw [lessB_self]
        have he := sixteen_eq la la HA.out HA.out
        rw [show (la == la) = true from by simp] at he
        go_wp2_with (first
            | (refine wpList_load_row (by rfl) 30 (.tmp 2) (by rfl) w.heap.size (by rfl) _ _ _ _ LA.out Try.underlying30 (by rfl) iA.out ?_)
            | (refine wpList_load_row (by rfl) 30 (.tmp 3) (by rfl) (w.heap.size + 1) (by rfl) _ _ _ _ LB.out Try.underlying30 (by rfl) iB.out ?_))
        go_ret
        exact ⟨rfl, below_grownBy (grownBy_trans G0.out (grownBy_trans G3.out HG.out))⟩
      · rw [apart la lb HA.out HB.out hab, apart lb la HB.out HA.out (fun e => hab e.symm)]
        have he := sixteen_eq la lb HA.out HB.out
        rw [show (la == lb) = false from by simpa using hab] at he
        go_wp2_with (first
            | (refine wpList_load_row (by rfl) 30 (.tmp 2) (by rfl) w.heap.size (by rfl) _ _ _ _ LA.out Try.underlying30 (by rfl) iA.out ?_)
            | (refine wpList_load_row (by rfl) 30 (.tmp 3) (by rfl) (w.heap.size + 1) (by rfl) _ _ _ _ LB.out Try.underlying30 (by rfl) iB.out ?_))
        go_ret
        exact ⟨rfl, below_grownBy (grownBy_trans G0.out (grownBy_trans G3.out HG.out))⟩
end Go.Proofs.Yteabmmockdjhaaa
