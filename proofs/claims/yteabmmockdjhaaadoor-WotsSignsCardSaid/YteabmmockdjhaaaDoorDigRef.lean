/- The walk of the document's digits. -/
import Derived.Test.YteabmmockdjhaaaDoorDigB
import Derived.Deep.QuietTactic
import Derived.BigQuiet
namespace Go.Proofs.YteabmmockdjhaaaDoor
open Go.RowKit

theorem slice_own {w : World} {B n : Nat} {t : TypeId} {v : Value} {xs : List Value} (h : w.ownsRow B t 1 v n xs) : ∃ a cap, v = .slice a n cap := by
  rcases h.2 with ⟨rfl, rfl⟩ | ⟨g, cap, cur, rfl, _⟩
  · exact ⟨none, 0, rfl⟩
  · exact ⟨_, _, rfl⟩
theorem lefts_two (l : List UInt8) (c : UInt8) : sumI (lefts (digL (l ++ [c]))) = sumI (lefts (digL l)) + (30 - (c.toNat : Int) / 16 - (c.toNat : Int) % 16) := by
  have hc := c.toNat_lt
  rw [digL_snoc]
  have e : lefts (digL l ++ halvesI c) = lefts (digL l) ++ lefts (halvesI c) := by simp [lefts]
  rw [e, sumI_append]
  have : lefts (halvesI c) = [15 - (c.toNat : Int) / 16, 15 - (c.toNat : Int) % 16] := by
    simp only [lefts, halvesI, List.map_cons, List.map_nil]
    rw [leftI_yes _ (by omega) (by omega), leftI_yes _ (by omega) (by omega)]
  rw [this]
  simp only [sumI, List.foldl_cons, List.foldl_nil]
  omega
theorem lefts_take (s : ByteArray) (k : Nat) (h : k < s.size) : sumI (lefts (digL (s.data.toList.take (k + 1)))) = sumI (lefts (digL (s.data.toList.take k))) + (30 - (s[k].toNat : Int) / 16 - (s[k].toNat : Int) % 16) := by
  rw [List.take_succ_eq_append_getElem (by simpa using h), lefts_two]
  rfl

set_option maxRecDepth 100000 in
set_option maxHeartbeats 800000 in
theorem refDig_any (s : ByteArray) (h : s.size ≤ 1000000) (w : World) :
    Calls Tryd.prog 11 #[.string s] w fun e w' => ∃ v, e = .returned v ∧ IntsAt w' v (digs s.data.toList) ∧ w.grownBy w' none := by
  obtain ⟨i0, hi, hz0, hz1, hz2⟩ := info_parts infoIntD
  go_enter Tryd.func11, Tryd.ntmps11
  go_wp2_with fail
  go_loopw [3, 4, 5, 6, 7] (fun lv sv iv _ _ wr => ∃ k : Nat, ∃ len : Nat, ∃ a cap, k ≤ s.size ∧ Hid (len = 2 * k) ∧ len ≤ 2000000 ∧ iv = .int .i64 k ∧ lv = .slice a len cap ∧ sv = .int .i64 (sumI (lefts (digL (s.data.toList.take k)))) ∧ Hid (wr.ownsRow w.heap.size 3 1 (.slice a len cap) len (ints (digL (s.data.toList.take k)))) ∧ Hid (w.grownBy wr none)) (fun _ _ iv _ _ _ => s.size - (intOf iv).toNat)
  case atStart => exact ⟨0, 0, none, 0, Nat.zero_le _, rfl, Nat.zero_le _, rfl, rfl, rfl, World.ownsRow_nil _ _ _ _, World.grownBy.refl _ _⟩
  case round =>
    obtain ⟨k, len, a, cap, hk, HL, hl2, rfl, rfl, rfl, HO, HG⟩ := hrel
    have hsb := sum_lefts_bd (s.data.toList.take k)
    have hll : (s.data.toList.take k).length ≤ k := List.length_take_le _ _
    by_cases hlt : k < s.size
    · have hsn := digL_take s k hlt
      have hst := lefts_take s k hlt
      have b1 : (0 : Int) ≤ (k : Int) := by omega
      have b2 : (k : Int) < (s.size : Int) := by omega
      have hl3 : len + 2 ≤ 2000000 := by have := HL.out; omega
      generalize hc : s[k] = c at hsn hst
      have hcl := c.toNat_lt
      have hcn : s[k].toNat = c.toNat := by rw [hc]
      clear hc
      generalize c.toNat = cn at hsn hst hcn hcl
      generalize sumI (lefts (digL (s.data.toList.take k))) = m at hsb hst ⊢
      have hm0 : 0 ≤ m := hsb.1
      have hm1 : m ≤ 30000000 := by have := hsb.2; omega
      have b3 : (cn : Int) / 16 ≤ 15 := by omega
      have b4 : (cn : Int) % 16 ≤ 15 := by omega
      have HS := Lib.hid hsn
      have HT := Lib.hid hst
      clear hsn hst hsb hll
      go_wp2_with fail
      go_quiet (fail)
      have HG2 := Lib.hid (grownBy_drewN HG.out nq)
      have HO2 := Lib.hid (own_kept HO.out (grownBy_drewN (World.grownBy.refl _ _) nq))
      clear HG HO
      generalize wr.drewN nq = wq at HG2 HO2 ⊢
      go_wp2_with (at_builtin; refine wpList_append_own _ rfl _ _ 36 rfl w.heap.size 3 i0 (.int .i64 0) 1 8 Tryd.underlying36 hi hz0 hz1 hz2 rfl (by decide) _ _ _ rfl (HO2.out.alloc _) ⟨wq.heap.size, 0, none⟩ 2 2 (ints [(cn : Int) / 16, (cn : Int) % 16]) rfl rfl ?q1 ?q2 ?q3 ?q4 ?q5 ?_)
      case q1 => exact cells_new wq _ (ints [(cn : Int) / 16, (cn : Int) % 16])
      case q2 => exact ints_one _
      case q3 => unfold maxLen; omega
      case q4 => omega
      case q5 => have := HG2.out.size; simp; omega
      intro v' w3 hown3 hg3 _
      obtain ⟨a', cap', rfl⟩ := slice_own hown3
      have HO3 := Lib.hid hown3
      have HG3 : Hid (w.grownBy w3 none) := grownBy_below (((below_grownBy HG2.out).alloc HG2.out.size _).grown hg3 (by have := HG2.out.size; simp; omega) (fun r hr => (HO2.out.lt r hr).1))
      clear hown3 hg3 HO2 HG2
      go_wp2_with fail
      go_roundw
      case rel =>
        refine ⟨k + 1, len + 2, a', cap', by omega, ?_, by omega, by go_num, rfl, ?_, ?_, HG3.out⟩
        · show _ = _
          have := HL.out
          omega
        · rw [HT.out]
        · show World.ownsRow _ _ _ _ _ _ _
          rw [HS.out, ints_append]
          exact HO3.out
      case measure => simp [intOf]; omega
    · have : k = s.size := by omega
      subst this
      have ho := HO.out
      rw [List.take_of_length_le (by simp)] at ho
      rw [List.take_of_length_le (by simp)] at hsb ⊢
      have hD : digs s.data.toList = digL s.data.toList ++ chk (sumI (lefts (digL s.data.toList))) := rfl
      have hl16 : s.data.toList.length ≤ 1000000 := h
      have HD := Lib.hid hD
      have HO2 := Lib.hid ho
      clear hD ho HO hll
      generalize sumI (lefts (digL s.data.toList)) = m at hsb HD ⊢
      have hm0 : 0 ≤ m := hsb.1
      have hm1 : m ≤ 30000000 := by have := hsb.2; omega
      clear hsb
      go_wp2_with (at_builtin; refine wpList_append_own _ rfl _ _ 36 rfl w.heap.size 3 i0 (.int .i64 0) 1 8 Tryd.underlying36 hi hz0 hz1 hz2 rfl (by decide) _ _ _ rfl (HO2.out.alloc _) ⟨wr.heap.size, 0, none⟩ 3 3 (ints (chk m)) rfl rfl ?r1 ?r2 ?r3 ?r4 ?r5 ?_)
      case r1 => exact cells_new wr _ (ints (chk m))
      case r2 => exact ints_one _
      case r3 => unfold maxLen; omega
      case r4 => omega
      case r5 => have := HG.out.size; simp; omega
      intro v' w3 hown3 hg3 _
      obtain ⟨a', cap', rfl⟩ := slice_own hown3
      have HG3 : Hid (w.grownBy w3 none) := grownBy_below (((below_grownBy HG.out).alloc HG.out.size _).grown hg3 (by have := HG.out.size; simp; omega) (fun r hr => (HO2.out.lt r hr).1))
      rw [← ints_append, ← HD.out] at hown3
      have HI := Lib.hid (ints_of_own hown3)
      clear hown3 hg3 HO2 HG
      go_wp2_with fail
      go_ret
      exact ⟨_, rfl, HI.out, HG3.out⟩
end Go.Proofs.YteabmmockdjhaaaDoor
