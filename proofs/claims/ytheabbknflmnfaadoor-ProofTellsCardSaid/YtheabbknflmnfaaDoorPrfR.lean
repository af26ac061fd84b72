/- The walk of the document's Starts. -/
import Derived.Test.YtheabbknflmnfaaDoorSmtP
import Derived.Test.YtheabbknflmnfaaDoorSmtQ
import Derived.Test.YtheabbknflmnfaaDoorPrfSO
import Derived.Test.YtheabbknflmnfaaDoorBitsC
namespace Go.Proofs.YtheabbknflmnfaaDoor
open Go.RowKit Go.Maps
attribute [local irreducible] shaL

set_option maxRecDepth 100000 in
set_option maxHeartbeats 6400000 in
theorem starts_any (v : Value) (M : List PairS) (key : ByteArray) (d : Nat) (w : World) (hv : PairsAt w v M) (hM : M.length ≤ 1000000) (h16 : ∀ x ∈ M, x.1.size = 16) (hk : key.size = 16) (hd : d ≤ 128) :
    Calls Tryd.prog 26 #[v, .string key, .int .i64 d] w fun e w' => ∃ v', e = .returned v' ∧ w'.ownsRow w.heap.size 33 2 v' (startM M key d).length (pv (startM M key d)) ∧ w.grownBy w' none := by
  obtain ⟨i0, hti, hz0, hz1, hz2⟩ := info_parts infoPair
  obtain ⟨a, cap, rfl, hcap, _, hc⟩ := hv
  have HC := Lib.hid hc
  have HM := Lib.hid (And.intro hM h16)
  have HBK := Lib.hid (fun (i : Nat) (hi : i < 128) (w : World) => refBit_any key (by omega) i (by omega) w)
  obtain ⟨n, hn⟩ : ∃ n, M.length = n := ⟨_, rfl⟩
  rw [hn] at hcap ⊢
  have HN := Lib.hid hn
  have hn0 : n ≤ 1000000 := by omega
  obtain ⟨XB, hXB⟩ : ∃ XB, w.heap.size = XB := ⟨_, rfl⟩
  rw [hXB]
  have HXB := Lib.hid hXB
  clear hc hM hn h16 hk hXB
  go_enter Tryd.func26, Tryd.ntmps26
  go_wp2_with fail
  go_loopw [7, 8, 9, 10] (fun v iv _ _ wr => ∃ (i : Nat), i ≤ n ∧ iv = .int .i64 i ∧ Hid (wr.ownsRow XB 33 2 v (startM (M.take i) key d).length (pv (startM (M.take i) key d))) ∧ Hid (w.grownBy wr none)) (fun _ iv _ _ _ => n - (intOf iv).toNat)
  case atStart => exact ⟨0, Nat.zero_le _, rfl, World.ownsRow_nil _ _ _ _, World.grownBy.refl _ _⟩
  case round =>
    obtain ⟨i, hi, rfl, HO, HG⟩ := hrel
    by_cases hlt : i < n
    · have d1 : (i : Int) < (n : Int) := by omega
      have d0 : (0 : Int) ≤ (i : Int) := by omega
      have hil : i < M.length := by have := HN.out; omega
      obtain ⟨p, hp⟩ : ∃ p, M[i] = p := ⟨_, rfl⟩
      obtain ⟨pk, py⟩ := p
      have hsz := HM.out.2 M[i] (List.getElem_mem _)
      obtain ⟨g, o, rfl, h1, h2⟩ := HC.out i hil
      rw [hp] at h1 h2 hsz
      have hpk : pk.size = 16 := hsz
      have HBP := Lib.hid (fun (i : Nat) (hi : i < 128) (w : World) => refBit_any pk (by omega) i (by omega) w)
      have C1 := Lib.hid (HG.out.cell h1 (by simp))
      have C2 := Lib.hid (HG.out.cell h2 (by simp))
      have hst := filter_step M (fun x => belowB x.1 key d) i hil
      rw [hp] at hst
      have HST : Hid (startM (M.take (i + 1)) key d = startM (M.take i) key d ++ (if belowB pk key d then [(pk, py)] else [])) := Lib.hid hst
      have hfl : (startM (M.take i) key d).length ≤ 1000000 := by
        have h1 := List.length_filter_le (fun x : PairS => belowB x.1 key d) (M.take i)
        have h2 := List.length_take_le i M
        unfold startM
        omega
      have HFL := Lib.hid hfl
      have HSZ : Hid (XB ≤ wr.heap.size) := Lib.hid (by have := HXB.out; have := HG.out.size; omega)
      clear h1 h2 hp hst hsz hpk hfl
      have HWR := Lib.hid (World.grownBy.refl wr none)
      go_wp2_with fail
      go_loopw [9, 10] (fun sv kv wq => ∃ (k : Nat), k ≤ d ∧ kv = .int .i64 k ∧ sv = .bool (belowB pk key k) ∧ Hid (wr.grownBy wq none)) (fun _ kv _ => d - (intOf kv).toNat)
      case atStart => exact ⟨0, Nat.zero_le _, rfl, rfl, HWR.out⟩
      case round =>
        obtain ⟨k, hk, rfl, rfl, HQ⟩ := hrel
        have c1 := HQ.out.cell C1.out (by simp)
        have c2 := HQ.out.cell C2.out (by simp)
        by_cases hkd : k < d
        · have e1 : (k : Int) < (d : Int) := by omega
          have k0 : (0 : Int) ≤ (k : Int) := by omega
          have hs := belowB_succ pk key k
          have HS := Lib.hid hs
          have B1 := Lib.hid (HBP.out k (by omega))
          have B2 := Lib.hid (HBK.out k (by omega))
          clear hs
          obtain ⟨sm, hsm⟩ : ∃ b, belowB pk key k = b := ⟨_, rfl⟩
          rw [hsm] at HS
          rw [hsm]
          clear hsm c2
          cases sm
          · have HF : Hid (belowB pk key (k + 1) = false) := Lib.hid (by rw [HS.out]; rfl)
            go_wp2_with fail
            go_roundw
            case rel => exact ⟨k + 1, by omega, by go_num, by rw [HF.out], HQ.out⟩
            case measure => simp [intOf]; omega
          · have HF : Hid (belowB pk key (k + 1) = ((bitS pk k : Int) == (bitS key k : Int))) := Lib.hid (by
              rw [HS.out, Bool.true_and, Bool.eq_iff_iff]
              simp
              omega)
            generalize bitS pk k = x1 at *
            generalize bitS key k = x2 at *
            go_wp2_with fail
            refine (B1.out _).mono ?_
            rintro e w3 ⟨rfl, rfl⟩
            go_wp2_with fail
            refine (B2.out _).mono ?_
            rintro e w3 ⟨rfl, rfl⟩
            go_wp2_with fail
            go_roundw
            case rel => exact ⟨k + 1, by omega, by go_num, by rw [HF.out], HQ.out⟩
            case measure => simp [intOf]; omega
        · have hke : k = d := by omega
          subst hke
          have e1 : ¬ (k : Int) < (k : Int) := by omega
          have HQ2 := Lib.hid (grownBy_trans HG.out HQ.out)
          have HO2 := Lib.hid (own_keep2' HO.out HQ.out)
          have HSZ2 : Hid (XB ≤ wr.heap.size) := Lib.hid (by have := HSZ.out; have := HQ.out.size; omega)
          obtain ⟨sm, hsm⟩ : ∃ b, belowB pk key k = b := ⟨_, rfl⟩
          rw [hsm] at HST
          rw [hsm]
          clear hsm
          cases sm
          · go_wp2_with fail
            go_roundw
            case rel =>
              refine ⟨i + 1, by omega, by go_num, ?_, HQ2.out⟩
              have := HST.out
              simp at this
              show World.ownsRow _ _ _ _ _ _ _
              rw [this]
              exact HO2.out
            case measure => simp [intOf]; omega
          · go_wp2_with (at_builtin; refine wpList_append_own _ rfl _ _ 24 rfl XB 33 i0 (.agg #[.string ⟨#[]⟩, .string ⟨#[]⟩]) 2 32 Tryd.underlying24 hti hz0 hz1 hz2 rfl (by decide) _ _ _ rfl (HO2.out.alloc _) ⟨wr.heap.size, 0, none⟩ 1 1 [.string pk, .string py] rfl rfl (lit_pair _ _ _) ?q2 ?q3 ?q4 ?q5 ?_)
            case q2 => first | rfl | (intro u hu; simp at hu; rcases hu with rfl | rfl <;> rfl) | exact ⟨rfl, rfl⟩
            case q3 => have := HFL.out; unfold maxLen; omega
            case q4 => have := HFL.out; omega
            case q5 => have := HSZ2.out; first | (simp; omega) | omega
            intro v' w' ho hg _
            have HO3 := Lib.hid ho
            have HG3 : Hid (w.grownBy w' none) := by
              refine Lib.hid (grown_row (grownBy_alloc' HQ2.out (.cells #[.string pk, .string py] 33)) hg (fun x e => ?_))
              have := (HO2.out.lt x e).1
              have := HXB.out
              omega
            clear ho hg
            go_wp2_with fail
            go_roundw
            case rel =>
              refine ⟨i + 1, by omega, by go_num, ?_, HG3.out⟩
              have := HST.out
              simp at this
              show World.ownsRow _ _ _ _ _ _ _
              rw [this, pv_append, List.length_append]
              exact HO3.out
            case measure => simp [intOf]; omega
    · have d1 : ¬ (i : Int) < (n : Int) := by omega
      have hin : M.take i = M := List.take_of_length_le (by have := HN.out; omega)
      rw [hin] at HO
      go_wp2_with fail
      go_ret
      exact ⟨_, rfl, HO.out, HG.out⟩
end Go.Proofs.YtheabbknflmnfaaDoor
