/- The walk of the law ItemLimits. -/
import Derived.Test.YtemgeelgkokpcaaDoorItmY
namespace Go.Proofs.YtemgeelgkokpcaaDoor
open Go.RowKit

def low4I (z : Int) : Nat := (z % 16).toNat
theorem low4I_lt (z : Int) : low4I z < 16 := by unfold low4I; omega
theorem and15I (z : Int) : bits .and .i64 z 15 = ((low4I z : Nat) : Int) := by
  have h1 : (BitVec.ofInt 64 z).toNat = (z % (2 ^ 64 : Nat)).toNat := by rw [BitVec.toNat_ofInt]
  have h3 : (BitVec.ofInt 64 (15 : Int)).toNat = 15 := by decide
  show IntKind.i64.wrap ((BitVec.ofInt 64 z &&& BitVec.ofInt 64 (15 : Int)).toNat : Int) = _
  rw [BitVec.toNat_and, h1, h3, show (15 : Nat) = 2 ^ 4 - 1 from rfl, Nat.and_two_pow_sub_one_eq_mod]
  have h4 : (z % (2 ^ 64 : Nat)).toNat % 2 ^ 4 = low4I z := by unfold low4I; omega
  rw [h4]
  have := low4I_lt z
  exact IntWalk.i64_in _ (by omega)
/-- a number in so many lists -/
def nestT : Nat → Tr
  | 0 => .num 7
  | k + 1 => .list [nestT k]
theorem nest_facts : ∀ k, depT (nestT k) = k + 1 ∧ errT (nestT k) = 0 ∧ okT (nestT k) ∧ (encT (nestT k)).length = 9 + 3 * k
  | 0 => by
    refine ⟨rfl, rfl, ?_, ?_⟩
    · rw [nestT, okT]; decide
    · rw [nestT, encT, List.length_cons, be_length]
  | k + 1 => by
    obtain ⟨h1, h2, h3, h4⟩ := nest_facts k
    refine ⟨?_, ?_, ?_, ?_⟩
    · rw [nestT, depT, depTs, depTs, h1]; omega
    · rw [nestT, errT, errTs, errTs, h2]; rfl
    · rw [nestT, okT, okTs, okTs]; exact ⟨by simp, h3, trivial⟩
    · rw [nestT, encT, encTs, encTs, List.length_cons, List.length_append, be_length, List.append_nil, h4]; omega
theorem ones_facts (n : Nat) : depTs (List.replicate n (.num 1)) ≤ 1 ∧ errTs (List.replicate n (.num 1)) = 0 ∧ okTs (List.replicate n (.num 1)) ∧ (encTs (List.replicate n (.num 1))).length = 9 * n := by
  induction n with
  | zero => exact ⟨Nat.zero_le _, rfl, trivial, rfl⟩
  | succ n ih =>
    obtain ⟨h1, h2, h3, h4⟩ := ih
    rw [List.replicate_succ]
    refine ⟨?_, ?_, ?_, ?_⟩
    · rw [depTs, depT]; omega
    · rw [errTs, errT, h2]; rfl
    · rw [okTs, okT]; exact ⟨by decide, h3⟩
    · rw [encTs, List.length_append, encT, List.length_cons, be_length, h4]; omega
theorem ones_all (w : World) (P : Nat → Prop) (n : Nat) : AllAt w P (List.replicate n (vNum 1)) (List.replicate n (.num 1)) := by
  refine ⟨by simp, fun k v t hv ht => ?_⟩
  rw [List.getElem?_replicate] at hv ht
  by_cases h : k < n
  · rw [if_pos h] at hv ht
    cases hv
    cases ht
    rw [ItemAt]
  · rw [if_neg h] at hv
    cases hv
theorem infoU8I : (Tryd.prog.info? 5).map (fun i => (i.zero, i.size, i.bytes)) = some (some (.int .u8 0), 1, 1) := by kernel_rfl
theorem zeros_row (n : Nat) : (madeCells #[Value.int .u8 0] n).toList = (List.replicate n (0 : UInt8)).map fun c => .int .u8 c.toNat := by
  rw [toList_madeCells_one, List.map_replicate]
  rfl
set_option maxRecDepth 100000 in
set_option maxHeartbeats 6400000 in
theorem itemLimits_walk (a b c : Int) (w : World) (hT : IT w.heap.size w) :
    Calls Tryd.prog 5 #[.int .i64 a, .int .i64 b, .int .i64 c] w fun e w' => e = .returned (.bool true) ∧ w.grownBy w' none := by
  have HSP := Lib.hid (itm_speaks w hT)
  have a1 := and15I a
  have a2 := and15I b
  have a3 := and15I c
  have l1 := low4I_lt a
  have l2 := low4I_lt b
  have l3 := low4I_lt c
  obtain ⟨A, hA⟩ : ∃ A, low4I a = A := ⟨_, rfl⟩
  obtain ⟨B, hB⟩ : ∃ B, low4I b = B := ⟨_, rfl⟩
  obtain ⟨C, hC⟩ : ∃ C, low4I c = C := ⟨_, rfl⟩
  rw [hA] at a1 l1
  rw [hB] at a2 l2
  rw [hC] at a3 l3
  have r1 : IntKind.i64.wrap (4090 + (A : Int)) = ((4090 + A : Nat) : Int) := by rw [IntWalk.i64_in _ (by omega)]; omega
  have r2 : IntKind.i64.wrap (250 + (B : Int)) = ((250 + B : Nat) : Int) := by rw [IntWalk.i64_in _ (by omega)]; omega
  have r3 : IntKind.i64.wrap (1 + (C : Int)) = ((1 + C : Nat) : Int) := by rw [IntWalk.i64_in _ (by omega)]; omega
  obtain ⟨X, hX⟩ : ∃ X, 4090 + A = X := ⟨_, rfl⟩
  obtain ⟨N, hN⟩ : ∃ N, 250 + B = N := ⟨_, rfl⟩
  obtain ⟨D, hD⟩ : ∃ D, 1 + C = D := ⟨_, rfl⟩
  rw [hX] at r1
  rw [hN] at r2
  rw [hD] at r3
  have hX2 : X ≤ 5000 := by omega
  have hN2 : N ≤ 300 := by omega
  have hD2 : D ≤ 20 ∧ 1 ≤ D := by omega
  obtain ⟨i0, hti, hz0, hz1, hz2⟩ := info_parts infoU8I
  obtain ⟨j0, htj, hy0, hy1, hy2⟩ := info_parts infoItm
  clear hA hB hC hX hN hD l1 l2 l3 hT
  go_enter Tryd.func5, Tryd.ntmps5
  go_wp2_with fail
  refine HSP.out.mono ?_
  rintro e w1 ⟨rfl, g1⟩
  have HG1 := Lib.hid g1
  clear g1 HSP
  go_wp2_with (at_make; refine wpList_make_full _ rfl _ _ 50 rfl w1.heap.size 5 i0 (.int .u8 0) 1 Tryd.underlying50 hti hz0 hz1 _ _ _ _ X rfl rfl rfl rfl ?c1 ?c2 ?c3 ?_)
  case c1 => rw [hz2]; omega
  case c2 => unfold maxLen; omega
  case c3 => omega
  intro w2 hown hg2
  rw [zeros_row] at hown
  have hcv := own_string hown
  obtain ⟨S, hS⟩ : ∃ S, str (List.replicate X (0 : UInt8)) = S := ⟨_, rfl⟩
  have hSz : S.size = X := by rw [← hS, str_size, List.length_replicate]
  rw [hS] at hcv
  have HG2 := Lib.hid (grownBy_trans HG1.out hg2)
  have hz : S.data.toList.length = S.size := by rw [Array.length_toList]; rfl
  have HE1 := Lib.hid (iencode_any (P := fun _ => False) (vText S) (.text S) w2 (by rw [ItemAt]) (by rw [okT]; omega) (by rw [encT, List.length_cons, List.length_append, be_length, hz]; omega) (by rw [depT]; decide))
  have e1 : encE (.text S) = if 4096 < X then 2 else 0 := by unfold encE; rw [depT, if_neg (by decide), errT, hSz]
  rw [e1] at HE1
  generalize encB (.text S) = EB1 at HE1
  obtain ⟨E1, hE1⟩ : ∃ E1 : Int, (if 4096 < X then 2 else 0) = E1 := ⟨_, rfl⟩
  rw [hE1] at HE1
  have HE1E := Lib.hid hE1
  clear hown hg2 hS hSz hz e1 hE1
  go_wp2_with fail
  refine (itext_any S w2).mono ?_
  rintro e w3 ⟨rfl, rfl⟩
  go_wp2_with fail
  refine HE1.out.mono ?_
  rintro e w4 ⟨rfl, g4⟩
  have HG4 := Lib.hid (grownBy_trans HG2.out g4)
  clear g4 HE1 hcv
  go_wp2_with fail
  go_loopw [9, 10] (fun lw kv wr => ∃ (k : Nat) (lv : Value), lv = lw ∧ kv = .int .i64 k ∧ k ≤ N ∧ Hid (wr.ownsRow w.heap.size 24 1 lv k (List.replicate k (vNum 1)) ∧ w.grownBy wr none)) (fun _ kv _ => N - (intOf kv).toNat)
  case atStart => exact ⟨0, _, rfl, rfl, Nat.zero_le _, Lib.hid ⟨World.ownsRow_nil _ _ _ _, HG4.out⟩⟩
  case round =>
    clear HG1 HG2 HG4
    obtain ⟨k, lv, rfl, rfl, hk, HR⟩ := hrel
    obtain ⟨la, lc, hlv⟩ : ∃ la lc, lv = .slice la k lc := by
      rcases own_formI HR.out.1 with ⟨rfl, h0⟩ | ⟨g, cap, rfl⟩
      · exact ⟨none, 0, by rw [h0]⟩
      · exact ⟨_, _, rfl⟩
    subst hlv
    by_cases hlt : k < N
    · have d1 : (k : Int) < (N : Int) := by omega
      have ga := World.grownBy_alloc wr (.cells #[vNum 1] 24) none
      have hoa := own_kept_I HR.out.1 ga
      have hba := heap_alloc_at wr (.cells #[vNum 1] 24) _ rfl
      have hbs : w.heap.size ≤ (wr.alloc (.cells #[vNum 1] 24)).heap.size := by have := HR.out.2.size; rw [World.size_alloc]; omega
      have hone : ∀ u ∈ [vNum 1], u.oneCell' = true := fun u hu => by rw [List.mem_singleton.1 hu]; rfl
      have hfin : ∀ (w9 : World) (g9 c9 : Nat), (wr.alloc (.cells #[vNum 1] 24)).grownBy w9 (Value.slice la k lc).ownBlock → w9.ownsRow w.heap.size 24 1 (.slice (some ⟨g9, 0, none⟩) (k + 1) c9) (k + 1) (List.replicate k (vNum 1) ++ [vNum 1]) → w9.ownsRow w.heap.size 24 1 (.slice (some ⟨g9, 0, none⟩) (k + 1) c9) (k + 1) (List.replicate (k + 1) (vNum 1)) ∧ w.grownBy w9 none := fun w9 g9 c9 k9 ho => by
        refine ⟨by rw [List.replicate_succ']; exact ho, ?_⟩
        refine ⟨k9.os.trans HR.out.2.os, k9.tape.trans HR.out.2.tape, k9.output.trans HR.out.2.output, Nat.le_trans hbs k9.size, fun i hi _ => ?_⟩
        have hiw : i < wr.heap.size := by have := HR.out.2.size; omega
        rw [k9.block i (by omega) (fun e => by have := (HR.out.1.lt i e.symm).1; omega), Below.heap_alloc _ _ _ hiw, HR.out.2.block i hi (by simp)]
      have HFN := Lib.hid hfin
      have HA := Lib.hid (And.intro hoa (And.intro (World.news_of_block hba) (And.intro hbs hone)))
      have hk1 : k + 1 ≤ maxLen := by unfold maxLen; omega
      have hk2 : (k + 1) * 16 ≤ 140737488355328 := by omega
      have HKK := Lib.hid (And.intro hk1 hk2)
      clear ga hoa hba hbs hone hfin hk1 hk2
      unfold vNum at HA HFN HR
      go_wp2_with fail
      refine (inum_any 1 wr).mono ?_
      rintro e w5 ⟨rfl, hw5⟩
      subst hw5
      unfold vNum
      go_wp2_with (at_builtin; refine wpList_append_lies _ rfl _ _ 51 rfl w.heap.size 24 j0 .nilIface 1 16 Tryd.underlying51 htj hy0 hy1 hy2 rfl (by decide) (.slice la k lc) k (List.replicate k (vNum 1)) rfl HA.out.1 ⟨wr.heap.size, 0, none⟩ 1 1 [vNum 1] rfl rfl HA.out.2.1 HA.out.2.2.2 (by decide) HKK.out.1 HKK.out.2 HA.out.2.2.1 _ rfl ?_; intro g9 c9 w9 ho9 hg9 hor9 hlt9; have HP := Lib.hid (HFN.out w9 g9 c9 hg9 ho9); clear ho9 hg9 hor9 hlt9)
      go_roundw
      case rel => exact ⟨k + 1, _, rfl, by go_num, by omega, HP⟩
      case measure => simp [intOf] <;> omega
    · have hkn : k = N := by omega
      subst hkn
      have d1 : ¬ (k : Int) < (k : Int) := by omega
      have hlow : wr.ownsRow 0 24 1 (.slice la k lc) k (List.replicate k (vNum 1)) := by
        refine ⟨HR.out.1.1, ?_⟩
        rcases HR.out.1.2 with q | ⟨g, cap, cur, e, hB, r⟩
        · exact .inl q
        · exact .inr ⟨g, cap, cur, e, Nat.zero_le _, r⟩
      obtain ⟨f1, f2, f3, f4⟩ := ones_facts k
      have HLI := Lib.hid (ilist_any (P := fun _ => False) _ k _ _ wr hlow (ones_all wr _ k) (by omega) (by omega))
      have HG5 := Lib.hid HR.out.2
      have HOF := Lib.hid (And.intro f1 (And.intro f2 (And.intro f3 f4)))
      clear hlow f1 f2 f3 f4
      go_wp2_with fail
      refine HLI.out.mono ?_
      rintro e w5 ⟨lb, rfl, hit, g5⟩
      have HG6 := Lib.hid (grownBy_trans HG5.out g5)
      have HE2 := Lib.hid (iencode_any (vList lb) (.list (List.replicate k (.num 1))) w5 hit (by rw [okT, List.length_replicate]; exact ⟨by omega, HOF.out.2.2.1⟩) (by rw [encT, List.length_cons, List.length_append, be_length, HOF.out.2.2.2]; omega) (by rw [depT]; have := HOF.out.1; omega))
      have e2 : encE (.list (List.replicate k (.num 1))) = if 256 < k then 22 else 0 := by
        unfold encE
        rw [depT, if_neg (by have := HOF.out.1; omega), errT, List.length_replicate, HOF.out.2.1]
      rw [e2] at HE2
      generalize encB (.list (List.replicate k (.num 1))) = EB2 at HE2
      obtain ⟨E2, hE2⟩ : ∃ E2 : Int, (if 256 < k then 22 else 0) = E2 := ⟨_, rfl⟩
      rw [hE2] at HE2
      have HE2E := Lib.hid hE2
      clear g5 hit e2 hE2 HLI HG5 HR
      go_wp2_with fail
      refine HE2.out.mono ?_
      rintro e w6 ⟨rfl, g6⟩
      have HG7 := Lib.hid (grownBy_trans HG6.out g6)
      clear g6 HE2 HG6
      go_wp2_with fail
      refine (inum_any 7 w6).mono ?_
      rintro e w7 ⟨rfl, rfl⟩
      go_wp2_with fail
      go_loopw [13, 14] (fun xv iv wr => ∃ (m : Nat) (v : Value), v = xv ∧ m + 1 ≤ D ∧ iv = .int .i64 (m + 1 : Nat) ∧ Hid (ItemAt wr (fun _ => True) v (nestT m) ∧ w.grownBy wr none)) (fun _ iv _ => D - (intOf iv).toNat)
      case atStart => exact ⟨0, _, rfl, by omega, rfl, Lib.hid ⟨by rw [nestT, ItemAt], HG7.out⟩⟩
      case round =>
        clear HG7
        obtain ⟨m, v, rfl, hm, rfl, HX⟩ := hrel
        obtain ⟨f1, f2, f3, f4⟩ := nest_facts m
        by_cases hlt : m + 1 < D
        · have d1 : ((m + 1 : Nat) : Int) < (D : Int) := by omega
          have ga := World.grownBy_alloc wr (.cells #[v] 24) none
          have hoa : (wr.alloc (.cells #[v] 24)).ownsRow 0 24 1 (.slice (some ⟨wr.heap.size, 0, none⟩) 1 1) 1 [v] := World.ownsRow_lit wr #[v] 1 (Nat.zero_le _) (by decide) rfl
          have hall : AllAt (wr.alloc (.cells #[v] 24)) (fun _ => True) [v] [nestT m] := (AllAt.nil _ _).push (HX.out.1.grown ga)
          have HLJ := Lib.hid (ilist_any _ 1 _ _ _ hoa hall (by decide) (by rw [depTs, depTs, f1]; omega))
          have HGA := Lib.hid (grownBy_trans HX.out.2 ga)
          obtain ⟨ty, u, rfl⟩ := item_iface HX.out.1
          clear ga hoa hall f1 f2 f3 f4
          go_wp2_with fail
          refine HLJ.out.mono ?_
          rintro e w8 ⟨lb2, rfl, hit, g8⟩
          have HN8 := Lib.hid (And.intro (show ItemAt w8 (fun _ => True) (vList lb2) (nestT (m + 1)) from hit.mono (fun _ _ _ => trivial)) (grownBy_trans HGA.out g8))
          clear hit g8
          go_wp2_with fail
          go_roundw
          case rel => exact ⟨m + 1, _, rfl, by omega, by first | rfl | go_num, HN8⟩
          case measure => simp [intOf] <;> omega
        · have hmd : m + 1 = D := by omega
          subst hmd
          have d1 : ¬ ((m + 1 : Nat) : Int) < ((m + 1 : Nat) : Int) := by omega
          have HE3 := Lib.hid (iencode_any v (nestT m) wr HX.out.1 f3 (by omega) (by omega))
          have e3 : encE (nestT m) = if 8 < m + 1 then 1 else 0 := by unfold encE; rw [f1, f2]
          rw [e3] at HE3
          generalize encB (nestT m) = EB3 at HE3
          obtain ⟨E3, hE3⟩ : ∃ E3 : Int, (if 8 < m + 1 then 1 else 0) = E3 := ⟨_, rfl⟩
          rw [hE3] at HE3
          have HE3E := Lib.hid hE3
          obtain ⟨D, hDD⟩ : ∃ D, m + 1 = D := ⟨_, rfl⟩
          rw [hDD] at HE3E d1 r3
          rw [hDD]
          clear e3 f1 f2 f3 f4 hE3
          go_wp2_with fail
          refine HE3.out.mono ?_
          rintro e w8 ⟨rfl, g8⟩
          have HG8 := Lib.hid (grownBy_trans HX.out.2 g8)
          clear g8 HE3 HX
          go_wp2_with fail
          refine (iencode_nil w8).mono ?_
          rintro e w9 ⟨rfl, g9⟩
          have HG9 := Lib.hid (grownBy_trans HG8.out g9)
          clear g9 HG8
          go_upto_region 18 with fail
          have h1 := HE1E.out
          have h2 := HE2E.out
          have h3 := HE3E.out
          clear HE1E HE2E HE3E r1 r2 r3
          by_cases c1 : 4096 < X
          · rw [if_pos c1] at h1
            have x1 : (4096 : Int) < (X : Int) := by omega
            have x2 : ¬ (X : Int) ≤ 4096 := by omega
            subst h1
            by_cases c2 : 256 < k
            · rw [if_pos c2] at h2
              have y1 : (256 : Int) < (k : Int) := by omega
              have y2 : ¬ (k : Int) ≤ 256 := by omega
              subst h2
              by_cases c3 : 8 < D
              · rw [if_pos c3] at h3
                have z1 : (8 : Int) < (D : Int) := by omega
                have z2 : ¬ (D : Int) ≤ 8 := by omega
                subst h3
                clear c1 c2 c3
                go_wp2_with fail
                go_ret
                exact ⟨rfl, HG9.out⟩
              · rw [if_neg c3] at h3
                have z1 : ¬ (8 : Int) < (D : Int) := by omega
                have z2 : (D : Int) ≤ 8 := by omega
                subst h3
                clear c1 c2 c3
                go_wp2_with fail
                go_ret
                exact ⟨rfl, HG9.out⟩
            · rw [if_neg c2] at h2
              have y1 : ¬ (256 : Int) < (k : Int) := by omega
              have y2 : (k : Int) ≤ 256 := by omega
              subst h2
              by_cases c3 : 8 < D
              · rw [if_pos c3] at h3
                have z1 : (8 : Int) < (D : Int) := by omega
                have z2 : ¬ (D : Int) ≤ 8 := by omega
                subst h3
                clear c1 c2 c3
                go_wp2_with fail
                go_ret
                exact ⟨rfl, HG9.out⟩
              · rw [if_neg c3] at h3
                have z1 : ¬ (8 : Int) < (D : Int) := by omega
                have z2 : (D : Int) ≤ 8 := by omega
                subst h3
                clear c1 c2 c3
                go_wp2_with fail
                go_ret
                exact ⟨rfl, HG9.out⟩
          · rw [if_neg c1] at h1
            have x1 : ¬ (4096 : Int) < (X : Int) := by omega
            have x2 : (X : Int) ≤ 4096 := by omega
            subst h1
            by_cases c2 : 256 < k
            · rw [if_pos c2] at h2
              have y1 : (256 : Int) < (k : Int) := by omega
              have y2 : ¬ (k : Int) ≤ 256 := by omega
              subst h2
              by_cases c3 : 8 < D
              · rw [if_pos c3] at h3
                have z1 : (8 : Int) < (D : Int) := by omega
                have z2 : ¬ (D : Int) ≤ 8 := by omega
                subst h3
                clear c1 c2 c3
                go_wp2_with fail
                go_ret
                exact ⟨rfl, HG9.out⟩
              · rw [if_neg c3] at h3
                have z1 : ¬ (8 : Int) < (D : Int) := by omega
                have z2 : (D : Int) ≤ 8 := by omega
                subst h3
                clear c1 c2 c3
                go_wp2_with fail
                go_ret
                exact ⟨rfl, HG9.out⟩
            · rw [if_neg c2] at h2
              have y1 : ¬ (256 : Int) < (k : Int) := by omega
              have y2 : (k : Int) ≤ 256 := by omega
              subst h2
              by_cases c3 : 8 < D
              · rw [if_pos c3] at h3
                have z1 : (8 : Int) < (D : Int) := by omega
                have z2 : ¬ (D : Int) ≤ 8 := by omega
                subst h3
                clear c1 c2 c3
                go_wp2_with fail
                go_ret
                exact ⟨rfl, HG9.out⟩
              · rw [if_neg c3] at h3
                have z1 : ¬ (8 : Int) < (D : Int) := by omega
                have z2 : (D : Int) ≤ 8 := by omega
                subst h3
                clear c1 c2 c3
                go_wp2_with fail
                go_ret
                exact ⟨rfl, HG9.out⟩
end Go.Proofs.YtemgeelgkokpcaaDoor
