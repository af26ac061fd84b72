/- The walk of the law SectorKeeps. -/
import Derived.Test.YtolddjihkabgpaaSecKb
import Derived.Deep.DeepCutAuto
import Derived.Deep.CutBlock
import Derived.Deep.RegionWith
namespace Go.Proofs.Ytolddjihkabgpaa
open Go.RowKit

set_option maxRecDepth 100000 in
set_option maxHeartbeats 8000000 in
theorem keeps_walk (ks : List UInt8) (A B : List (Int × ByteArray)) (aa ba ka : Option Addr) (an bn kn ac bc kc : Nat) (w : World)
    (hA : ActsAt w (.slice aa an ac) A) (hB : ActsAt w (.slice ba bn bc) B) (hK : BytesAt w (.slice ka kn kc) ks) (hsA : ∀ x ∈ A, x.2.size ≤ maxLen) (hsB : ∀ x ∈ B, x.2.size ≤ maxLen) (hkn : kn ≤ 9223372036854775807) (hka : ∀ g o, ka = some ⟨g, o, none⟩ → g < w.heap.size) (han : an ≤ maxLen) (hbn : bn ≤ maxLen) :
    Calls Try.prog 5 #[.slice aa an ac, .slice ba bn bc, .slice ka kn kc] w fun e w' => e = .returned (.bool true) ∧ Below w.heap.size w w' := by
  have hAl : A.length = an := by obtain ⟨_, _, e, _⟩ := hA; injection e with _ e _; exact e.symm
  have hBl : B.length = bn := by obtain ⟨_, _, e, _⟩ := hB; injection e with _ e _; exact e.symm
  have HA := Lib.hid hA
  have HB := Lib.hid hB
  have hKn : ks.length = kn := by obtain ⟨_, _, e, _⟩ := hK; injection e with _ e _; exact e.symm
  have HKN := Lib.hid hKn
  have HK := Lib.hid hK
  clear hKn
  have HSA := Lib.hid hsA
  have HSB := Lib.hid hsB
  have HAL := Lib.hid hAl
  have HBL := Lib.hid hBl
  unfold maxLen at han hbn
  clear hA hB hK hsA hsB hAl hBl
  go_enter Try.func5, Try.ntmps5
  go_wp2_with fail
  refine (sec_speaks w).mono ?_
  rintro e w1 ⟨rfl, g1⟩
  have G1 := Lib.hid g1
  clear g1
  go_wp2_with fail
  refine (new_k (n0 := w.heap.size) (X := []) 4 (by decide) (by decide) w1 (by simp) G1.out.size).mono ?_
  rintro e w2 ⟨b, rfl, hd2, g2⟩
  have G2 := Lib.hid (grownBy_trans G1.out g2)
  have D2 := Lib.hid hd2
  clear hd2 g2 G1
  go_wp2_with fail
  obtain ⟨w3, hW3⟩ : ∃ w3, (w2.alloc (.cells #[.string ⟨#[]⟩, .string ⟨#[]⟩, .string ⟨#[]⟩, .string ⟨#[]⟩] 47)).alloc (.cells #[.string ⟨#[]⟩, .string ⟨#[]⟩, .string ⟨#[]⟩, .string ⟨#[]⟩] 47) = w3 := ⟨_, rfl⟩
  rw [hW3]
  obtain ⟨LB, hLB⟩ : ∃ LB, w2.heap.size = LB := ⟨_, rfl⟩
  rw [hLB]
  have hl3 : w3.heap[LB]? = some (.cells (strV (List.replicate 4 ⟨#[]⟩)).toArray 47 (0, 0)) := by
    rw [← hW3, Below.heap_alloc _ _ _ (by simp; omega)]; exact heap_alloc_at _ _ _ hLB
  have ht3 : w3.heap[LB + 1]? = some (.cells (strV (List.replicate 4 ⟨#[]⟩)).toArray 47 (0, 0)) := by
    rw [← hW3]; exact heap_alloc_at _ _ _ (by simp; omega)
  have hg3 : w2.grownBy w3 none := by rw [← hW3]; exact grownBy_alloc' (World.grownBy_alloc _ _ _) _
  have hn3 : w.heap.size ≤ LB := by rw [← hLB]; exact G2.out.size
  have hA3 : KA w w3 b LB (LB + 1) (newD 4) := ⟨KDisk.more D2.out hg3 (by intro i hi; simp at hi; right; omega), below_grownBy (grownBy_trans G2.out hg3), ht3, rfl, rfl, rfl⟩
  have KA3 := Lib.hid hA3
  have HL3 := Lib.hid hl3
  have HNL := Lib.hid hn3
  clear hA3 hl3 ht3 hg3 hn3 hLB hW3 D2 G2
  have HF := Lib.hid (fun (t : ByteArray) (h : t.size ≤ 64) (w : World) => full_any t (by omega) w)
  have e0 : nowL 4 (newD 4) = List.replicate 4 (fullT ⟨#[]⟩) := nowL_new 4 4 (Nat.le_refl _)
  have E0 := Lib.hid e0
  have HFT : Hid (∀ w : World, Calls Try.prog 8 #[.string ⟨#[]⟩] w fun e w' => e = .returned (.string (fullT ⟨#[]⟩)) ∧ w = w') := fun w => full_any ⟨#[]⟩ (by decide) w
  clear e0
  generalize fullT ⟨#[]⟩ = T0 at E0 HFT
  -- the first loop: noughts
  go_loopw [11] (fun iv wr => ∃ (k : Nat) (L : List ByteArray), k ≤ 4 ∧ iv = .int .i64 k ∧ Hid (L.length = 4) ∧ Hid (∀ j, j < k → L[j]? = some T0) ∧ Hid (wr.heap[LB]? = some (.cells (strV L).toArray 47 (0, 0))) ∧ Hid (KA w wr b LB (LB + 1) (newD 4))) (fun iv _ => 4 - (intOf iv).toNat)
  case atStart => exact ⟨0, _, by decide, rfl, by show _ = _; simp, fun j h => absurd h (by omega), HL3.out, KA3.out⟩
  case round =>
    obtain ⟨k, L, hk, rfl, HLL, HLK, HL, HD⟩ := hrel
    by_cases hlt : k < 4
    · have d1 : (k : Int) < 4 := by omega
      have d0 : (0 : Int) ≤ (k : Int) := by omega
      have hlk : k < L.length := by have := HLL.out; omega
      have c0 : wr.cell? ⟨LB, k, none⟩ = some (.string L[k]) := by rw [cell_of HL.out, List.getElem?_toArray, strV_at L k hlk]
      have f0 : wr.frozen? ⟨LB, k, none⟩ = false := free_of HL.out k
      go_wp2_with (go_at_call 8; (with_reducible refine (HFT.out _).mono ?_); rintro e w6 ⟨rfl, rfl⟩)
      go_roundw
      case rel =>
        have t : Turn (fun i => i = LB) wr (wr.setCell ⟨LB, k, none⟩ (.string T0)) := (Turn.refl (fun i => i = LB) wr).setCell (fun _ => rfl) _ _
        have h := HD.out
        refine ⟨k + 1, L.set k T0, by omega, by go_num, by show _ = _; rw [List.length_set]; exact HLL.out, ?_, ?_, ⟨h.disk.turn t (fun i _ e => by rw [e]; simp), t.below h.bel (by have := h.bel.size; exact this) (fun i hi e => by have := HNL.out; omega), t.heap h.tb (by omega), h.on, h.fuse, h.len⟩⟩
        · intro j hj
          by_cases hjk : k = j
          · subst hjk; rw [List.getElem?_set_self hlk]
          · rw [List.getElem?_set_ne hjk]; exact HLK.out j (by omega)
        · show _ = _
          rw [heap_setCell HL.out, strV_set]
      case measure => simp [intOf]; omega
    · have hk4 : k = 4 := by omega
      have hL : L = nowL 4 (newD 4) := by
        rw [E0.out]
        apply List.ext_getElem?
        intro j
        by_cases hj : j < 4
        · rw [HLK.out j (by omega), List.getElem?_replicate, if_pos hj]
        · rw [List.getElem?_eq_none (by have := HLL.out; omega), List.getElem?_eq_none (by simp; omega)]
      have HL4 : Hid (wr.heap[LB]? = some (.cells (strV (nowL 4 (newD 4))).toArray 47 (0, 0))) := by rw [← hL]; exact HL.out
      have d1 : ¬ (k : Int) < 4 := by omega
      clear HL HLK HLL hL E0 HFT KA3 HL3 hk4
      -- the second loop: what is written ahead of the Sync
      go_upto_block 2 with (fail)
      go_cut [12, 13] (fun _ _ wx => ∃ D : DiskS, Hid (KA w wx b LB (LB + 1) D) ∧ Hid (wx.heap[LB]? = some (.cells (strV (nowL 4 D)).toArray 47 (0, 0))) ∧ Hid (D.wait.length ≤ 10))
      case first =>
        go_wp2_with fail
        go_loopw [12, 13] (fun iv _ wx => ∃ (m : Nat) (D : DiskS), m ≤ an ∧ m ≤ 10 ∧ iv = .int .i64 m ∧ Hid (KA w wx b LB (LB + 1) D) ∧ Hid (wx.heap[LB]? = some (.cells (strV (nowL 4 D)).toArray 47 (0, 0))) ∧ Hid (D.wait.length = m)) (fun iv _ _ => 10 - (intOf iv).toNat)
        case atStart => exact ⟨0, newD 4, Nat.zero_le _, by decide, rfl, HD.out, HL4.out, rfl⟩
        case round =>
          obtain ⟨m, D, hman, hm10, rfl, HD2, HL2, HW2⟩ := hrel
          by_cases hlm : m < an ∧ m < 10
          · obtain ⟨hm1, hm2⟩ := hlm
            have q1 : (m : Int) < (an : Int) := by omega
            have q2 : (m : Int) < 10 := by omega
            have q0 : (0 : Int) ≤ (m : Int) := by omega
            obtain ⟨g, o, z, x, rfl, hx1, c1, c3⟩ : ∃ g o z x, aa = some ⟨g, o, none⟩ ∧ x.size ≤ maxLen ∧ wr.cell? ⟨g, o + m * 5 + 1, none⟩ = some (.int .i64 z) ∧ wr.cell? ⟨g, o + m * 5 + 3, none⟩ = some (.string x) := by
              obtain ⟨a', c', e, h⟩ := HA.out.below rfl HD2.out.bel
              injection e with e1 _ _
              obtain ⟨g, o, e2, h1, h2⟩ := h m (by have := HAL.out; omega)
              exact ⟨g, o, _, _, by rw [e1, e2], HSA.out _ (List.getElem_mem _), h1, h2⟩
            unfold maxLen at hx1
            go_upto_region 12 with (fail)
            go_cut [13] (fun sv wy => ∃ t : ByteArray, t.size ≤ 64 ∧ sv = .string t ∧ Hid (∃ q, wr.drewN q = wy))
            case first =>
              by_cases hz : x.size ≤ 64
              · have hz2 : (x.size : Int) ≤ 64 := by omega
                go_region
                all_goals
                  go_wp2_with fail
                  go_meet
                  case rel => exact ⟨_, by first | exact hz | (rw [ByteArray.size_extract]; omega), rfl, 1, rfl⟩
              · have hz2 : ¬ (x.size : Int) ≤ 64 := by omega
                have hz3 : (64 : Int) < (x.size : Int) := by omega
                have hz4 : (64 : Int) ≤ (x.size : Int) := by omega
                go_region
                all_goals
                  go_wp2_with fail
                  go_meet
                  case rel => exact ⟨_, by rw [ByteArray.size_extract]; omega, rfl, 1, rfl⟩
            case rest =>
              obtain ⟨t, ht, rfl, HQ⟩ := hcut
              obtain ⟨nq, hnq⟩ := HQ.out
              obtain ⟨q, hq, hq4⟩ : ∃ q : Nat, bits .and .i64 z 3 = (q : Int) ∧ q < 4 := ⟨_, and3 z, low2_lt z⟩
              have hgr : wr.grownBy wc none := by rw [← hnq]; exact grownBy_drewN (World.grownBy.refl _ _) _
              have HD3 : Hid (KA w wc b LB (LB + 1) D) := ⟨HD2.out.disk.grown hgr, (HD2.out.bel).trans (below_grownBy hgr |>.mono HD2.out.bel.size), (hgr.block _ (Array.getElem?_eq_some_iff.1 HD2.out.tb).1 (by simp)).trans HD2.out.tb, HD2.out.on, HD2.out.fuse, HD2.out.len⟩
              have HL3 : Hid (wc.heap[LB]? = some (.cells (strV (nowL 4 D)).toArray 47 (0, 0))) := (hgr.block _ (Array.getElem?_eq_some_iff.1 HL2.out).1 (by simp)).trans HL2.out
              have c1' : wc.cell? ⟨g, o + m * 5 + 1, none⟩ = some (.int .i64 z) := by rw [← hnq]; exact c1
              have hgn : g < w.heap.size := by
                obtain ⟨a', c', e, h⟩ := HA.out
                injection e with e1 _ _
                obtain ⟨g', o', e2, h1, h2⟩ := h m (by have := HAL.out; omega)
                rw [← e1] at e2
                cases e2
                exact cell_lt h1
              have hltLB : LB < wc.heap.size := (Array.getElem?_eq_some_iff.1 HL3.out).1
              have hltTB : LB + 1 < wc.heap.size := (Array.getElem?_eq_some_iff.1 HD3.out.tb).1
              have HWR := Lib.hid (write_k (X := [LB + 1, LB]) (n0 := w.heap.size) (by intro x hx; simp at hx; omega) HD3.out.bel.size q t HD3.out.disk HD3.out.on (by rw [HD3.out.len]; exact hq4) ht (by rw [HD3.out.fuse]; decide) (by rw [HD3.out.fuse]; decide) (by rw [HW2.out]; omega))
              have HGN := Lib.hid hgn
              clear HQ hnq hgr HD2 HL2 c1 c3 hgn hltLB hltTB
              have qi0 : (0 : Int) ≤ (q : Int) := by omega
              have qi4 : (q : Int) < 4 := by omega
              go_wp2_with fail
              refine HWR.out.mono ?_
              rintro e w5 ⟨rfl, hd5, t5⟩
              have HD5 : Hid (KA w w5 b LB (LB + 1) (wroteD D q t)) := ⟨hd5, t5.bel HD3.out.bel HD3.out.bel.size, t5.inX (by simp) HD3.out.tb, HD3.out.on, by show (if D.fuse < 0 then D.fuse else _) = _; rw [HD3.out.fuse]; rfl, HD3.out.len⟩
              have HL5 : Hid (w5.heap[LB]? = some (.cells (strV (nowL 4 D)).toArray 47 (0, 0))) := t5.inX (by simp) HL3.out
              have c5 : w5.cell? ⟨g, o + m * 5 + 1, none⟩ = some (.int .i64 z) := (t5.cell (b := g) (cell_lt c1') (fun q => by have := q.1; have := HGN.out; omega) _).trans c1'
              have l5 : w5.cell? ⟨LB, q, none⟩ = some (.string (str (readL D.last D.wait q))) := by rw [cell_of HL5.out, List.getElem?_toArray, strV, List.getElem?_map, nowL_at 4 D q hq4]; rfl
              have f5 : w5.frozen? ⟨LB, q, none⟩ = false := free_of HL5.out q
              have HFF := Lib.hid (HF.out t ht)
              have HT := Lib.hid ht
              clear hd5 t5 c1' HWR HD3 HL3 ht
              generalize hTT : fullT t = TT at HFF
              go_wp2_with fail
              go_region_with ((go_at_call 8; refine (HFF.out _).mono ?_; rintro e w6 ⟨rfl, rfl⟩))
              all_goals
                go_wp2_with fail
                go_roundw
                case rel =>
                  have tt : Turn (fun i => i = LB) w5 ((w5.setCell ⟨LB, q, none⟩ (.string TT)).drew) := ((Turn.refl (fun i => i = LB) w5).setCell (fun _ => rfl) _ _).drew
                  have h := HD5.out
                  refine ⟨m + 1, wroteD D q t, by omega, by omega, by go_num, ⟨h.disk.turn tt (fun i _ e => by rw [e]; simp), tt.below h.bel h.bel.size (fun i hi e => by have := HNL.out; omega), tt.heap h.tb (by omega), h.on, h.fuse, h.len⟩, ?_, ?_⟩
                  · show _ = _
                    rw [nowL_wrote, hTT, ← strV_set]
                    exact heap_setCell HL5.out q _
                  · show (D.wait ++ [_]).length = _
                    rw [List.length_append, HW2.out]
                    rfl
                case measure => simp [intOf]; omega
          · have hrl : ∀ wx : World, wx = wr → True := fun _ _ => trivial
            by_cases h1 : m < an
            · have q1 : (m : Int) < (an : Int) := by omega
              have q2 : ¬ (m : Int) < 10 := by omega
              go_wp2_with fail
              go_meet
              case rel => exact ⟨D, HD2.out, HL2.out, by show _ ≤ _; rw [HW2.out]; exact hm10⟩
            · have q1 : ¬ (m : Int) < (an : Int) := by omega
              go_wp2_with fail
              go_meet
              case rel => exact ⟨D, HD2.out, HL2.out, by show _ ≤ _; rw [HW2.out]; exact hm10⟩
      case rest =>
        obtain ⟨D, HD1, HL1, HW1⟩ := hcut
        have HSY := Lib.hid (sync_k HD1.out.disk HD1.out.on (by rw [HD1.out.len]; decide) (by rw [HD1.out.fuse]; decide) (by rw [HD1.out.fuse]; decide) (by have := HW1.out; omega))
        go_wp2_with fail
        refine HSY.out.mono ?_
        rintro e w6 ⟨rfl, hd6, t6⟩
        have hl6 : w6.heap[LB]? = _ := t6.inX (by simp) HL1.out
        have ht6 : w6.heap[LB + 1]? = _ := t6.inX (by simp) HD1.out.tb
        have hn4 : (nowL 4 D).length = 4 := nowL_length 4 D
        have HRA : Hid (w6.rangeAt LB 0 (strV (nowL 4 D))) := by
          intro j v hv
          rw [cell_of hl6, List.getElem?_toArray, Nat.zero_add]
          exact hv
        have HTH : Hid (w6.there (LB + 1) 0 (strV (nowL 4 D)).toArray.size) := by
          intro j hj
          rw [List.size_toArray, strV_length, hn4] at hj
          rw [cell_of ht6, free_of ht6, List.getElem?_toArray]
          refine ⟨?_, rfl⟩
          rw [List.getElem?_eq_getElem (by rw [strV_length, List.length_replicate]; omega)]
          rfl
        have HI4 : Hid ((Try.prog.info? 47).map (·.size) = some (strV (nowL 4 D)).length) := by show _ = _; rw [strV_length, hn4]; kernel_rfl
        have HO4 : Hid ((strV (nowL 4 D)).toArray.all (·.oneCell') = true) := all_oneCell_toArray (by intro v hv; obtain ⟨x, _, rfl⟩ := List.mem_map.1 hv; rfl)
        have HD6 := Lib.hid hd6
        have HT6 := Lib.hid t6
        have HX6 := Lib.hid (And.intro hl6 ht6)
        clear hd6 t6 hl6 ht6 HSY
        go_upto_region 19 with (first
          | (refine wpList_load_mid (by rfl) 47 (.tmp 9) (by rfl) LB 0 (by rfl) _ _ HRA.out Try.underlying47 (by rfl) (by exact HI4.out) ?_)
          | (refine wpList_store_mid (by rfl) 47 (.tmp 10) (.tmp 81) (by rfl) (LB + 1) 0 (strV (nowL 4 D)).toArray (by rfl) (by rfl) HTH.out (by exact HI4.out) HO4.out ?_))
        obtain ⟨w7, hW7⟩ : ∃ w7, w6.setCells (LB + 1) 0 (strV (nowL 4 D)).toArray.toList = w7 := ⟨_, rfl⟩
        have t7 : Turn (fun i => i = LB + 1) w6 w7 := by rw [← hW7]; exact (Turn.refl (fun i => i = LB + 1) w6).setCells (fun _ => rfl) _ _
        have h7 : w7.heap[LB + 1]? = some (.cells (strV (nowL 4 D)).toArray 47 (0, 0)) := by
          rw [← hW7, heap_setCells _ 0 _ _ HX6.out.2 (by simp [strV_length, hn4])]
          rw [List.toList_toArray, List.toList_toArray, Nat.zero_add, List.take_zero, List.nil_append, List.drop_of_length_le (by simp [strV_length, hn4]), List.append_nil]
        try rw [List.toList_toArray] at hW7
        rw [hW7]
        have hb7 : Below w.heap.size w w7 := t7.below (HT6.out.bel HD1.out.bel HD1.out.bel.size) (by have := HD1.out.bel.size; have := HT6.out.size; omega) (fun i hi e => by have := HNL.out; omega)
        have hS : Secs (syncL D.last D.wait) := by
          obtain ⟨_, _, _, m, _⟩ := HD1.out.disk
          exact syncL_secs D.wait D.last m.secs m.waits
        have hE : ∀ i, i < 4 → (syncL D.last D.wait).getD i [] = readL D.last D.wait i := by
          intro i hi
          obtain ⟨_, _, _, m, _⟩ := HD1.out.disk
          exact syncL_read D.wait D.last i m.waits
        have hSl : (syncL D.last D.wait).length = 4 := by rw [syncL_length]; exact HD1.out.len
        have hfu : decF D.fuse = -1 := by rw [HD1.out.fuse]; rfl
        have hd7 : KDisk w.heap.size [LB + 1, LB] w7 b (syncD { D with fuse := decF D.fuse }) := HD6.out.turn t7 (fun i _ e => by rw [e]; simp)
        have hTn : ∀ i, i < 4 → (nowL 4 D)[i]? = some (str ((syncL D.last D.wait).getD i [])) := fun i hi => by rw [nowL_at 4 D i hi, hE i hi]
        have hD7 : (syncD { D with fuse := decF D.fuse }).last = syncL D.last D.wait ∧ (syncD { D with fuse := decF D.fuse }).wait = [] ∧ (syncD { D with fuse := decF D.fuse }).on = true ∧ (syncD { D with fuse := decF D.fuse }).fuse = -1 := ⟨rfl, rfl, HD1.out.on, hfu⟩
        generalize syncD { D with fuse := decF D.fuse } = E7 at hd7 hD7
        generalize syncL D.last D.wait = S at hS hSl hTn hD7
        generalize nowL 4 D = Tn at h7 hTn hn4
        have hlb7 : LB < w7.heap.size := by have := (Array.getElem?_eq_some_iff.1 HX6.out.1).1; have := t7.size; omega
        have KD7 := Lib.hid (And.intro hd7 (And.intro h7 (And.intro hb7 (And.intro hlb7 hD7))))
        have HS := Lib.hid (And.intro hS (And.intro hSl hTn))
        clear hd7 h7 hb7 hD7 hS hSl hTn hE hfu t7 hW7 HRA HTH HI4 HO4 HX6 HT6 HD6 HD1 HL1 HW1 hn4 hlb7
        -- the texts that are written behind the Sync
        go_upto_block 4 with (fail)
        obtain ⟨XB, hXB⟩ : ∃ XB, w7.heap.size = XB := ⟨_, rfl⟩
        obtain ⟨w8, hW8⟩ : ∃ w8, w7.alloc (.cells #[.slice none 0 0, .slice none 0 0, .slice none 0 0, .slice none 0 0] 48) = w8 := ⟨_, rfl⟩
        rw [hW8, hXB]
        have hx8 : w8.heap[XB]? = some (.cells (List.replicate 4 (Value.slice none 0 0)).toArray 48 (0, 0)) := by rw [← hW8]; exact heap_alloc_at _ _ _ hXB
        have hg8 : w7.grownBy w8 none := by rw [← hW8]; exact World.grownBy_alloc _ _ _
        have HB8 : Hid (KB w w8 b LB (LB + 1) XB Tn S E7 (List.replicate 4 (Value.slice none 0 0))) := by
          obtain ⟨k1, k2, k3, k4, k5, k6, k7, k8⟩ := KD7.out
          have hrep : ∀ (i : Nat) (v : Value), (List.replicate 4 (Value.slice none 0 0))[i]? = some v → v = .slice none 0 0 := fun i v hv => (List.mem_replicate.1 (List.mem_of_getElem? hv)).2
          refine ⟨KDisk.more k1 hg8 ?_, k3.trans ((below_grownBy hg8).mono k3.size), (hg8.block _ (Array.getElem?_eq_some_iff.1 k2).1 (by simp)).trans k2, hx8, Nat.lt_of_lt_of_le k4 hg8.size, by have := k3.size; omega, rfl, ?_, ?_, ?_, k7, k8, k5⟩
          · intro i hi
            simp [xsB, Value.ownBlock] at hi
            rcases hi with h | h | h
            · right; omega
            · left; simp [h]
            · left; simp [h]
          · intro i v hv
            rw [hrep i v hv, k6]
            exact World.ownsRow_nil _ _ _ _
          · intro i j v u g hv _ _ hg
            rw [hrep i v hv] at hg
            simp [Value.ownBlock] at hg
          · intro i v g hv hg
            rw [hrep i v hv] at hg
            simp [Value.ownBlock] at hg
        have HW8 : Hid (E7.wait.length = 0) := by show _ = _; rw [KD7.out.2.2.2.2.2.1]; rfl
        clear hx8 hg8 hW8 hXB KD7
        go_cut [15, 16] (fun _ _ wx => ∃ (E : DiskS) (V : List Value), Hid (KB w wx b LB (LB + 1) XB Tn S E V) ∧ Hid (E.wait.length ≤ 10))
        case first =>
          obtain ⟨i0, hti, hz0, hz1, hz2⟩ := info_parts infoStrW
          go_wp2_with fail
          go_loopw [15, 16] (fun iv _ wx => ∃ (m : Nat) (E : DiskS) (V : List Value), m ≤ bn ∧ m ≤ 10 ∧ iv = .int .i64 m ∧ Hid (KB w wx b LB (LB + 1) XB Tn S E V) ∧ Hid (E.wait.length = m)) (fun iv _ _ => 10 - (intOf iv).toNat)
          case atStart => exact ⟨0, E7, _, Nat.zero_le _, by decide, rfl, HB8.out, HW8.out⟩
          case round =>
            obtain ⟨m, E, V, hman, hm10, rfl, HE, HW2⟩ := hrel
            by_cases hlm : m < bn ∧ m < 10
            · obtain ⟨hm1, hm2⟩ := hlm
              have q1 : (m : Int) < (bn : Int) := by omega
              have q2 : (m : Int) < 10 := by omega
              have q0 : (0 : Int) ≤ (m : Int) := by omega
              obtain ⟨g, o, z, x, rfl, hx1, c1, c3⟩ : ∃ g o z x, ba = some ⟨g, o, none⟩ ∧ x.size ≤ maxLen ∧ wr.cell? ⟨g, o + m * 5 + 1, none⟩ = some (.int .i64 z) ∧ wr.cell? ⟨g, o + m * 5 + 3, none⟩ = some (.string x) := by
                obtain ⟨a', c', e, h⟩ := HB.out.below rfl HE.out.bel
                injection e with e1 _ _
                obtain ⟨g, o, e2, h1, h2⟩ := h m (by have := HBL.out; omega)
                exact ⟨g, o, _, _, by rw [e1, e2], HSB.out _ (List.getElem_mem _), h1, h2⟩
              unfold maxLen at hx1
              go_upto_region 23 with (fail)
              go_cut [16] (fun sv wy => ∃ t : ByteArray, t.size ≤ 64 ∧ sv = .string t ∧ Hid (∃ q, wr.drewN q = wy))
              case first =>
                by_cases hz : x.size ≤ 64
                · have hz2 : (x.size : Int) ≤ 64 := by omega
                  go_region
                  all_goals
                    go_wp2_with fail
                    go_meet
                    case rel => exact ⟨_, by first | exact hz | (rw [ByteArray.size_extract]; omega), rfl, 1, rfl⟩
                · have hz2 : ¬ (x.size : Int) ≤ 64 := by omega
                  have hz3 : (64 : Int) < (x.size : Int) := by omega
                  have hz4 : (64 : Int) ≤ (x.size : Int) := by omega
                  go_region
                  all_goals
                    go_wp2_with fail
                    go_meet
                    case rel => exact ⟨_, by rw [ByteArray.size_extract]; omega, rfl, 1, rfl⟩
              case rest =>
                obtain ⟨t, ht, rfl, HQ⟩ := hcut
                obtain ⟨nq, hnq⟩ := HQ.out
                obtain ⟨q, hq, hq4⟩ : ∃ q : Nat, bits .and .i64 z 3 = (q : Int) ∧ q < 4 := ⟨_, and3 z, low2_lt z⟩
                have hgr : wr.grownBy wc none := by rw [← hnq]; exact grownBy_drewN (World.grownBy.refl _ _) _
                have HE3 : Hid (KB w wc b LB (LB + 1) XB Tn S E V) := by
                  have h := HE.out
                  have t0 : Turn (fun _ => False) wr wc := Turn.of_grown hgr
                  exact ⟨h.disk.grown hgr, h.bel.trans (below_grownBy hgr |>.mono h.bel.size), t0.heap h.tb (fun q => q), t0.heap h.xb (fun q => q), Nat.lt_of_lt_of_le h.lb hgr.size, h.xn, h.vl, fun i v hv => own_turn (h.rows i v hv) t0 (fun _ _ q => q), h.apart, h.far, h.on, h.fuse, h.last⟩
                have c1' : wc.cell? ⟨g, o + m * 5 + 1, none⟩ = some (.int .i64 z) := by rw [← hnq]; exact c1
                have hgn : g < w.heap.size := by
                  obtain ⟨a', c', e, h⟩ := HB.out
                  injection e with e1 _ _
                  obtain ⟨g', o', e2, h1, h2⟩ := h m (by have := HBL.out; omega)
                  rw [← e1] at e2
                  cases e2
                  exact cell_lt h1
                have hEl : E.last.length = 4 := by rw [HE.out.last]; exact HS.out.2.1
                have HWR := Lib.hid (write_k (X := xsB LB (LB + 1) XB V) (n0 := w.heap.size) HE3.out.lt HE3.out.bel.size q t HE3.out.disk HE3.out.on (by rw [hEl]; exact hq4) ht (by rw [HE3.out.fuse]; decide) (by rw [HE3.out.fuse]; decide) (by rw [HW2.out]; omega))
                have HGN := Lib.hid hgn
                clear HQ hnq hgr HE c1 c3 hgn hEl
                have qi0 : (0 : Int) ≤ (q : Int) := by omega
                have qi4 : (q : Int) < 4 := by omega
                go_wp2_with fail
                refine HWR.out.mono ?_
                rintro e w5 ⟨rfl, hd5, t5⟩
                obtain ⟨hb5, htb5, hxb5, hrow5⟩ := HE3.out.disked t5
                have c5 : w5.cell? ⟨g, o + m * 5 + 1, none⟩ = some (.int .i64 z) := (t5.cell (b := g) (cell_lt c1') (fun q => by have := q.1; have := HGN.out; omega) _).trans c1'
                obtain ⟨v, hv⟩ : ∃ v, V[q]? = some v := ⟨_, List.getElem?_eq_getElem (by rw [HE3.out.vl]; exact hq4)⟩
                have hown := hrow5 q v hv
                obtain ⟨va, vn, vc, rfl⟩ : ∃ a n c, v = .slice a n c := by rcases own_form hown with ⟨rfl, _⟩ | ⟨_, _, rfl⟩ <;> exact ⟨_, _, _, rfl⟩
                have x5 : w5.cell? ⟨XB, q, none⟩ = some (.slice va vn vc) := by rw [cell_of hxb5, List.getElem?_toArray]; exact hv
                have f5 : w5.frozen? ⟨XB, q, none⟩ = false := free_of hxb5 q
                have HFF := Lib.hid (HF.out t ht)
                have HO5 := Lib.hid hown
                have H5 := Lib.hid (And.intro hd5 (And.intro hb5 (And.intro htb5 (And.intro hxb5 hrow5))))
                have HT5 : Hid (wc.heap.size ≤ w5.heap.size) := t5.size
                have HV := Lib.hid hv
                have HTL := Lib.hid ht
                clear hd5 t5 c1' HWR ht hown hb5 htb5 hxb5 hrow5 hv
                generalize hTT : fullT t = TT at HFF
                have hn5 : (txsL E.wait q).length ≤ 10 := by
                  have h1 : (txsL E.wait q).length ≤ E.wait.length := by unfold txsL; rw [List.length_map]; exact List.length_filter_le _ _
                  have := HW2.out
                  omega
                have HN5 : Hid ((txsL E.wait q).length + 1 ≤ maxLen ∧ ((txsL E.wait q).length + 1) * 16 ≤ 140737488355328 ∧ w.heap.size ≤ (w5.drew.alloc (.cells #[.string TT] 9)).heap.size) := by
                  refine ⟨by unfold maxLen; omega, by omega, ?_⟩
                  have := H5.out.2.1.size
                  simp
                  show w.heap.size ≤ w5.heap.size + 1
                  omega
                have hlx : XB < w5.heap.size := cell_lt x5
                have hlg : g < w5.heap.size := cell_lt c5
                have hxne : ¬ XB = w5.heap.size := by omega
                have hgx : g ≠ XB := by
                  intro e
                  have h1 := H5.out.2.2.2.1
                  have h2 := c5
                  rw [e, cell_of h1, List.getElem?_toArray] at h2
                  obtain ⟨u, hu⟩ : ∃ u, V[o + m * 5 + 1]? = some u := ⟨_, h2⟩
                  have h3 := H5.out.2.2.2.2 _ u hu
                  rw [hu] at h2
                  rcases own_form h3 with ⟨rfl, _⟩ | ⟨_, _, rfl⟩ <;> simp at h2
                have c5a : ∀ o' : Obj, (w5.drew.alloc o').cell? ⟨g, o + m * 5 + 1, none⟩ = some (.int .i64 z) := fun o' => (World.cell?_alloc_lt _ _ _ hlg).trans c5
                have H6 : Hid (∀ w6 : World, (w5.drew.alloc (.cells #[.string TT] 9)).grownBy w6 (Value.slice va vn vc).ownBlock → w6.cell? ⟨g, o + m * 5 + 1, none⟩ = some (.int .i64 z) ∧ w6.cell? ⟨XB, q, none⟩ = some (.slice va vn vc) ∧ w6.frozen? ⟨XB, q, none⟩ = false ∧ ∀ u, (w6.setCell ⟨XB, q, none⟩ u).cell? ⟨g, o + m * 5 + 1, none⟩ = some (.int .i64 z)) := by
                  intro w6 hg6
                  have t6 : Turn (fun i => (Value.slice va vn vc).ownBlock = some i) w5 w6 := (((Turn.refl _ w5).drew).alloc _).row hg6 (fun i _ e => e)
                  have hx6 := t6.heap H5.out.2.2.2.1 (fun e => (HE3.out.far q _ XB HV.out e).1 rfl)
                  have hc6 : w6.cell? ⟨g, o + m * 5 + 1, none⟩ = some (.int .i64 z) := (t6.cell (b := g) hlg (fun e => by have := (HO5.out.lt g e).1; have := HGN.out; omega) _).trans c5
                  exact ⟨hc6, by rw [cell_of hx6, List.getElem?_toArray]; exact HV.out, free_of hx6 q, fun u => (World.cell?_of_block (a := ⟨g, o + m * 5 + 1, none⟩) (heap_setCell_ne _ _ _ _ (fun e => hgx e.symm))).trans hc6⟩
                clear hn5
                go_wp2_with fail
                refine wp_region_noPanic ?_
                refine wp_region_held_drew (S := (fun w' => w'.cell? ⟨g, o + m * 5 + 1, none⟩ = some (.int .i64 z))) (by kernel_rfl) ?hsy (fun hHeld => ?rgy)
                case hsy => exact c5
                case rgy =>
                  refine wpAnyH_take (i := 0) (v := ?vy_0) rfl (by kernel_rfl) (by kernel_rfl) (by kernel_rfl) (fun _ _ _ h => h) (Or.inl ⟨by kernel_rfl, ?hy_0⟩) (by assumption) ?ry_0
                  case hy_0 => (intro w0 hSw; (try dsimp only at hSw); go_simp; (try with_reducible rfl))
                  try simp only [Act.put, List.setIfInBounds_toArray, List.set_cons_zero, List.set_cons_succ]
                  refine wpAnyH_take (i := 1) (v := ?vy_1) rfl (by kernel_rfl) (by kernel_rfl) (by kernel_rfl) (fun _ _ _ h => h) (Or.inl ⟨by kernel_rfl, ?hy_1⟩) (by assumption) ?ry_1
                  case hy_1 => (intro w0 hSw; (try dsimp only at hSw); go_simp; (try with_reducible rfl))
                  try simp only [Act.put, List.setIfInBounds_toArray, List.set_cons_zero, List.set_cons_succ]
                  refine wpAnyH_take (i := 2) (v := ?vy_2) rfl (by kernel_rfl) (by kernel_rfl) (by kernel_rfl) (fun _ _ _ h => h) (Or.inl ⟨by kernel_rfl, ?hy_2⟩) (by assumption) ?ry_2
                  case hy_2 => (intro w0 hSw; (try dsimp only at hSw); go_simp; (try with_reducible rfl))
                  try simp only [Act.put, List.setIfInBounds_toArray, List.set_cons_zero, List.set_cons_succ]
                  refine wpAnyH_take (i := 3) (v := ?vy_3) rfl (by kernel_rfl) (by kernel_rfl) (by kernel_rfl) (fun _ _ _ h => h) (Or.inl ⟨by kernel_rfl, ?hy_3⟩) (by assumption) ?ry_3
                  case hy_3 => (intro w0 hSw; (try dsimp only at hSw); go_simp; (try with_reducible rfl))
                  try simp only [Act.put, List.setIfInBounds_toArray, List.set_cons_zero, List.set_cons_succ]
                  refine wpAnyH_take (i := 4) (v := ?vy_4) rfl (by kernel_rfl) (by kernel_rfl) (by kernel_rfl) (fun _ _ _ h => h) (Or.inl ⟨by kernel_rfl, ?hy_4⟩) (by assumption) ?ry_4
                  case hy_4 => (intro w0 hSw; (try dsimp only at hSw); go_simp; (try with_reducible rfl))
                  try simp only [Act.put, List.setIfInBounds_toArray, List.set_cons_zero, List.set_cons_succ]
                  refine wpAnyH_take (i := 5) (v := ?vy_5) rfl (by kernel_rfl) (by kernel_rfl) (by kernel_rfl) (fun _ _ _ h => h) (Or.inl ⟨by kernel_rfl, ?hy_5⟩) (by assumption) ?ry_5
                  case hy_5 => (intro w0 hSw; (try dsimp only at hSw); go_simp; (try with_reducible rfl))
                  try simp only [Act.put, List.setIfInBounds_toArray, List.set_cons_zero, List.set_cons_succ]
                  refine wpAnyH_take (i := 6) (v := ?vy_6) rfl (by kernel_rfl) (by kernel_rfl) (by kernel_rfl) (fun _ _ _ h => h) (Or.inl ⟨by kernel_rfl, ?hy_6⟩) (by assumption) ?ry_6
                  case hy_6 => (intro w0 hSw; (try dsimp only at hSw); go_simp; (try with_reducible rfl))
                  try simp only [Act.put, List.setIfInBounds_toArray, List.set_cons_zero, List.set_cons_succ]
                  refine wpAnyH_take (i := 7) (v := ?vy_7) rfl (by kernel_rfl) (by kernel_rfl) (by kernel_rfl) (fun _ _ _ h => h) (Or.inl ⟨by kernel_rfl, ?hy_7⟩) (by assumption) ?ry_7
                  case hy_7 => (intro w0 hSw; (try dsimp only at hSw); go_simp; (try with_reducible rfl))
                  try simp only [Act.put, List.setIfInBounds_toArray, List.set_cons_zero, List.set_cons_succ]
                  refine wpAnyH_take (i := 8) (v := ?vy_8) rfl (by kernel_rfl) (by kernel_rfl) (by kernel_rfl) (fun _ _ _ h => h) (Or.inl ⟨by kernel_rfl, ?hy_8⟩) (by assumption) ?ry_8
                  case hy_8 => (intro w0 hSw; (try dsimp only at hSw); go_simp; (try with_reducible rfl))
                  try simp only [Act.put, List.setIfInBounds_toArray, List.set_cons_zero, List.set_cons_succ]
                  refine wpAnyH_take (i := 9) (v := ?vy_9) rfl (by kernel_rfl) (by kernel_rfl) (by kernel_rfl) (fun _ _ _ h => h) (Or.inl ⟨by kernel_rfl, ?hy_9⟩) (by assumption) ?ry_9
                  case hy_9 => (intro w0 hSw; (try dsimp only at hSw); go_simp; (try with_reducible rfl))
                  try simp only [Act.put, List.setIfInBounds_toArray, List.set_cons_zero, List.set_cons_succ]
                  refine wpAnyH_take (i := 10) (v := ?vy_10) rfl (by kernel_rfl) (by kernel_rfl) (by kernel_rfl) (fun _ _ _ h => h) (Or.inl ⟨by kernel_rfl, ?hy_10⟩) (by assumption) ?ry_10
                  case hy_10 => (intro w0 hSw; (try dsimp only at hSw); go_simp; (try with_reducible rfl))
                  try simp only [Act.put, List.setIfInBounds_toArray, List.set_cons_zero, List.set_cons_succ]
                  refine wpAnyH_take (i := 11) (v := ?vy_11) rfl (by kernel_rfl) (by kernel_rfl) (by kernel_rfl) (fun _ _ _ h => h) (Or.inl ⟨by kernel_rfl, ?hy_11⟩) (by assumption) ?ry_11
                  case hy_11 => (intro w0 hSw; (try dsimp only at hSw); go_simp; (try with_reducible rfl))
                  try simp only [Act.put, List.setIfInBounds_toArray, List.set_cons_zero, List.set_cons_succ]
                  refine wpAnyH_take (i := 12) (v := ?vy_12) rfl (by kernel_rfl) (by kernel_rfl) (by kernel_rfl) (fun _ _ _ h => h) (Or.inl ⟨by kernel_rfl, ?hy_12⟩) (by assumption) ?ry_12
                  case hy_12 => (intro w0 hSw; (try dsimp only at hSw); go_simp; (try with_reducible rfl))
                  try simp only [Act.put, List.setIfInBounds_toArray, List.set_cons_zero, List.set_cons_succ]
                  refine wpAnyH_take (i := 14) (v := ?vy_13) rfl (by kernel_rfl) (by kernel_rfl) (by kernel_rfl) (fun _ _ _ h => h) (Or.inl ⟨by kernel_rfl, ?hy_13⟩) (by assumption) ?ry_13
                  case hy_13 => (intro w0 hSw; (try dsimp only at hSw); go_simp; (try with_reducible rfl))
                  try simp only [Act.put, List.setIfInBounds_toArray, List.set_cons_zero, List.set_cons_succ]
                  refine wpAnyH_ready (rs := [13, 15]) (by kernel_rfl) (by simp) ?_
                  refine AllReadyH.cons rfl (fun K hK => ?ay_15) ?by_15
                  case ay_15 =>
                    go_simp
                    refine hK.out _ _ ?sy_15 (fun hHeld => ?ty_15)
                    case sy_15 => (first | assumption | exact c5 | exact c5a _ | exact c7 _)
                    case ty_15 =>
                      clear hK K
                      try simp only [Act.put, List.setIfInBounds_toArray, List.set_cons_zero, List.set_cons_succ]
                      refine wpAnyH_ready (rs := [15]) (by kernel_rfl) (by simp) ?_
                      refine AllReadyH.cons rfl (fun K hK => ?ay_16) ?by_16
                      case ay_16 =>
                        (go_simp; go_at_call 8; refine (HFF.out _).mono ?_; rintro e w6 ⟨rfl, rfl⟩; go_wp2_with fail)
                        refine hK.out _ _ ?sy_16 (fun hHeld => ?ty_16)
                        case sy_16 => (first | assumption | exact c5 | exact c5a _ | exact c7 _)
                        case ty_16 =>
                          clear hK K
                          try simp only [Act.put, List.setIfInBounds_toArray, List.set_cons_zero, List.set_cons_succ]
                          refine wpAnyH_ready (rs := [16]) (by kernel_rfl) (by simp) ?_
                          refine AllReadyH.cons rfl (fun K hK => ?ay_17) ?by_17
                          case ay_17 =>
                            go_simp
                            refine hK.out _ _ ?sy_17 (fun hHeld => ?ty_17)
                            case sy_17 => (first | assumption | exact c5 | exact c5a _ | exact c7 _)
                            case ty_17 =>
                              clear hK K
                              try simp only [Act.put, List.setIfInBounds_toArray, List.set_cons_zero, List.set_cons_succ]
                              refine wpAnyH_ready (rs := [17]) (by kernel_rfl) (by simp) ?_
                              refine AllReadyH.cons rfl (fun K hK => ?ay_18) ?by_18
                              case ay_18 =>
                                (refine step_append_lies _ rfl (.tmp 128) (.tmp 131) 31 rfl w.heap.size 9 i0 (.string ⟨#[]⟩) 1 16 Try.underlying31 hti hz0 hz1 hz2 rfl ?za (.slice va vn vc) (txsL E.wait q).length (strV (txsL E.wait q)) rfl (HO5.out.alloc _) ⟨w5.heap.size, 0, none⟩ 1 1 [.string TT] rfl rfl (World.news_of_block (heap_alloc_new _ _)) (one_str TT) Nat.zero_lt_one HN5.out.1 HN5.out.2.1 HN5.out.2.2 _ rfl ?_; (case za => decide); intro g5 c5' w6 hown6 hg6 hat6 hlt6; obtain ⟨c6, x6, f6, c7⟩ := H6.out w6 hg6; have HE6 := Lib.hid (And.intro hown6 (And.intro hg6 (And.intro hat6 hlt6))); clear hown6 hg6 hat6 hlt6)
                                refine hK.out _ _ ?sy_18 (fun hHeld => ?ty_18)
                                case sy_18 => (first | assumption | exact c5 | exact c5a _ | exact c7 _)
                                case ty_18 =>
                                  clear hK K
                                  try simp only [Act.put, List.setIfInBounds_toArray, List.set_cons_zero, List.set_cons_succ]
                                  refine wpAnyH_take (i := 18) (v := ?vy_18) rfl (by kernel_rfl) (by kernel_rfl) (by kernel_rfl) (fun _ _ _ h => h) (Or.inl ⟨by kernel_rfl, ?hy_18⟩) (by assumption) ?ry_18
                                  case hy_18 => (intro w0 hSw; (try dsimp only at hSw); go_simp; (try with_reducible rfl))
                                  try simp only [Act.put, List.setIfInBounds_toArray, List.set_cons_zero, List.set_cons_succ]
                                  refine wpAnyH_ready (rs := [19]) (by kernel_rfl) (by simp) ?_
                                  refine AllReadyH.cons rfl (fun K hK => ?ay_20) ?by_20
                                  case ay_20 =>
                                    go_simp
                                    refine hK.out _ _ ?sy_20 (fun hHeld => ?ty_20)
                                    case sy_20 => (first | assumption | exact c5 | exact c5a _ | exact c7 _)
                                    case ty_20 =>
                                      clear hK K
                                      try simp only [Act.put, List.setIfInBounds_toArray, List.set_cons_zero, List.set_cons_succ]
                                      refine wpAnyH_done (by kernel_rfl) ?_ _
                                      try dsimp only
                                      (refine NoPanic.normal ?_; go_wp2_with fail; go_roundw; (case rel => exact ⟨m + 1, wroteD E q t, V.set q _, by omega, by omega, by go_num, keeps_append HE3.out HTL.out HT5.out H5.out.1 H5.out.2.1 H5.out.2.2.1 H5.out.2.2.2.1 H5.out.2.2.2.2 hq4 HV.out hTT HE6.out.1 HE6.out.2.1 HE6.out.2.2.1 HE6.out.2.2.2 HNL.out, by show (E.wait ++ [_]).length = _; rw [List.length_append, HW2.out]; rfl⟩); (case measure => simp [intOf]; omega))
                                  case by_20 =>
                                    exact AllReadyH.nil
                              case by_18 =>
                                exact AllReadyH.nil
                          case by_17 =>
                            exact AllReadyH.nil
                      case by_16 =>
                        exact AllReadyH.nil
                  case by_15 =>
                    refine AllReadyH.cons rfl (fun K hK => ?ay_21) ?by_21
                    case ay_21 =>
                      (go_simp; go_at_call 8; refine (HFF.out _).mono ?_; rintro e w6 ⟨rfl, rfl⟩; go_wp2_with fail)
                      refine hK.out _ _ ?sy_21 (fun hHeld => ?ty_21)
                      case sy_21 => (first | assumption | exact c5 | exact c5a _ | exact c7 _)
                      case ty_21 =>
                        clear hK K
                        try simp only [Act.put, List.setIfInBounds_toArray, List.set_cons_zero, List.set_cons_succ]
                        refine wpAnyH_ready (rs := [13, 16]) (by kernel_rfl) (by simp) ?_
                        refine AllReadyH.cons rfl (fun K hK => ?ay_22) ?by_22
                        case ay_22 =>
                          go_simp
                          refine hK.out _ _ ?sy_22 (fun hHeld => ?ty_22)
                          case sy_22 => (first | assumption | exact c5 | exact c5a _ | exact c7 _)
                          case ty_22 =>
                            clear hK K
                            try simp only [Act.put, List.setIfInBounds_toArray, List.set_cons_zero, List.set_cons_succ]
                            refine wpAnyH_ready (rs := [16]) (by kernel_rfl) (by simp) ?_
                            refine AllReadyH.cons rfl (fun K hK => ?ay_23) ?by_23
                            case ay_23 =>
                              go_simp
                              refine hK.out _ _ ?sy_23 (fun hHeld => ?ty_23)
                              case sy_23 => (first | assumption | exact c5 | exact c5a _ | exact c7 _)
                              case ty_23 =>
                                clear hK K
                                try simp only [Act.put, List.setIfInBounds_toArray, List.set_cons_zero, List.set_cons_succ]
                                refine wpAnyH_ready (rs := [17]) (by kernel_rfl) (by simp) ?_
                                refine AllReadyH.cons rfl (fun K hK => ?ay_24) ?by_24
                                case ay_24 =>
                                  (refine step_append_lies _ rfl (.tmp 128) (.tmp 131) 31 rfl w.heap.size 9 i0 (.string ⟨#[]⟩) 1 16 Try.underlying31 hti hz0 hz1 hz2 rfl ?za (.slice va vn vc) (txsL E.wait q).length (strV (txsL E.wait q)) rfl (HO5.out.alloc _) ⟨w5.heap.size, 0, none⟩ 1 1 [.string TT] rfl rfl (World.news_of_block (heap_alloc_new _ _)) (one_str TT) Nat.zero_lt_one HN5.out.1 HN5.out.2.1 HN5.out.2.2 _ rfl ?_; (case za => decide); intro g5 c5' w6 hown6 hg6 hat6 hlt6; obtain ⟨c6, x6, f6, c7⟩ := H6.out w6 hg6; have HE6 := Lib.hid (And.intro hown6 (And.intro hg6 (And.intro hat6 hlt6))); clear hown6 hg6 hat6 hlt6)
                                  refine hK.out _ _ ?sy_24 (fun hHeld => ?ty_24)
                                  case sy_24 => (first | assumption | exact c5 | exact c5a _ | exact c7 _)
                                  case ty_24 =>
                                    clear hK K
                                    try simp only [Act.put, List.setIfInBounds_toArray, List.set_cons_zero, List.set_cons_succ]
                                    refine wpAnyH_take (i := 18) (v := ?vy_24) rfl (by kernel_rfl) (by kernel_rfl) (by kernel_rfl) (fun _ _ _ h => h) (Or.inl ⟨by kernel_rfl, ?hy_24⟩) (by assumption) ?ry_24
                                    case hy_24 => (intro w0 hSw; (try dsimp only at hSw); go_simp; (try with_reducible rfl))
                                    try simp only [Act.put, List.setIfInBounds_toArray, List.set_cons_zero, List.set_cons_succ]
                                    refine wpAnyH_ready (rs := [19]) (by kernel_rfl) (by simp) ?_
                                    refine AllReadyH.cons rfl (fun K hK => ?ay_26) ?by_26
                                    case ay_26 =>
                                      go_simp
                                      refine hK.out _ _ ?sy_26 (fun hHeld => ?ty_26)
                                      case sy_26 => (first | assumption | exact c5 | exact c5a _ | exact c7 _)
                                      case ty_26 =>
                                        clear hK K
                                        try simp only [Act.put, List.setIfInBounds_toArray, List.set_cons_zero, List.set_cons_succ]
                                        refine wpAnyH_done (by kernel_rfl) ?_ _
                                        try dsimp only
                                        (refine NoPanic.normal ?_; go_wp2_with fail; go_roundw; (case rel => exact ⟨m + 1, wroteD E q t, V.set q _, by omega, by omega, by go_num, keeps_append HE3.out HTL.out HT5.out H5.out.1 H5.out.2.1 H5.out.2.2.1 H5.out.2.2.2.1 H5.out.2.2.2.2 hq4 HV.out hTT HE6.out.1 HE6.out.2.1 HE6.out.2.2.1 HE6.out.2.2.2 HNL.out, by show (E.wait ++ [_]).length = _; rw [List.length_append, HW2.out]; rfl⟩); (case measure => simp [intOf]; omega))
                                    case by_26 =>
                                      exact AllReadyH.nil
                                case by_24 =>
                                  exact AllReadyH.nil
                            case by_23 =>
                              exact AllReadyH.nil
                        case by_22 =>
                          refine AllReadyH.cons rfl (fun K hK => ?ay_27) ?by_27
                          case ay_27 =>
                            go_simp
                            refine hK.out _ _ ?sy_27 (fun hHeld => ?ty_27)
                            case sy_27 => (first | assumption | exact c5 | exact c5a _ | exact c7 _)
                            case ty_27 =>
                              clear hK K
                              try simp only [Act.put, List.setIfInBounds_toArray, List.set_cons_zero, List.set_cons_succ]
                              refine wpAnyH_ready (rs := [13]) (by kernel_rfl) (by simp) ?_
                              refine AllReadyH.cons rfl (fun K hK => ?ay_28) ?by_28
                              case ay_28 =>
                                go_simp
                                refine hK.out _ _ ?sy_28 (fun hHeld => ?ty_28)
                                case sy_28 => (first | assumption | exact c5 | exact c5a _ | exact c7 _)
                                case ty_28 =>
                                  clear hK K
                                  try simp only [Act.put, List.setIfInBounds_toArray, List.set_cons_zero, List.set_cons_succ]
                                  refine wpAnyH_ready (rs := [17]) (by kernel_rfl) (by simp) ?_
                                  refine AllReadyH.cons rfl (fun K hK => ?ay_29) ?by_29
                                  case ay_29 =>
                                    (refine step_append_lies _ rfl (.tmp 128) (.tmp 131) 31 rfl w.heap.size 9 i0 (.string ⟨#[]⟩) 1 16 Try.underlying31 hti hz0 hz1 hz2 rfl ?za (.slice va vn vc) (txsL E.wait q).length (strV (txsL E.wait q)) rfl (HO5.out.alloc _) ⟨w5.heap.size, 0, none⟩ 1 1 [.string TT] rfl rfl (World.news_of_block (heap_alloc_new _ _)) (one_str TT) Nat.zero_lt_one HN5.out.1 HN5.out.2.1 HN5.out.2.2 _ rfl ?_; (case za => decide); intro g5 c5' w6 hown6 hg6 hat6 hlt6; obtain ⟨c6, x6, f6, c7⟩ := H6.out w6 hg6; have HE6 := Lib.hid (And.intro hown6 (And.intro hg6 (And.intro hat6 hlt6))); clear hown6 hg6 hat6 hlt6)
                                    refine hK.out _ _ ?sy_29 (fun hHeld => ?ty_29)
                                    case sy_29 => (first | assumption | exact c5 | exact c5a _ | exact c7 _)
                                    case ty_29 =>
                                      clear hK K
                                      try simp only [Act.put, List.setIfInBounds_toArray, List.set_cons_zero, List.set_cons_succ]
                                      refine wpAnyH_take (i := 18) (v := ?vy_29) rfl (by kernel_rfl) (by kernel_rfl) (by kernel_rfl) (fun _ _ _ h => h) (Or.inl ⟨by kernel_rfl, ?hy_29⟩) (by assumption) ?ry_29
                                      case hy_29 => (intro w0 hSw; (try dsimp only at hSw); go_simp; (try with_reducible rfl))
                                      try simp only [Act.put, List.setIfInBounds_toArray, List.set_cons_zero, List.set_cons_succ]
                                      refine wpAnyH_ready (rs := [19]) (by kernel_rfl) (by simp) ?_
                                      refine AllReadyH.cons rfl (fun K hK => ?ay_31) ?by_31
                                      case ay_31 =>
                                        go_simp
                                        refine hK.out _ _ ?sy_31 (fun hHeld => ?ty_31)
                                        case sy_31 => (first | assumption | exact c5 | exact c5a _ | exact c7 _)
                                        case ty_31 =>
                                          clear hK K
                                          try simp only [Act.put, List.setIfInBounds_toArray, List.set_cons_zero, List.set_cons_succ]
                                          refine wpAnyH_done (by kernel_rfl) ?_ _
                                          try dsimp only
                                          (refine NoPanic.normal ?_; go_wp2_with fail; go_roundw; (case rel => exact ⟨m + 1, wroteD E q t, V.set q _, by omega, by omega, by go_num, keeps_append HE3.out HTL.out HT5.out H5.out.1 H5.out.2.1 H5.out.2.2.1 H5.out.2.2.2.1 H5.out.2.2.2.2 hq4 HV.out hTT HE6.out.1 HE6.out.2.1 HE6.out.2.2.1 HE6.out.2.2.2 HNL.out, by show (E.wait ++ [_]).length = _; rw [List.length_append, HW2.out]; rfl⟩); (case measure => simp [intOf]; omega))
                                      case by_31 =>
                                        exact AllReadyH.nil
                                  case by_29 =>
                                    exact AllReadyH.nil
                              case by_28 =>
                                exact AllReadyH.nil
                          case by_27 =>
                            exact AllReadyH.nil
                    case by_21 =>
                      exact AllReadyH.nil
            · by_cases h1 : m < bn
              · have q1 : (m : Int) < (bn : Int) := by omega
                have q2 : ¬ (m : Int) < 10 := by omega
                go_wp2_with fail
                go_meet
                case rel => exact ⟨E, V, HE.out, by show _ ≤ _; rw [HW2.out]; exact hm10⟩
              · have q1 : ¬ (m : Int) < (bn : Int) := by omega
                go_wp2_with fail
                go_meet
                case rel => exact ⟨E, V, HE.out, by show _ ≤ _; rw [HW2.out]; exact hm10⟩
        case rest =>
          obtain ⟨E, V, HE, HW9⟩ := hcut
          have hEl : E.last.length = 4 := by rw [HE.out.last]; exact HS.out.2.1
          have hkb : BytesAt wc (.slice ka kn kc) ks := HK.out.below HE.out.bel (fun a c e g o e2 => by injection e with e1 _ _; exact hka g o (by rw [e1, e2]))
          have HCU := Lib.hid (cut_k ka kc kn ks HE.out.disk (by rw [hEl]; decide) hkb hkn (by have := HW9.out; omega) hka)
          have HEL := Lib.hid hEl
          clear hkb hEl
          go_wp2_with fail
          refine HCU.out.mono ?_
          rintro e w10 ⟨rfl, hd10, t10⟩
          obtain ⟨hb10, htb10, hxb10, hrow10⟩ := HE.out.disked t10
          have hn10 : w.heap.size ≤ w10.heap.size := hb10.size
          have HST := Lib.hid (start_k hd10)
          clear t10 HCU hd10
          go_wp2_with fail
          refine HST.out.mono ?_
          rintro e w11 ⟨rfl, hd11, t11⟩
          have hC11 : KC w w11 b LB (LB + 1) XB Tn E.wait { cutD E ks with on := true } V :=
            ⟨hd11, t11.bel hb10 hn10, t11.inX (by simp [xsB]) htb10, t11.inX (by simp [xsB]) hxb10, fun i v hv => own_turn (hrow10 i v hv) t11 (fun g hg q => q.2 (xsB_mem hv hg))⟩
          have hwt : Waits S.length E.wait := by
            obtain ⟨_, _, _, mm, _⟩ := HE.out.disk
            have := mm.waits
            rwa [HE.out.last] at this
          have hFl : ({ cutD E ks with on := true } : DiskS).last = cutL S E.wait ks ∧ ({ cutD E ks with on := true } : DiskS).wait = [] ∧ ({ cutD E ks with on := true } : DiskS).on = true := ⟨by show cutL E.last E.wait ks = _; rw [HE.out.last], rfl, rfl⟩
          generalize ({ cutD E ks with on := true } : DiskS) = F at hC11 hFl
          generalize E.wait = ws at hC11 hFl hwt
          have HC11 := Lib.hid hC11
          have HFL := Lib.hid hFl
          have HWT := Lib.hid hwt
          have HVL := Lib.hid HE.out.vl
          clear hC11 hFl hwt hb10 htb10 hxb10 hrow10 hn10 HST hd11 t11 HE HW9 HEL
          go_wp2_with fail
          go_loopw [17, 18, 19, 20, 21, 22] (fun iv _ _ _ _ _ wx => ∃ i : Nat, i ≤ 4 ∧ iv = .int .i64 i ∧ Hid (KC w wx b LB (LB + 1) XB Tn ws F V)) (fun iv _ _ _ _ _ _ => 4 - (intOf iv).toNat)
          case atStart => exact ⟨0, by decide, rfl, HC11.out⟩
          case round =>
            obtain ⟨i, hi4, rfl, HCI⟩ := hrel
            by_cases hlt4 : i < 4
            · have d4 : (i : Int) < 4 := by omega
              have d0 : (0 : Int) ≤ (i : Int) := by omega
              have HRD := Lib.hid (read_k i HCI.out.disk HFL.out.2.2 (by rw [HFL.out.1, cutL_length, HS.out.2.1]; exact hlt4) (by rw [HFL.out.2.1]; decide))
              go_wp2_with fail
              refine HRD.out.mono ?_
              rintro e w12 ⟨rfl, g12⟩
              have hrd : readL F.last F.wait i = (cutL S ws ks).getD i [] := by rw [HFL.out.1, HFL.out.2.1]; rfl
              rw [hrd]
              have hsl : ((cutL S ws ks).getD i []).length = 64 := (cutL_secs ws ks S rfl HS.out.1 HWT.out).at (by rw [cutL_length, HS.out.2.1]; exact hlt4)
              have hok : ∀ k, k < 64 → okB (str ((cutL S ws ks).getD i [])) (str (S.getD i [])) (txsL ws i) k = true := fun k hk => okB_all (n := 0) HS.out.1 HWT.out i k hk
              have hkk : ks = [] → cutL S ws ks = S := fun e => by rw [e, cutL_none]
              have HC12 := Lib.hid (HCI.out.grown g12)
              have hul : (S.getD i []).length = 64 := HS.out.1.at (by rw [HS.out.2.1]; exact hlt4)
              have htn : Tn[i]? = some (str (S.getD i [])) := HS.out.2.2 i hlt4
              have HKE : Hid (ks = [] → str ((cutL S ws ks).getD i []) = str (S.getD i [])) := fun e => by rw [hkk e]
              clear g12 HRD hrd hkk
              obtain ⟨s, hs⟩ : ∃ s, str ((cutL S ws ks).getD i []) = s := ⟨_, rfl⟩
              obtain ⟨u, hu⟩ : ∃ u, str (S.getD i []) = u := ⟨_, rfl⟩
              have hsz : s.size = 64 := by rw [← hs]; exact hsl
              have huz : u.size = 64 := by rw [← hu]; exact hul
              rw [hs] at hok HKE ⊢
              rw [hu] at hok HKE htn
              clear hs hu hsl hul
              have HOK := Lib.hid hok
              have e64 : ((s.size : Int) == 64) = true := by rw [hsz]; rfl
              have HSZ := Lib.hid (And.intro hsz huz)
              have htx : ∀ t ∈ txsL ws i, t.size = 64 := txsL_size HWT.out i
              have HTX := Lib.hid htx
              have HTN := Lib.hid htn
              clear hok hsz huz htx htn
              obtain ⟨v, hv⟩ : ∃ v, V[i]? = some v := ⟨_, List.getElem?_eq_getElem (by rw [HVL.out]; exact hlt4)⟩
              obtain ⟨va, vn, vc, rfl⟩ : ∃ a n c, v = .slice a n c := by rcases own_form (HC12.out.rows i v hv) with ⟨rfl, _⟩ | ⟨_, _, rfl⟩ <;> exact ⟨_, _, _, rfl⟩
              have hvn : vn = (txsL ws i).length := by
                rcases own_form (HC12.out.rows i _ hv) with ⟨e, h⟩ | ⟨_, _, e⟩
                · injection e with _ e2 _; omega
                · injection e
              have HV := Lib.hid hv
              have HVN := Lib.hid hvn
              clear hv hvn
              go_wp2_with fail
              go_loopw [20, 21, 22] (fun kv _ _ wx => ∃ k : Nat, k ≤ 64 ∧ kv = .int .i64 k ∧ Hid (KC w wx b LB (LB + 1) XB Tn ws F V)) (fun kv _ _ _ => 64 - (intOf kv).toNat)
              case atStart => exact ⟨0, by decide, rfl, HC12.out⟩
              case round =>
                obtain ⟨k, hk64, rfl, HCK⟩ := hrel
                have cT : wr.cell? ⟨LB + 1, i, none⟩ = some (.string u) := by
                  rw [cell_of HCK.out.tb, List.getElem?_toArray, strV, List.getElem?_map, HTN.out]; rfl
                by_cases hltk : k < 64
                · have dk : (k : Int) < 64 := by omega
                  have dk0 : (0 : Int) ≤ (k : Int) := by omega
                  have hks : k < s.size := by rw [HSZ.out.1]; exact hltk
                  have hku : k < u.size := by rw [HSZ.out.2]; exact hltk
                  have iks : (k : Int) < (s.size : Int) := by omega
                  have iku : (k : Int) < (u.size : Int) := by omega
                  go_upto_region 38 with (fail)
                  go_cut [21] (fun bv wx => ∃ B : Bool, bv = .bool B ∧ Hid (B = okB s u [] k) ∧ Hid (∃ q, wr.drewN q = wx))
                  case first =>
                    have hbe : okB s u [] k = (((s[k].toNat : Nat) : Int) == ((u[k].toNat : Nat) : Int)) := by unfold okB; rw [byte_eq s u k hks hku]; simp
                    cases hB : (((s[k].toNat : Nat) : Int) == ((u[k].toNat : Nat) : Int)) with
                    | true =>
                      rw [hB] at hbe
                      have HBE := Lib.hid hbe
                      clear hbe
                      go_region
                      all_goals
                        go_wp2_with fail
                        go_meet
                        case rel => exact ⟨true, by first | rfl | simp [*], HBE.out.symm, 1, rfl⟩
                    | false =>
                      rw [hB] at hbe
                      have HBE := Lib.hid hbe
                      clear hbe
                      go_region
                      all_goals
                        go_wp2_with fail
                        go_meet
                        case rel => exact ⟨false, by first | rfl | simp [*], HBE.out.symm, 1, rfl⟩
                  case rest =>
                    obtain ⟨B0, rfl, HB0, HQ⟩ := hcut
                    obtain ⟨nq, hnq⟩ := HQ.out
                    have HCW : Hid (KC w wc b LB (LB + 1) XB Tn ws F V) := HCK.out.grown (by rw [← hnq]; exact grownBy_drewN (World.grownBy.refl _ _) _)
                    clear HQ hnq cT
                    go_wp2_with fail
                    go_loopw [21, 22] (fun bv jv wx => ∃ (j : Nat) (B : Bool), j ≤ vn ∧ jv = .int .i64 j ∧ bv = .bool B ∧ Hid (B = okB s u ((txsL ws i).take j) k) ∧ Hid (KC w wx b LB (LB + 1) XB Tn ws F V)) (fun _ jv _ => vn - (intOf jv).toNat)
                    case atStart => exact ⟨0, B0, Nat.zero_le _, rfl, rfl, by show _ = _; rw [HB0.out, List.take_zero], HCW.out⟩
                    case round =>
                      obtain ⟨j, B, hjv, rfl, rfl, HBB, HCJ⟩ := hrel
                      by_cases hltj : j < vn
                      · have hjt : j < (txsL ws i).length := by have := HVN.out; omega
                        obtain ⟨t, htj⟩ : ∃ t, (txsL ws i)[j]? = some t := ⟨_, List.getElem?_eq_getElem hjt⟩
                        have hjs : (txsL ws i).take (j + 1) = (txsL ws i).take j ++ [t] := by rw [List.take_add_one, htj]; rfl
                        have HJS := Lib.hid hjs
                        have htz : t.size = 64 := HTX.out t (List.mem_of_getElem? htj)
                        have hrowj := HCJ.out.rows i _ HV.out
                        obtain ⟨g, rfl⟩ : ∃ g, va = some ⟨g, 0, none⟩ := by
                          rcases own_form hrowj with ⟨e, h⟩ | ⟨g, c, e⟩
                          · have := HVN.out; omega
                          · injection e with e1 _ _; exact ⟨g, e1⟩
                        have hrow2 : wr.ownsRow w.heap.size 9 1 (.slice (some ⟨g, 0, none⟩) (txsL ws i).length vc) (txsL ws i).length (strV (txsL ws i)) := by have h := hrowj; rw [HVN.out] at h; exact h
                        have cj : wr.cell? ⟨g, j, none⟩ = some (.string t) := by
                          rw [World.ownsRow.cellAt hrow2 j (by omega), strV, List.getElem?_map, htj]
                          rfl
                        have cX : wr.cell? ⟨XB, i, none⟩ = some (.slice (some ⟨g, 0, none⟩) vn vc) := by rw [cell_of HCJ.out.xb, List.getElem?_toArray]; exact HV.out
                        have dj : (j : Int) < (vn : Int) := by omega
                        have hj63 : (j : Int) < 9223372036854775807 := by
                          obtain ⟨_, _, _, _, h1, h2, _⟩ := own_block hrow2
                          unfold maxLen at h2
                          omega
                        have dj0 : (0 : Int) ≤ (j : Int) := by omega
                        have hkt : k < t.size := by rw [htz]; exact hltk
                        have ikt : (k : Int) < (t.size : Int) := by omega
                        have hbt : (s.data.toList[k]? == t.data.toList[k]?) = (((s[k].toNat : Nat) : Int) == ((t[k].toNat : Nat) : Int)) := byte_eq s t k hks hkt
                        have HBT := Lib.hid hbt
                        clear hjs htz hrowj hrow2 htj hbt
                        cases B with
                        | true =>
                          go_wp2_with fail
                          go_region
                          all_goals
                            go_wp2_with fail
                            go_roundw
                            case rel => exact ⟨j + 1, true, by omega, by go_num, rfl, by show _ = _; rw [HJS.out, okB_snoc, ← HBB.out]; rfl, HCJ.out.grown (grownBy_drew (World.grownBy.refl _ _))⟩
                            case measure => simp [intOf]; omega
                        | false =>
                          cases hB : (((s[k].toNat : Nat) : Int) == ((t[k].toNat : Nat) : Int)) with
                          | true =>
                            have HB2 := Lib.hid hB
                            go_wp2_with fail
                            go_region
                            all_goals
                              go_wp2_with fail
                              go_roundw
                              case rel => exact ⟨j + 1, true, by omega, by go_num, by first | rfl | simp [*], by show _ = _; rw [HJS.out, okB_snoc, ← HBB.out, HBT.out, HB2.out]; rfl, HCJ.out.grown (grownBy_drew (World.grownBy.refl _ _))⟩
                              case measure => simp [intOf]; omega
                          | false =>
                            have HB2 := Lib.hid hB
                            go_wp2_with fail
                            go_region
                            all_goals
                              go_wp2_with fail
                              go_roundw
                              case rel => exact ⟨j + 1, false, by omega, by go_num, by first | rfl | simp [*], by show _ = _; rw [HJS.out, okB_snoc, ← HBB.out, HBT.out, HB2.out]; rfl, HCJ.out.grown (grownBy_drew (World.grownBy.refl _ _))⟩
                              case measure => simp [intOf]; omega
                      · have hjm : (txsL ws i).take j = txsL ws i := List.take_of_length_le (by have := HVN.out; omega)
                        have hBt : B = true := by rw [HBB.out, hjm]; exact HOK.out k hltk
                        subst hBt
                        have cX : wr.cell? ⟨XB, i, none⟩ = some (.slice va vn vc) := by rw [cell_of HCJ.out.xb, List.getElem?_toArray]; exact HV.out
                        have dj : ¬ (j : Int) < (vn : Int) := by omega
                        clear hjm
                        go_wp2_with fail
                        go_roundw
                        case rel => exact ⟨k + 1, by omega, by go_num, HCJ.out⟩
                        case measure => simp [intOf]; omega
                · have dk : ¬ (k : Int) < 64 := by omega
                  by_cases hk0 : kn = 0
                  · have hsu : s = u := HKE.out (List.eq_nil_of_length_eq_zero (by rw [HKN.out]; exact hk0))
                    subst hk0
                    subst hsu
                    go_wp2_with fail
                    go_roundw
                    case rel => exact ⟨i + 1, by omega, by go_num, HCK.out⟩
                    case measure => simp [intOf]; omega
                  · have e0 : ((kn : Int) == 0) = false := by simp; omega
                    go_wp2_with fail
                    go_roundw
                    case rel => exact ⟨i + 1, by omega, by go_num, HCK.out⟩
                    case measure => simp [intOf]; omega
            · have d4 : ¬ (i : Int) < 4 := by omega
              go_wp2_with fail
              go_ret
              exact ⟨rfl, HCI.out.bel⟩
end Go.Proofs.Ytolddjihkabgpaa
