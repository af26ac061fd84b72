/- The walk of the law WotsSigns. -/
import Derived.Test.YteabmmockdjhaaaDoorWotsWalksLaw
import Derived.Test.YteabmmockdjhaaaDoorDigRef
import Derived.Test.YteabmmockdjhaaaDoorBytesEq
import Derived.Deep.RegionHeld3
namespace Go.Proofs.YteabmmockdjhaaaDoor
open Go.RowKit
attribute [local irreducible] shaL

set_option maxRecDepth 100000 in
set_option maxHeartbeats 4000000 in
theorem wotsSigns_walk (seed : ByteArray) (leafI : Int) (l : List UInt8) (hs : seed.size ≤ maxLen) (hleaf : 0 ≤ leafI ∧ leafI ≤ 255) (hl : l.length = 16) (w : World) (hr : ShaReady w) :
    Calls Tryd.prog 4 #[.string seed, .int .u8 leafI, .agg (bytesV l).toArray] w fun e w' => e = .returned (.bool true) ∧ Below w.heap.size w w' := by
  unfold maxLen at hs
  obtain ⟨leaf, rfl⟩ := Int.eq_ofNat_of_zero_le hleaf.1
  have hleaf2 : leaf ≤ 255 := by omega
  clear hleaf
  have HR := Lib.hid hr
  have HL := Lib.hid hl
  clear hr hl
  go_enter Tryd.func4, Tryd.ntmps4
  go_wp2_with fail
  have hR0 : ShaReady (w.alloc (.cells (bytesV l).toArray 31)) := HR.out.grown (World.grownBy_alloc _ _ _)
  have HSP := Lib.hid (wots_speaks _ hR0)
  have c0 : (w.alloc (.cells (bytesV l).toArray 31)).heap[w.heap.size]? = some (.cells (bytesV l).toArray 31 (0, 0)) := heap_alloc_at _ _ _ rfl
  have HC := Lib.hid c0
  have hG0 : w.grownBy (w.alloc (.cells (bytesV l).toArray 31)) none := World.grownBy_alloc _ _ _
  have G0 := Lib.hid hG0
  clear c0 hG0 hR0
  refine HSP.out.mono ?_
  rintro e w1 ⟨rfl, g1⟩
  have G1 := Lib.hid (grownBy_trans G0.out g1)
  have hb : w1.heap[w.heap.size]? = some (.cells (bytesV l).toArray 31 (0, 0)) := by
    rw [g1.block w.heap.size (by simp) (by simp)]
    exact HC.out
  have hsA := blk_str hb 16
  rw [HL.out] at hsA
  have hslA := slice_sixteen w.heap.size
  clear g1 hb HC HSP G0
  go_upto_region 3 with (fail)
  go_cut [0] (fun sv wx => sv = .string (cut20 seed) ∧ w1 = wx)
  case first =>
    by_cases q1 : seed.size ≤ 20
    · have z1 := cut20_le seed q1
      go_wp2
      all_goals
        go_meet
        case rel => exact ⟨by rw [z1], rfl⟩
    · have z1 := cut20_gt seed q1
      go_wp2
      all_goals
        go_meet
        case rel => exact ⟨by rw [z1], rfl⟩
  case rest =>
    obtain ⟨rfl, rfl⟩ := hcut
    have hss := cut20_size seed
    generalize cut20 seed = s at hss ⊢
    have hds : (str l).size = 16 := HL.out
    have HD := Lib.hid (show digs (str l).data.toList = digs l from rfl)
    have hdl : (digs l).length = 35 := by rw [digs_length, HL.out]
    have HDL := Lib.hid hdl
    have HDB := Lib.hid (digs_bd l HL.out)
    have hsig := wsign_any s (str l) leaf (by omega) hds (by omega) w1 (HR.out.grown G1.out)
    rw [HD.out] at hsig
    have HSG := Lib.hid hsig
    have HDS := Lib.hid hds
    clear hdl hsig hds
    generalize str l = d at hsA HDS HSG HD
    go_wp2_with fail
    refine HSG.out.mono ?_
    rintro e w2 ⟨v2, rfl, h2, g2⟩
    have G2 := Lib.hid (grownBy_trans G1.out g2)
    have HS2 := Lib.hid h2
    obtain ⟨a2, c2, rfl⟩ := h2.form
    rw [sigS_length] at HS2 ⊢
    clear h2 g2 HSG hsA hslA G1
    have hop := Lib.hid (wopen_any s (by omega) w2 (HR.out.grown G2.out))
    go_wp2_with fail
    refine hop.out.mono ?_
    rintro e w3 ⟨rfl, g3⟩
    have G3 := Lib.hid (grownBy_trans G2.out g3)
    have HS3 := Lib.hid (HS2.out.grown g3)
    clear g3 hop HS2 G2
    have hosz := openS_size s
    obtain ⟨o, hO⟩ : ∃ o, openS s = o := ⟨_, rfl⟩
    rw [hO] at hosz ⊢
    have HO := Lib.hid hO
    clear hO
    have hrd := refDig_any d (by rw [HDS.out]; omega) w3
    rw [HD.out] at hrd
    have HRD := Lib.hid hrd
    clear hrd
    go_wp2_with fail
    refine HRD.out.mono ?_
    rintro e w4 ⟨v4, rfl, h4, g4⟩
    obtain ⟨a4, c4, rfl⟩ := (show ∃ a cap, v4 = .slice a (digs l).length cap from let ⟨a, cap, h, _⟩ := h4; ⟨a, cap, h⟩)
    rw [HDL.out] at h4 ⊢
    have HI4 := Lib.hid h4
    have HS4 := Lib.hid (HS3.out.grown g4)
    have G4 := Lib.hid (grownBy_trans G3.out g4)
    clear h4 g4 HS3 G3 HRD
    obtain ⟨D, hDD⟩ : ∃ D, digs l = D := ⟨_, rfl⟩
    rw [hDD] at HI4 HS4 HDL HDB
    have HDD := Lib.hid hDD
    clear hDD
    go_wp2_with fail
    go_loopw [12, 13, 14] (fun iv _ _ wr => ∃ i : Nat, i ≤ 41 ∧ iv = .int .i64 i ∧ Hid (w4.grownBy wr none)) (fun iv _ _ _ => 42 - (intOf iv).toNat)
    case atStart => exact ⟨0, by omega, rfl, World.grownBy.refl _ _⟩
    case round =>
      obtain ⟨i, hi, rfl, HG⟩ := hrel
      by_cases hlt : i < 35
      · obtain ⟨x, hx⟩ : ∃ x, D[i]? = some x := ⟨_, List.getElem?_eq_getElem (by rw [HDL.out]; exact hlt)⟩
        have hxb := HDB.out x (List.mem_of_getElem? hx)
        have hxd : D.getD i 0 = x := by rw [List.getD_eq_getElem?_getD, hx]; rfl
        obtain ⟨gi, oi, rfl, hcx⟩ := HI4.out.at_' i x hx
        have hsi := sigS_at s leaf D 35 i hlt
        rw [hxd, HO.out] at hsi
        obtain ⟨xn, rfl⟩ := Int.eq_ofNat_of_zero_le hxb.1
        rw [show ((xn : Nat) : Int).toNat = xn from by omega] at hsi
        obtain ⟨gs, os, rfl, hcs⟩ := HS4.out.at_ i _ hsi
        have HCX := Lib.hid hcx
        have HCS := Lib.hid hcs
        have hxn : xn ≤ 15 := by omega
        clear hx hxb hxd hsi hcx hcs
        have b1 : (0 : Int) ≤ (i : Int) := by omega
        have b2 : (i : Int) < 35 := by omega
        have hsec := Lib.hid (refSecret_any wr s leaf i (by omega) (by omega) (by omega))
        go_wp2_with fail
        refine hsec.out.mono ?_
        rintro e w5 ⟨rfl, g5⟩
        have G5 := Lib.hid (grownBy_trans HG.out g5)
        clear g5 hsec HG
        have hsz := secretS_size s leaf i
        generalize secretS s leaf i = z at hsz HCS ⊢
        have HWS : Hid (∀ m : Nat, (walkS o leaf i 0 m z).size = 16) := fun m => walkS_16 o leaf i 0 m z hsz
        go_wp2_with fail
        go_loopw [13, 14] (fun yv kv wr => ∃ k : Nat, ∃ y : ByteArray, k ≤ 3 ∧ k ≤ xn ∧ kv = .int .i64 k ∧ yv = .string y ∧ Hid (y = walkS o leaf i 0 k z) ∧ Hid (w4.grownBy wr none)) (fun _ kv _ => 3 - (intOf kv).toNat)
        case atStart => exact ⟨0, z, by omega, by omega, rfl, rfl, rfl, G5.out⟩
        case round =>
          clear G5
          obtain ⟨k, y, hk3, hkx, rfl, rfl, HY, HG⟩ := hrel
          have c1 : wr.cell? ⟨gi, oi + i, none⟩ = some (.int .i64 xn) := HG.out.cell HCX.out (by simp)
          have hys : y.size = 16 := by rw [HY.out]; exact HWS.out k
          have HYS := Lib.hid hys
          clear hys
          by_cases hkl : k < xn ∧ k < 3
          · obtain ⟨t1, t2⟩ := hkl
            have t1' : decide (k < xn) = true := by simpa using t1
            have hst := Lib.hid (refStep_any wr o y leaf i k (by omega) (by omega) (by omega) (by omega) (by rw [HYS.out]; omega))
            go_wp2_with fail
            refine hst.out.mono ?_
            rintro e w6 ⟨rfl, g6⟩
            have G6 := Lib.hid (grownBy_trans HG.out g6)
            clear g6 hst
            go_wp2_with fail
            go_roundw
            case rel =>
              refine ⟨k + 1, _, by omega, by omega, by go_num, rfl, ?_, G6.out⟩
              show _ = _
              rw [walkS_succ, ← HY.out, Nat.zero_add]
            case measure => simp [intOf]; omega
          · have hmin : k = min xn 3 := by omega
            have c2 : wr.cell? ⟨gs, os + i, none⟩ = some (.string (walkS o leaf i 0 xn z)) := HG.out.cell HCS.out (by simp)
            have HE : Hid (walkZ o leaf i (min xn 3 : Nat) xn y = walkS o leaf i 0 xn z) := by
              show _ = _
              have e := walkS_add o leaf i 0 k (xn - k) z
              rw [Nat.zero_add] at e
              rw [← hmin, HY.out]
              unfold walkZ
              rw [show (max ((k : Nat) : Int) 0).toNat = k from by omega, show (min ((xn : Nat) : Int) 15 - max ((k : Nat) : Int) 0).toNat = xn - k from by omega, e, show k + (xn - k) = xn from by omega]
            have hwl : IntKind.i64.wrap (leaf : Int) = leaf := IntWalk.i64_in _ (by omega)
            by_cases hx3 : xn ≤ 3
            · have e3 : k = xn := by omega
              have hyy : y = walkS o leaf i 0 xn z := by rw [HY.out, e3]
              rw [← hyy] at c2 HE
              rw [show min xn 3 = xn from by omega] at HE
              have HW : Hid (∀ w0, ShaReady w0 → Calls Tryd.prog 8 #[.string o, .int .i64 leaf, .int .i64 i, .int .i64 xn, .int .i64 xn, .string y] w0 fun e w' => e = .returned (.string y) ∧ w0.grownBy w' none) := fun w0 h => by
                have := wwalk_any o y leaf i xn xn (by omega) (by rw [HYS.out]; omega) (by omega) (by omega) (by omega) (by omega) w0 h
                rw [HE.out] at this
                exact this
              subst e3
              clear hmin hkl hyy
              have u1 : decide (k < k) = false := by simp
              have u2 : (k : Int) ≤ 3 := by omega
              have u3 : ((3 : Int) < (k : Int)) = False := eq_false (by omega)
              have HGG := Lib.hid (grownBy_trans G4.out HG.out)
              go_wp2_with fail
              go_region_held3 (fun w' => w'.cell? ⟨gi, oi + i, none⟩ = some (.int .i64 k) ∧ w'.cell? ⟨gs, os + i, none⟩ = some (.string y)) (first | exact ck | exact ⟨c1, c2⟩)
                ((go_at_call 8; (with_reducible refine (HW.out _ (HR.out.grown (grownBy_drew HGG.out))).mono ?_); rintro e w6 ⟨rfl, g6⟩; have ck : w6.cell? ⟨gi, oi + i, none⟩ = some (.int .i64 k) ∧ w6.cell? ⟨gs, os + i, none⟩ = some (.string y) := ⟨g6.cell c1 (by simp), g6.cell c2 (by simp)⟩))
              have G6 := Lib.hid (grownBy_trans HG.out (undrew g6))
              clear g6 ck HGG
              go_wp2_with fail
              go_roundw
              case rel => exact ⟨i + 7, by omega, by go_num, G6.out⟩
              case measure => simp [intOf]; omega
            · have e3 : k = 3 := by omega
              rw [show min xn 3 = 3 from by omega] at HE
              have HW : Hid (∀ w0, ShaReady w0 → Calls Tryd.prog 8 #[.string o, .int .i64 leaf, .int .i64 i, .int .i64 3, .int .i64 xn, .string y] w0 fun e w' => e = .returned (.string (walkS o leaf i 0 xn z)) ∧ w0.grownBy w' none) := fun w0 h => by
                have := wwalk_any o y leaf i 3 xn (by omega) (by rw [HYS.out]; omega) (by omega) (by omega) (by omega) (by omega) w0 h
                rw [show walkZ o leaf i 3 xn y = walkS o leaf i 0 xn z from HE.out] at this
                exact this
              subst e3
              clear hmin hkl
              have u1 : decide (3 < xn) = true := by simp; omega
              have u2 : (3 : Int) < (xn : Int) := by omega
              have u3 : decide ((xn : Int) ≤ 3) = false := decide_eq_false (by omega)
              have HGG := Lib.hid (grownBy_trans G4.out HG.out)
              generalize walkS o leaf i 0 xn z = tt at c2 HW
              go_wp2_with fail
              refine wp_region_noPanic ?_
              refine wp_region_held_drew (S := fun w' => w'.cell? ⟨gi, oi + i, none⟩ = some (.int .i64 xn) ∧ w'.cell? ⟨gs, os + i, none⟩ = some (.string tt)) (by kernel_rfl) ?hsz (fun hHeld => ?rgz)
              case hsz => exact ⟨c1, c2⟩
              case rgz =>
                refine wpAnyH_take (i := 0) (v := ?vz_0) rfl (by kernel_rfl) (by kernel_rfl) (by kernel_rfl) (fun _ _ _ h => h) (Or.inl ⟨by kernel_rfl, ?hz_0⟩) (by assumption) ?rz_0
                case hz_0 => (intro w0 hSw; (try dsimp only at hSw); go_simp; (try with_reducible rfl))
                try simp only [Act.put, List.setIfInBounds_toArray, List.set_cons_zero, List.set_cons_succ]
                refine wpAnyH_take (i := 1) (v := ?vz_1) rfl (by kernel_rfl) (by kernel_rfl) (by kernel_rfl) (fun _ _ _ h => h) (Or.inl ⟨by kernel_rfl, ?hz_1⟩) (by assumption) ?rz_1
                case hz_1 => (intro w0 hSw; (try dsimp only at hSw); go_simp; (try with_reducible rfl))
                try simp only [Act.put, List.setIfInBounds_toArray, List.set_cons_zero, List.set_cons_succ]
                refine wpAnyH_take (i := 2) (v := ?vz_2) rfl (by kernel_rfl) (by kernel_rfl) (by kernel_rfl) (fun _ _ _ h => h) (Or.inl ⟨by kernel_rfl, ?hz_2⟩) (by assumption) ?rz_2
                case hz_2 => (intro w0 hSw; (try dsimp only at hSw); go_simp; (try with_reducible rfl))
                try simp only [Act.put, List.setIfInBounds_toArray, List.set_cons_zero, List.set_cons_succ]
                refine wpAnyH_take (i := 3) (v := ?vz_3) rfl (by kernel_rfl) (by kernel_rfl) (by kernel_rfl) (fun _ _ _ h => h) (Or.inl ⟨by kernel_rfl, ?hz_3⟩) (by assumption) ?rz_3
                case hz_3 => (intro w0 hSw; (try dsimp only at hSw); go_simp; (try with_reducible rfl))
                try simp only [Act.put, List.setIfInBounds_toArray, List.set_cons_zero, List.set_cons_succ]
                refine wpAnyH_take (i := 4) (v := ?vz_4) rfl (by kernel_rfl) (by kernel_rfl) (by kernel_rfl) (fun _ _ _ h => h) (Or.inl ⟨by kernel_rfl, ?hz_4⟩) (by assumption) ?rz_4
                case hz_4 => (intro w0 hSw; (try dsimp only at hSw); go_simp; (try with_reducible rfl))
                try simp only [Act.put, List.setIfInBounds_toArray, List.set_cons_zero, List.set_cons_succ]
                refine wpAnyH_take (i := 5) (v := ?vz_5) rfl (by kernel_rfl) (by kernel_rfl) (by kernel_rfl) (fun _ _ _ h => h) (Or.inl ⟨by kernel_rfl, ?hz_5⟩) (by assumption) ?rz_5
                case hz_5 => (intro w0 hSw; (try dsimp only at hSw); go_simp; (try with_reducible rfl))
                try simp only [Act.put, List.setIfInBounds_toArray, List.set_cons_zero, List.set_cons_succ]
                refine wpAnyH_take (i := 6) (v := undef) rfl (by kernel_rfl) (by kernel_rfl) (by kernel_rfl) (fun _ _ _ h => h) (Or.inr ⟨by kernel_rfl, rfl⟩) (by assumption) ?_
                try simp only [Act.put, List.setIfInBounds_toArray, List.set_cons_zero, List.set_cons_succ]
                refine wpAnyH_take (i := 7) (v := undef) rfl (by kernel_rfl) (by kernel_rfl) (by kernel_rfl) (fun _ _ _ h => h) (Or.inr ⟨by kernel_rfl, rfl⟩) (by assumption) ?_
                try simp only [Act.put, List.setIfInBounds_toArray, List.set_cons_zero, List.set_cons_succ]
                refine wpAnyH_take (i := 8) (v := undef) rfl (by kernel_rfl) (by kernel_rfl) (by kernel_rfl) (fun _ _ _ h => h) (Or.inr ⟨by kernel_rfl, rfl⟩) (by assumption) ?_
                try simp only [Act.put, List.setIfInBounds_toArray, List.set_cons_zero, List.set_cons_succ]
                refine wpAnyH_take (i := 9) (v := undef) rfl (by kernel_rfl) (by kernel_rfl) (by kernel_rfl) (fun _ _ _ h => h) (Or.inr ⟨by kernel_rfl, rfl⟩) (by assumption) ?_
                try simp only [Act.put, List.setIfInBounds_toArray, List.set_cons_zero, List.set_cons_succ]
                refine wpAnyH_take (i := 10) (v := undef) rfl (by kernel_rfl) (by kernel_rfl) (by kernel_rfl) (fun _ _ _ h => h) (Or.inr ⟨by kernel_rfl, rfl⟩) (by assumption) ?_
                try simp only [Act.put, List.setIfInBounds_toArray, List.set_cons_zero, List.set_cons_succ]
                refine wpAnyH_take (i := 11) (v := undef) rfl (by kernel_rfl) (by kernel_rfl) (by kernel_rfl) (fun _ _ _ h => h) (Or.inr ⟨by kernel_rfl, rfl⟩) (by assumption) ?_
                try simp only [Act.put, List.setIfInBounds_toArray, List.set_cons_zero, List.set_cons_succ]
                refine wpAnyH_take (i := 12) (v := ?vz_12) rfl (by kernel_rfl) (by kernel_rfl) (by kernel_rfl) (fun _ _ _ h => h) (Or.inl ⟨by kernel_rfl, ?hz_12⟩) (by assumption) ?rz_12
                case hz_12 => (intro w0 hSw; (try dsimp only at hSw); go_simp; (try with_reducible rfl))
                try simp only [Act.put, List.setIfInBounds_toArray, List.set_cons_zero, List.set_cons_succ]
                refine wpAnyH_take (i := 13) (v := ?vz_13) rfl (by kernel_rfl) (by kernel_rfl) (by kernel_rfl) (fun _ _ _ h => h) (Or.inl ⟨by kernel_rfl, ?hz_13⟩) (by assumption) ?rz_13
                case hz_13 => (intro w0 hSw; (try dsimp only at hSw); go_simp; (try with_reducible rfl))
                try simp only [Act.put, List.setIfInBounds_toArray, List.set_cons_zero, List.set_cons_succ]
                refine wpAnyH_take (i := 14) (v := ?vz_14) rfl (by kernel_rfl) (by kernel_rfl) (by kernel_rfl) (fun _ _ _ h => h) (Or.inl ⟨by kernel_rfl, ?hz_14⟩) (by assumption) ?rz_14
                case hz_14 => (intro w0 hSw; (try dsimp only at hSw); go_simp; (try with_reducible rfl))
                try simp only [Act.put, List.setIfInBounds_toArray, List.set_cons_zero, List.set_cons_succ]
                refine wpAnyH_take (i := 15) (v := ?vz_15) rfl (by kernel_rfl) (by kernel_rfl) (by kernel_rfl) (fun _ _ _ h => h) (Or.inl ⟨by kernel_rfl, ?hz_15⟩) (by assumption) ?rz_15
                case hz_15 => (intro w0 hSw; (try dsimp only at hSw); go_simp; (try with_reducible rfl))
                try simp only [Act.put, List.setIfInBounds_toArray, List.set_cons_zero, List.set_cons_succ]
                refine wpAnyH_take (i := 16) (v := ?vz_16) rfl (by kernel_rfl) (by kernel_rfl) (by kernel_rfl) (fun _ _ _ h => h) (Or.inl ⟨by kernel_rfl, ?hz_16⟩) (by assumption) ?rz_16
                case hz_16 => (intro w0 hSw; (try dsimp only at hSw); go_simp; (try with_reducible rfl))
                try simp only [Act.put, List.setIfInBounds_toArray, List.set_cons_zero, List.set_cons_succ]
                refine wpAnyH_take (i := 17) (v := ?vz_17) rfl (by kernel_rfl) (by kernel_rfl) (by kernel_rfl) (fun _ _ _ h => h) (Or.inl ⟨by kernel_rfl, ?hz_17⟩) (by assumption) ?rz_17
                case hz_17 => (intro w0 hSw; (try dsimp only at hSw); go_simp; (try with_reducible rfl))
                try simp only [Act.put, List.setIfInBounds_toArray, List.set_cons_zero, List.set_cons_succ]
                refine wpAnyH_take (i := 18) (v := ?vz_18) rfl (by kernel_rfl) (by kernel_rfl) (by kernel_rfl) (fun _ _ _ h => h) (Or.inl ⟨by kernel_rfl, ?hz_18⟩) (by assumption) ?rz_18
                case hz_18 => (intro w0 hSw; (try dsimp only at hSw); go_simp; (try with_reducible rfl))
                try simp only [Act.put, List.setIfInBounds_toArray, List.set_cons_zero, List.set_cons_succ]
                refine wpAnyH_take (i := 19) (v := ?vz_19) rfl (by kernel_rfl) (by kernel_rfl) (by kernel_rfl) (fun _ _ _ h => h) (Or.inl ⟨by kernel_rfl, ?hz_19⟩) (by assumption) ?rz_19
                case hz_19 => (intro w0 hSw; (try dsimp only at hSw); go_simp; (try with_reducible rfl))
                try simp only [Act.put, List.setIfInBounds_toArray, List.set_cons_zero, List.set_cons_succ]
                refine wpAnyH_take (i := 20) (v := ?vz_20) rfl (by kernel_rfl) (by kernel_rfl) (by kernel_rfl) (fun _ _ _ h => h) (Or.inl ⟨by kernel_rfl, ?hz_20⟩) (by assumption) ?rz_20
                case hz_20 => (intro w0 hSw; (try dsimp only at hSw); go_simp; (try with_reducible rfl))
                try simp only [Act.put, List.setIfInBounds_toArray, List.set_cons_zero, List.set_cons_succ]
                refine wpAnyH_take (i := 21) (v := ?vz_21) rfl (by kernel_rfl) (by kernel_rfl) (by kernel_rfl) (fun _ _ _ h => h) (Or.inl ⟨by kernel_rfl, ?hz_21⟩) (by assumption) ?rz_21
                case hz_21 => (intro w0 hSw; (try dsimp only at hSw); go_simp; (try with_reducible rfl))
                try simp only [Act.put, List.setIfInBounds_toArray, List.set_cons_zero, List.set_cons_succ]
                refine wpAnyH_take (i := 23) (v := ?vz_23) rfl (by kernel_rfl) (by kernel_rfl) (by kernel_rfl) (fun _ _ _ h => h) (Or.inl ⟨by kernel_rfl, ?hz_23⟩) (by assumption) ?rz_23
                case hz_23 => (intro w0 hSw; (try dsimp only at hSw); go_simp; (try with_reducible rfl))
                try simp only [Act.put, List.setIfInBounds_toArray, List.set_cons_zero, List.set_cons_succ]
                refine wpAnyH_take (i := 24) (v := ?vz_24) rfl (by kernel_rfl) (by kernel_rfl) (by kernel_rfl) (fun _ _ _ h => h) (Or.inl ⟨by kernel_rfl, ?hz_24⟩) (by assumption) ?rz_24
                case hz_24 => (intro w0 hSw; (try dsimp only at hSw); go_simp; (try with_reducible rfl))
                try simp only [Act.put, List.setIfInBounds_toArray, List.set_cons_zero, List.set_cons_succ]
                refine wpAnyH_take (i := 25) (v := ?vz_25) rfl (by kernel_rfl) (by kernel_rfl) (by kernel_rfl) (fun _ _ _ h => h) (Or.inl ⟨by kernel_rfl, ?hz_25⟩) (by assumption) ?rz_25
                case hz_25 => (intro w0 hSw; (try dsimp only at hSw); go_simp; (try with_reducible rfl))
                try simp only [Act.put, List.setIfInBounds_toArray, List.set_cons_zero, List.set_cons_succ]
                refine wpAnyH_take (i := 26) (v := ?vz_26) rfl (by kernel_rfl) (by kernel_rfl) (by kernel_rfl) (fun _ _ _ h => h) (Or.inl ⟨by kernel_rfl, ?hz_26⟩) (by assumption) ?rz_26
                case hz_26 => (intro w0 hSw; (try dsimp only at hSw); go_simp; (try with_reducible rfl))
                try simp only [Act.put, List.setIfInBounds_toArray, List.set_cons_zero, List.set_cons_succ]
                refine wpAnyH_take (i := 27) (v := ?vz_27) rfl (by kernel_rfl) (by kernel_rfl) (by kernel_rfl) (fun _ _ _ h => h) (Or.inl ⟨by kernel_rfl, ?hz_27⟩) (by assumption) ?rz_27
                case hz_27 => (intro w0 hSw; (try dsimp only at hSw); go_simp; (try with_reducible rfl))
                try simp only [Act.put, List.setIfInBounds_toArray, List.set_cons_zero, List.set_cons_succ]
                refine wpAnyH_take (i := 29) (v := ?vz_29) rfl (by kernel_rfl) (by kernel_rfl) (by kernel_rfl) (fun _ _ _ h => h) (Or.inl ⟨by kernel_rfl, ?hz_29⟩) (by assumption) ?rz_29
                case hz_29 => (intro w0 hSw; (try dsimp only at hSw); go_simp; (try with_reducible rfl))
                try simp only [Act.put, List.setIfInBounds_toArray, List.set_cons_zero, List.set_cons_succ]
                refine wpAnyH_take (i := 30) (v := ?vz_30) rfl (by kernel_rfl) (by kernel_rfl) (by kernel_rfl) (fun _ _ _ h => h) (Or.inl ⟨by kernel_rfl, ?hz_30⟩) (by assumption) ?rz_30
                case hz_30 => (intro w0 hSw; (try dsimp only at hSw); go_simp; (try with_reducible rfl))
                try simp only [Act.put, List.setIfInBounds_toArray, List.set_cons_zero, List.set_cons_succ]
                refine wpAnyH_take (i := 31) (v := ?vz_31) rfl (by kernel_rfl) (by kernel_rfl) (by kernel_rfl) (fun _ _ _ h => h) (Or.inl ⟨by kernel_rfl, ?hz_31⟩) (by assumption) ?rz_31
                case hz_31 => (intro w0 hSw; (try dsimp only at hSw); go_simp; (try with_reducible rfl))
                try simp only [Act.put, List.setIfInBounds_toArray, List.set_cons_zero, List.set_cons_succ]
                refine wpAnyH_take (i := 32) (v := ?vz_32) rfl (by kernel_rfl) (by kernel_rfl) (by kernel_rfl) (fun _ _ _ h => h) (Or.inl ⟨by kernel_rfl, ?hz_32⟩) (by assumption) ?rz_32
                case hz_32 => (intro w0 hSw; (try dsimp only at hSw); go_simp; (try with_reducible rfl))
                try simp only [Act.put, List.setIfInBounds_toArray, List.set_cons_zero, List.set_cons_succ]
                refine wpAnyH_ready (rs := [22]) (by kernel_rfl) (by simp) ?_
                refine AllReadyH.cons rfl (fun K hK => ?_) AllReadyH.nil
                go_simp
                refine hK.out _ _ (by assumption) (fun hHeld2 => ?_)
                clear hK K hHeld2
                try simp only [Act.put, List.setIfInBounds_toArray, List.set_cons_zero, List.set_cons_succ]
                refine wpAnyH_ready (rs := [28]) (by kernel_rfl) (by simp) ?_
                refine AllReadyH.cons rfl (fun K hK => ?_) AllReadyH.nil
                go_simp
                (go_at_call 8; (with_reducible refine (HW.out _ (HR.out.grown (grownBy_drew HGG.out))).mono ?_); rintro e w6 ⟨rfl, g6⟩; have ck : w6.cell? ⟨gi, oi + i, none⟩ = some (.int .i64 xn) ∧ w6.cell? ⟨gs, os + i, none⟩ = some (.string tt) := ⟨g6.cell c1 (by simp), g6.cell c2 (by simp)⟩)
                go_wp2_with fail
                refine hK.out _ _ ck (fun hHeld2 => ?_)
                clear hK K hHeld
                try simp only [Act.put, List.setIfInBounds_toArray, List.set_cons_zero, List.set_cons_succ]
                refine wpAnyH_take (i := 33) (v := ?vz_33) rfl (by kernel_rfl) (by kernel_rfl) (by kernel_rfl) (fun _ _ _ h => h) (Or.inl ⟨by kernel_rfl, ?hz_33⟩) (by assumption) ?rz_33
                case hz_33 => (intro w0 hSw; (try dsimp only at hSw); go_simp; (try with_reducible rfl))
                try simp only [Act.put, List.setIfInBounds_toArray, List.set_cons_zero, List.set_cons_succ]
                refine wpAnyH_take (i := 34) (v := ?vz_34) rfl (by kernel_rfl) (by kernel_rfl) (by kernel_rfl) (fun _ _ _ h => h) (Or.inl ⟨by kernel_rfl, ?hz_34⟩) (by assumption) ?rz_34
                case hz_34 => (intro w0 hSw; (try dsimp only at hSw); go_simp; (try with_reducible rfl))
                try simp only [Act.put, List.setIfInBounds_toArray, List.set_cons_zero, List.set_cons_succ]
                refine wpAnyH_done (by kernel_rfl) ?_ _
                refine NoPanic.normal ?_
                have G6 := Lib.hid (grownBy_trans HG.out (undrew g6))
                clear g6 ck HGG
                go_wp2_with fail
                go_roundw
                case rel => exact ⟨i + 7, by omega, by go_num, G6.out⟩
                case measure => simp [intOf]; omega
      · have HSr := Lib.hid (HS4.out.grown HG.out)
        have hGr := grownBy_trans G4.out HG.out
        have hrec := wrecover_any o d leaf _ (sigS s leaf D 35) (by omega) HDS.out (by omega) (sigS_length _ _ _ _) (sigS_all _ _ _ _) wr HSr.out (HR.out.grown hGr)
        have hpub0 := rec_public s leaf l HL.out
        rw [HO.out, HDD.out] at hpub0
        rw [HD.out, HDD.out, hpub0] at hrec
        have HREC := Lib.hid hrec
        have GR := Lib.hid hGr
        clear hrec hpub0 hGr HG HSr
        have hps := public_size s leaf
        go_wp2_with fail
        refine HREC.out.mono ?_
        rintro e w6 ⟨rfl, g6⟩
        have G6 := Lib.hid (grownBy_trans GR.out g6)
        clear g6 HREC GR
        have hpub := Lib.hid (wpublic_any s leaf (by omega) (by omega) w6 (HR.out.grown G6.out))
        generalize publicS s leaf = P at hps hpub ⊢
        go_wp2_with fail
        refine hpub.out.mono ?_
        rintro e w7 ⟨rfl, g7⟩
        have G7 := Lib.hid (grownBy_trans G6.out g7)
        clear g7 hpub
        go_wp2_with fail
        go_ret
        exact ⟨rfl, below_grownBy G7.out⟩
end Go.Proofs.YteabmmockdjhaaaDoor
