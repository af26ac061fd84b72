/- The walk of the law ProofBands. -/
import Derived.Test.YtheabbknflmnfaaDoorPrfY
namespace Go.Proofs.YtheabbknflmnfaaDoor
open Go.RowKit Go.Maps
attribute [local irreducible] shaL

theorem way_deep (M : List PairS) (key : ByteArray) (d : Nat) (hd : d ≤ 128) (h : d ≤ (wayT M key 0).length) : wayT M key d = (wayT M key 0).drop d ∧ restT M key d = restT M key 0 := by
  have h1 : wayT M key d = (wayT M key 0).drop d := by
    have := way_drop M key d 128 0 h
    rw [Nat.zero_add] at this
    exact this
  refine ⟨h1, ?_⟩
  have e1 := rest_eq M key d hd
  have e2 := rest_eq M key 0 (Nat.zero_le _)
  rw [h1, List.length_drop] at e1
  rw [e1, e2]
  congr 1
  omega
theorem puts_grown {w w' : World} {x : Option Addr} {n c : Nat} {L : List PutS} (h : PutsAt w (.slice x n c) L) (g : w.grownBy w' none) : PutsAt w' (.slice x n c) L := by
  obtain ⟨a', cap', e, hc⟩ := h
  refine ⟨a', cap', e, fun i hi => ?_⟩
  obtain ⟨g', o, e2, h1, h2, h3⟩ := hc i hi
  exact ⟨g', o, e2, g.cell h1 (by simp), g.cell h2 (by simp), g.cell h3 (by simp)⟩
set_option maxRecDepth 100000 in
set_option maxHeartbeats 8000000 in
theorem proofBands_walk (L : List PutS) (x : Option Addr) (n c : Nat) (a b z : UInt8) (w : World) (hr : ShaReady w) (hv : PutsAt w (.slice x n c) L) (hsz : ∀ p ∈ L, p.2.2.size ≤ maxLen) (hn : n ≤ maxLen) :
    Calls Tryd.prog 7 #[.slice x n c, .agg #[.int .u8 a.toNat, .int .u8 b.toNat], .int .u8 z.toNat] w fun e w' => e = .returned (.bool true) ∧ Below w.heap.size w w' := by
  have hb0 := heap_alloc_at w (.cells #[.int .u8 a.toNat, .int .u8 b.toNat] 30) _ rfl
  have hg0 : w.grownBy (w.alloc (.cells #[.int .u8 a.toNat, .int .u8 b.toNat] 30)) none := World.grownBy_alloc _ _ _
  have HSP := Lib.hid (prf_speaks _ (hr.grown hg0))
  have HV := Lib.hid (And.intro (puts_grown hv hg0) (And.intro hsz hn))
  have HR := Lib.hid hr
  have HKEY := Lib.hid (fun (w' : World) => key14_any a b w')
  have hks := keyS14_size a b
  generalize keyS14 a b = K at HKEY hks
  have HKS := Lib.hid hks
  clear hr hv hsz hn hks
  go_enter Tryd.func7, Tryd.ntmps7
  go_wp2_with fail
  refine HSP.out.mono ?_
  rintro e w1 ⟨rfl, g1⟩
  have HB := Lib.hid (both_any w1 x n c L (puts_grown HV.out.1 g1) HV.out.2.1 HV.out.2.2)
  have hb1 := g1.heap hb0 (by simp)
  have hg1 := grownBy_trans hg0 g1
  obtain ⟨BX, hBX⟩ : ∃ BX, w.heap.size = BX := ⟨_, rfl⟩
  rw [hBX] at hb1 ⊢
  have H1 := Lib.hid (And.intro hg1 hb1)
  clear hb0 hg0 g1 hb1 hg1 hBX HSP HV
  go_wp2_with fail
  refine HB.out.mono ?_
  rintro e w2 ⟨mv, tb, rfl, hPA, hT, g2⟩
  have hok := bothM_ok (L.take 12) (List.length_take_le 12 L)
  generalize bothM (L.take 12) = M at hPA hT hok
  have hP := plain_of hok.1 hok.2
  obtain ⟨ma, mc, rfl, hmc, hmm, hcells⟩ := hPA
  have hvs : ∀ y ∈ M, y.2.size ≤ 1000 := fun y hy => by have := (hok.1 y hy).2; omega
  have hc2 := g2.heap H1.out.2 (by simp)
  have ca : w2.cell? ⟨BX, 0, none⟩ = some (.int .u8 a.toNat) := by rw [cell_of hc2]; rfl
  have cb : w2.cell? ⟨BX, 1, none⟩ = some (.int .u8 b.toNat) := by rw [cell_of hc2]; rfl
  obtain ⟨N0, hN0⟩ : ∃ N0, w1.heap.size = N0 := ⟨_, rfl⟩
  rw [hN0] at hT
  have HG2 := Lib.hid (grownBy_trans H1.out.1 g2)
  have HT := Lib.hid hT
  have HP := Lib.hid (And.intro hP hvs)
  clear hcells hmm hT hP hvs g2 HB hc2 hN0 hok
  go_wp2_with fail
  refine (HKEY.out _).mono ?_
  rintro e w3 ⟨rfl, g3⟩
  have G3 := Lib.hid (And.intro (grownBy_trans HG2.out g3) g3)
  have HPR := Lib.hid (fun (k : Nat) (hk : k ≤ 128) (w' : World) (q : w3.grownBy w' none) => prove_own N0 _ w' tb M K k (HT.out.grown (grownBy_trans g3 q)) HP.out.1 HP.out.2 HKS.out hk (HR.out.grown (grownBy_trans G3.out.1 q)))
  have HNO : Hid (∀ (k : Nat), k ≤ 128 → ∀ w' : World, w3.grownBy w' none → Calls Tryd.prog 29 #[.pointer (some ⟨tb, 0, none⟩), .string K, .int .i64 k] w' fun e w'' => e = .returned (.string (nodeAt M K k)) ∧ w'.grownBy w'' none) := by
    intro k hk w' q
    have h := tnode_any N0 _ w' tb M K (k : Int) (HT.out.grown (grownBy_trans g3 q)) HP.out.1 (by rw [HKS.out]; unfold maxLen; omega) (HR.out.grown (grownBy_trans G3.out.1 q))
    rw [capD_at k hk] at h
    exact h
  have HGE := Lib.hid (fun (w' : World) (q : w3.grownBy w' none) => tget_any N0 _ w' tb M K (HT.out.grown (grownBy_trans g3 q)) (by rw [HKS.out]; unfold maxLen; omega))
  obtain ⟨d, hd⟩ : ∃ d, z.toNat % 5 = d := ⟨_, rfl⟩
  have hd4 : d ≤ 128 := by omega
  have hz8 := z.toNat_lt
  have hw1 : IntKind.i64.wrap (z.toNat : Int) = (z.toNat : Int) := IntWalk.i64_in _ (by omega)
  have hrem : Int.tmod (z.toNat : Int) 5 = (d : Int) := by rw [Int.tmod_eq_emod_of_nonneg (by omega)]; omega
  have hrem2 : (z.toNat : Int) % 5 = (d : Int) := by omega
  have HD := Lib.hid hd4
  clear g3 ca cb HT
  go_wp2_with fail
  refine (HPR.out 0 (Nat.zero_le _) w3 (World.grownBy.refl _ _)).mono ?_
  rintro e w4 ⟨b4, rfl, ho4, g4⟩
  obtain ⟨a4, q4, rfl⟩ := ho4.form
  obtain ⟨t0, ht0⟩ : ∃ t, decide (restT M K 0 ≠ []) = t := ⟨_, rfl⟩
  obtain ⟨k0, hk0⟩ : ∃ k, keyOf (restT M K 0) = k := ⟨_, rfl⟩
  obtain ⟨y0, hy0⟩ : ∃ y, valOf (restT M K 0) = y := ⟨_, rfl⟩
  obtain ⟨lp, hlp⟩ : ∃ l, (wayT M K 0).length = l := ⟨_, rfl⟩
  rw [ht0, hk0, hy0, hlp]
  rw [hlp] at ho4
  have HP0 := Lib.hid (And.intro ht0 (And.intro hk0 (And.intro hy0 hlp)))
  have hp5 := ProofIn.new w4 (.slice a4 lp q4) t0 k0 y0
  have hg5 : w4.grownBy (w4.alloc (.cells #[.slice a4 lp q4, .bool t0, .string k0, .string y0] 51)) none := World.grownBy_alloc _ _ _
  clear ht0 hk0 hy0 hlp
  go_wp2_with fail
  obtain ⟨W5, hW5⟩ : ∃ W5, w4.alloc (.cells #[.slice a4 lp q4, .bool t0, .string k0, .string y0] 51) = W5 := ⟨_, rfl⟩
  rw [hW5] at hp5 hg5 ⊢
  obtain ⟨P, hP⟩ : ∃ P, w4.heap.size = P := ⟨_, rfl⟩
  rw [hP] at hp5 ⊢
  have H5 := Lib.hid (And.intro hp5 (And.intro (ho4.grown hg5) (grownBy_trans g4 hg5)))
  clear hp5 hg5 hW5 hP ho4 g4
  refine (HPR.out d HD.out W5 H5.out.2.2).mono ?_
  rintro e w6 ⟨b6, rfl, ho6, g6⟩
  obtain ⟨a6, q6, rfl⟩ := ho6.form
  obtain ⟨t1, ht1⟩ : ∃ t, decide (restT M K d ≠ []) = t := ⟨_, rfl⟩
  obtain ⟨k1, hk1⟩ : ∃ k, keyOf (restT M K d) = k := ⟨_, rfl⟩
  obtain ⟨y1, hy1⟩ : ∃ y, valOf (restT M K d) = y := ⟨_, rfl⟩
  obtain ⟨lq, hlq⟩ : ∃ l, (wayT M K d).length = l := ⟨_, rfl⟩
  rw [ht1, hk1, hy1, hlq]
  rw [hlq] at ho6
  have HP1 := Lib.hid (And.intro ht1 (And.intro hk1 (And.intro hy1 hlq)))
  have hp7 := ProofIn.new w6 (.slice a6 lq q6) t1 k1 y1
  have hg7 : w6.grownBy (w6.alloc (.cells #[.slice a6 lq q6, .bool t1, .string k1, .string y1] 51)) none := World.grownBy_alloc _ _ _
  have hlp128 : lp ≤ 128 := by have := wayT_len M K 0 (Nat.zero_le _); have := HP0.out.2.2.2; omega
  have hlq128 : lq ≤ 128 := by have := wayT_len M K d HD.out; omega
  have x0 := (H5.out.1.grown (grownBy_trans g6 hg7)).cells
  have x1 := hp7.cells
  obtain ⟨W, hW⟩ : ∃ W, w6.alloc (.cells #[.slice a6 lq q6, .bool t1, .string k1, .string y1] 51) = W := ⟨_, rfl⟩
  rw [hW] at hp7 hg7 x0 x1
  have H7 := Lib.hid (And.intro (H5.out.2.1.grown (grownBy_trans g6 hg7)) (And.intro (ho6.grown hg7) (grownBy_trans H5.out.2.2 (grownBy_trans g6 hg7))))
  obtain ⟨x00, x01, x02, x03⟩ := x0
  obtain ⟨x10, x11, x12, x13⟩ := x1
  have HW := Lib.hid hW
  clear ht1 hk1 hy1 hlq hp7 hg7 g6 ho6 H5 HPR hW
  have s1 : IntKind.i64.wrap ((lp : Int) - (d : Int)) = (lp : Int) - (d : Int) := IntWalk.i64_in _ (by omega)
  have HHAS : Hid (∀ w' : World, OwnP w' (.slice a6 lq q6) M K d → Calls Tryd.prog 31 #[.agg #[.slice a6 lq q6, .bool t1, .string k1, .string y1], .string (nodeAt M K d), .string K, .string (valM M K), .int .i64 d] w' fun e w'' => e = .returned (.bool (hasM M K)) ∧ w'.grownBy w'' none) := by
    intro w' h
    have h1 := h.has (valM M K)
    rw [HP1.out.1, HP1.out.2.1, HP1.out.2.2.1, decide_eq_true rfl, Bool.and_true] at h1
    exact h1
  have HLAC : Hid (∀ w' : World, OwnP w' (.slice a6 lq q6) M K d → Calls Tryd.prog 32 #[.agg #[.slice a6 lq q6, .bool t1, .string k1, .string y1], .string (nodeAt M K d), .string K, .int .i64 d] w' fun e w'' => e = .returned (.bool (!hasM M K)) ∧ w'.grownBy w'' none) := by
    intro w' h
    have h1 := h.lacks
    rw [HP1.out.1, HP1.out.2.1, HP1.out.2.2.1] at h1
    exact h1
  have HPR9 := Lib.hid True.intro
  by_cases hlt : d ≤ lp
  · have hdeep := way_deep M K d HD.out (by rw [HP0.out.2.2.2]; exact hlt)
    have s2 : (lp : Int) ≥ (d : Int) := by omega
    have et : t1 = t0 := by rw [← HP1.out.1, ← HP0.out.1, hdeep.2]
    have ek : k1 = k0 := by rw [← HP1.out.2.1, ← HP0.out.2.1, hdeep.2]
    have ey : y1 = y0 := by rw [← HP1.out.2.2.1, ← HP0.out.2.2.1, hdeep.2]
    have el : lq = lp - d := by rw [← HP1.out.2.2.2, ← HP0.out.2.2.2, hdeep.1, List.length_drop]
    have HDEEP := Lib.hid hdeep.1
    have HEL := Lib.hid el
    subst et ek ey
    have hmax : max ((lp : Int) - (d : Int)) 0 = (lq : Int) := by omega
    clear hdeep el
    go_wp2_with (rw [HW.out])
    go_loopw [16] (fun iv wr => ∃ i : Nat, i ≤ lq ∧ iv = .int .i64 i ∧ Hid (W.grownBy wr none)) (fun iv _ => lq - (intOf iv).toNat)
    case atStart => exact ⟨0, Nat.zero_le _, rfl, World.grownBy.refl _ _⟩
    case round =>
      obtain ⟨i, hi, rfl, HG⟩ := hrel
      have x00 := HG.out.cell x00 (by simp)
      have x10 := HG.out.cell x10 (by simp)
      by_cases hil : i < lq
      · obtain ⟨s, hs⟩ : ∃ s, (wayT M K d)[i]? = some s := ⟨_, List.getElem?_eq_getElem (by have := HP1.out.2.2.2; omega)⟩
        have hs2 : (wayT M K 0)[i + d]? = some s := by rw [HDEEP.out, List.getElem?_drop, Nat.add_comm] at hs; exact hs
        obtain ⟨g1, o1, rfl, hc1⟩ := (strs_grown H7.out.2.1.strs HG.out).at_ i s hs
        obtain ⟨g2, o2, rfl, hc2⟩ := (strs_grown H7.out.1.strs HG.out).at_ (i + d) s hs2
        have e0 : (0 : Int) ≤ (i : Int) := by omega
        have e1 : (i : Int) < (lq : Int) := by omega
        have e2 : (0 : Int) ≤ (i : Int) + (d : Int) := by omega
        have e3 : (i : Int) + (d : Int) < (lp : Int) := by have := HEL.out; omega
        have e4 : IntKind.i64.wrap ((i : Int) + (d : Int)) = (i : Int) + (d : Int) := IntWalk.i64_in _ (by omega)
        have e5 : ((i : Int) + (d : Int)).toNat = i + d := by omega
        clear hs hs2
        go_wp2_with fail
        go_region
        all_goals
          go_wp2_with fail
          go_roundw
          case rel => exact ⟨i + 1, by omega, by go_num, Lib.hid (grownBy_drew HG.out)⟩
          case measure => simp [intOf]; omega
      · have e1 : ¬ (i : Int) < (lq : Int) := by omega
        have HWR : Hid (w3.grownBy wr none ∧ OwnP wr (.slice a6 lq q6) M K d ∧ wr.cell? ⟨w6.heap.size, 0, none⟩ = some (.slice a6 lq q6) ∧ wr.cell? ⟨w6.heap.size, 1, none⟩ = some (.bool t1) ∧ wr.cell? ⟨w6.heap.size, 2, none⟩ = some (.string k1) ∧ wr.cell? ⟨w6.heap.size, 3, none⟩ = some (.string y1)) := ⟨grownBy_trans H7.out.2.2 HG.out, H7.out.2.1.grown HG.out, x10, HG.out.cell x11 (by simp), HG.out.cell x12 (by simp), HG.out.cell x13 (by simp)⟩
        clear x00 x10 x01 x02 x03 x11 x12 x13
        go_wp2_with fail
        refine (HGE.out wr HWR.out.1).mono ?_
        rintro e wg ⟨rfl, rfl⟩
        have HS : Hid (∀ w', wr.grownBy w' none → wr.grownBy w' none ∧ (w'.cell? ⟨w6.heap.size, 0, none⟩ = some (.slice a6 lq q6) ∧ w'.cell? ⟨w6.heap.size, 1, none⟩ = some (.bool t1) ∧ w'.cell? ⟨w6.heap.size, 2, none⟩ = some (.string k1) ∧ w'.cell? ⟨w6.heap.size, 3, none⟩ = some (.string y1))) := fun w' g => ⟨g, g.cell HWR.out.2.2.1 (by simp), g.cell HWR.out.2.2.2.1 (by simp), g.cell HWR.out.2.2.2.2.1 (by simp), g.cell HWR.out.2.2.2.2.2 (by simp)⟩
        go_wp2_with fail
        obtain ⟨ND, hND⟩ : ∃ N, nodeAt M K d = N := ⟨_, rfl⟩
        obtain ⟨VV, hVV⟩ : ∃ N, valM M K = N := ⟨_, rfl⟩
        obtain ⟨OK, hOK⟩ : ∃ N, hasM M K = N := ⟨_, rfl⟩
        have HN2 := Lib.hid (HNO.out d HD.out)
        rw [hVV, hOK] at HHAS ⊢
        rw [hOK] at HLAC
        rw [hND] at HHAS HLAC HN2
        clear hND hVV hOK HNO HGE HPR9
        have gk := grownBy_drew (World.grownBy.refl wr none)
        cases OK
        all_goals
          go_wp2_with fail
          go_region_held3 (fun w' => wr.grownBy w' none ∧ (w'.cell? ⟨w6.heap.size, 0, none⟩ = some (.slice a6 lq q6) ∧ w'.cell? ⟨w6.heap.size, 1, none⟩ = some (.bool t1) ∧ w'.cell? ⟨w6.heap.size, 2, none⟩ = some (.string k1) ∧ w'.cell? ⟨w6.heap.size, 3, none⟩ = some (.string y1))) (exact HS.out _ gk)
            (first
              | (go_at_call 29; (with_reducible refine (HN2.out _ (grownBy_trans HWR.out.1 gk)).mono ?_); rintro e w9 ⟨rfl, g9⟩; have gk := grownBy_trans gk g9; clear g9)
              | (go_at_call 31; (with_reducible refine (HHAS.out _ (HWR.out.2.1.grown gk)).mono ?_); rintro e w9 ⟨rfl, g9⟩; have gk := grownBy_trans gk g9; clear g9)
              | (go_at_call 32; (with_reducible refine (HLAC.out _ (HWR.out.2.1.grown gk)).mono ?_); rintro e w9 ⟨rfl, g9⟩; have gk := grownBy_trans gk g9; clear g9))
          have GK := Lib.hid (grownBy_trans G3.out.1 (grownBy_trans HWR.out.1 gk))
          clear gk
          go_wp2_with fail
          go_ret
          exact ⟨rfl, below_grownBy GK.out⟩

  · have s2 : ¬ (lp : Int) ≥ (d : Int) := by omega
    have HWR : Hid (w3.grownBy W none ∧ OwnP W (.slice a6 lq q6) M K d ∧ W.cell? ⟨w6.heap.size, 0, none⟩ = some (.slice a6 lq q6) ∧ W.cell? ⟨w6.heap.size, 1, none⟩ = some (.bool t1) ∧ W.cell? ⟨w6.heap.size, 2, none⟩ = some (.string k1) ∧ W.cell? ⟨w6.heap.size, 3, none⟩ = some (.string y1)) := ⟨H7.out.2.2, H7.out.2.1, x10, x11, x12, x13⟩
    go_wp2_with (rw [HW.out])
    refine (HGE.out W HWR.out.1).mono ?_
    rintro e wg ⟨rfl, rfl⟩
    have HS : Hid (∀ w', W.grownBy w' none → W.grownBy w' none ∧ (w'.cell? ⟨w6.heap.size, 0, none⟩ = some (.slice a6 lq q6) ∧ w'.cell? ⟨w6.heap.size, 1, none⟩ = some (.bool t1) ∧ w'.cell? ⟨w6.heap.size, 2, none⟩ = some (.string k1) ∧ w'.cell? ⟨w6.heap.size, 3, none⟩ = some (.string y1))) := fun w' g => ⟨g, g.cell HWR.out.2.2.1 (by simp), g.cell HWR.out.2.2.2.1 (by simp), g.cell HWR.out.2.2.2.2.1 (by simp), g.cell HWR.out.2.2.2.2.2 (by simp)⟩
    go_wp2_with fail
    obtain ⟨ND, hND⟩ : ∃ N, nodeAt M K d = N := ⟨_, rfl⟩
    obtain ⟨VV, hVV⟩ : ∃ N, valM M K = N := ⟨_, rfl⟩
    obtain ⟨OK, hOK⟩ : ∃ N, hasM M K = N := ⟨_, rfl⟩
    have HN2 := Lib.hid (HNO.out d HD.out)
    rw [hVV, hOK] at HHAS ⊢
    rw [hOK] at HLAC
    rw [hND] at HHAS HLAC HN2
    clear hND hVV hOK HNO HGE HPR9
    have gk := grownBy_drew (World.grownBy.refl W none)
    cases OK
    all_goals
      go_wp2_with fail
      go_region_held3 (fun w' => W.grownBy w' none ∧ (w'.cell? ⟨w6.heap.size, 0, none⟩ = some (.slice a6 lq q6) ∧ w'.cell? ⟨w6.heap.size, 1, none⟩ = some (.bool t1) ∧ w'.cell? ⟨w6.heap.size, 2, none⟩ = some (.string k1) ∧ w'.cell? ⟨w6.heap.size, 3, none⟩ = some (.string y1))) (exact HS.out _ gk)
        (first
          | (go_at_call 29; (with_reducible refine (HN2.out _ (grownBy_trans HWR.out.1 gk)).mono ?_); rintro e w9 ⟨rfl, g9⟩; have gk := grownBy_trans gk g9; clear g9)
          | (go_at_call 31; (with_reducible refine (HHAS.out _ (HWR.out.2.1.grown gk)).mono ?_); rintro e w9 ⟨rfl, g9⟩; have gk := grownBy_trans gk g9; clear g9)
          | (go_at_call 32; (with_reducible refine (HLAC.out _ (HWR.out.2.1.grown gk)).mono ?_); rintro e w9 ⟨rfl, g9⟩; have gk := grownBy_trans gk g9; clear g9))
      have GK := Lib.hid (grownBy_trans G3.out.1 (grownBy_trans HWR.out.1 gk))
      clear gk
      go_wp2_with fail
      go_ret
      exact ⟨rfl, below_grownBy GK.out⟩

theorem proofBands_ints (L : List PutS) (x : Option Addr) (n c : Nat) (la : List UInt8) (hl : la.length = 2) (z : Int) (hz : 0 ≤ z ∧ z ≤ 255) (w : World) (hr : ShaReady w) (hv : PutsAt w (.slice x n c) L) (hsz : ∀ p ∈ L, p.2.2.size ≤ maxLen) (hn : n ≤ maxLen) :
    Calls Tryd.prog 7 #[.slice x n c, .agg (bytesV la).toArray, .int .u8 z] w fun e w' => e = .returned (.bool true) ∧ Below w.heap.size w w' := by
  match la, hl with
  | [a, b], _ =>
    have h := proofBands_walk L x n c a b (UInt8.ofNat z.toNat) w hr hv hsz hn
    have e : ((UInt8.ofNat z.toNat).toNat : Int) = z := by
      rw [UInt8.toNat_ofNat_of_lt' (show z.toNat < 256 by omega)]
      omega
    rw [e] at h
    exact h
end Go.Proofs.YtheabbknflmnfaaDoor
