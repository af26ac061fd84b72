/- The walk of the law TopBands. -/
import Derived.Test.YtbhoeiopckmfhaaGreatDoorTopBandsB15
import Derived.Test.YtbhoeiopckmfhaaGreatDoorTopBandsB17
import Derived.Test.YtbhoeiopckmfhaaGreatDoorTopBandsB18
import Derived.Test.YtbhoeiopckmfhaaGreatDoorTopBandsB16
namespace Go.Proofs.YtbhoeiopckmfhaaGreatDoor
open Go.RowKit Go.Maps
attribute [local irreducible] shaL

/-- an item's two cells -/
theorem PairsAt.cells {w : World} {a : Option Addr} {n c : Nat} {M : List PairS} (h : PairsAt w (.slice a n c) M) (i : Nat) (hi : i < M.length) : ∃ g o, a = some ⟨g, o, none⟩ ∧ w.cell? ⟨g, o + i * 2, none⟩ = some (.string M[i].1) ∧ w.cell? ⟨g, o + i * 2 + 1, none⟩ = some (.string M[i].2) := by
  obtain ⟨a', c', e, _, _, h⟩ := h
  injection e with e _ _
  obtain ⟨g, o, h1, h2, h3⟩ := h i hi
  exact ⟨g, o, by rw [e, h1], h2, h3⟩
theorem PairsAt.len {w : World} {a : Option Addr} {n c : Nat} {M : List PairS} (h : PairsAt w (.slice a n c) M) : M.length = n := by
  obtain ⟨_, _, e, _⟩ := h
  injection e with _ e _
  exact e.symm
theorem slice_own2T {w : World} {B n : Nat} {t : TypeId} {v : Value} {xs : List Value} (h : w.ownsRow B t 2 v n xs) : ∃ a cap, v = .slice a n cap := by
  rcases h.2 with ⟨rfl, h0⟩ | ⟨g, cap, cur, rfl, _⟩
  · exact ⟨none, 0, by rw [h0]⟩
  · exact ⟨_, _, rfl⟩
theorem nodesB_atT (M : List PairS) (d b : Nat) (hb : b < 2 ^ d) : (nodesB M d)[b]? = some (nodeB M d b) := by
  unfold nodesB nodeB
  simp [hb]
theorem strsV_at {L : List ByteArray} {i : Nat} {s : ByteArray} (h : L[i]? = some s) : (strsV L)[i]? = some (.string s) := by
  unfold strsV
  rw [List.getElem?_map, h]
  rfl
theorem itemsT_at (A : List PairS) (i : Nat) (h8 : i < 8) (hl : i < A.length) (h : i < (itemsT A 8).length) : (itemsT A 8)[i] = itemT A[i] := by
  simp [itemsT]
theorem puts_hasT {A : List PairS} {i : Nat} (h8 : i < 8) (hl : i < A.length) (M : List PairS) : hasM (putsM M (itemsT A 8)) (keyT A[i].1) = true := by
  rw [puts_has]
  have hm : itemT A[i] ∈ itemsT A 8 := by
    unfold itemsT
    exact List.mem_map.2 ⟨A[i], List.mem_take_iff_getElem.2 ⟨i, by omega, rfl⟩, rfl⟩
  rw [Bool.or_eq_true]
  exact .inr (List.any_eq_true.2 ⟨_, hm, by simp [itemT]⟩)
theorem tag_key (w0 : World) (s : ByteArray) (hs : s.size ≤ maxLen) (hr : ShaReady w0) : Calls Tryz.prog 26 #[.int .u8 1, .slice (some ⟨w0.heap.size, 0, none⟩) 1 1] (w0.alloc (.cells #[.string (s.extract 0 (min (s.size : Int) 20).toNat)] 9)) fun e w' => e = .returned (.string (keyT s)) ∧ w0.grownBy w' none := by
  rw [cut20_eq]
  exact tagged_new w0 1 [cut20 s] [.string (cut20 s)] 1 1 rfl rfl rfl hr (by simp) (by intro t ht; rw [List.mem_singleton.1 ht]; have := cut20_size s; omega)
theorem tag_key_drew (w0 : World) (s : ByteArray) (hs : s.size ≤ maxLen) (hr : ShaReady w0) : Calls Tryz.prog 26 #[.int .u8 1, .slice (some ⟨w0.heap.size, 0, none⟩) 1 1] (w0.alloc (.cells #[.string (s.extract 0 (min (s.size : Int) 20).toNat)] 9)).drew fun e w' => e = .returned (.string (keyT s)) ∧ w0.grownBy w' none :=
  (tag_key w0.drew s hs (hr.grown (grownBy_drew (World.grownBy.refl _ _)))).mono fun e w' h => ⟨h.1, grownBy_trans (grownBy_drew (World.grownBy.refl _ _)) h.2⟩
set_option maxRecDepth 100000 in
set_option maxHeartbeats 8000000 in
theorem topBands_walk (L A : List PairS) (x y : Option Addr) (n c m q z : Nat) (hz : z ≤ 255) (w : World) (hr : ShaReady w) (hv : PairsAt w (.slice x n c) L) (hsz : ∀ p ∈ L, p.1.size ≤ maxLen ∧ p.2.size ≤ maxLen) (hn : n ≤ maxLen) (hv2 : PairsAt w (.slice y m q) A) (hsz2 : ∀ p ∈ A, p.1.size ≤ maxLen ∧ p.2.size ≤ maxLen) (hm : m ≤ maxLen) :
    Calls Tryz.prog 5 #[.slice x n c, .slice y m q, .int .u8 z] w fun e w' => e = .returned (.bool true) ∧ Below w.heap.size w w' := by
  have HSP := Lib.hid (top_trees w hr)
  have HR := Lib.hid hr
  have HV := Lib.hid (And.intro hv hsz)
  have HV2 := Lib.hid (And.intro hv2 hsz2)
  have HLN := Lib.hid (And.intro hv.len hv2.len)
  unfold maxLen at hn hm
  obtain ⟨d, hd⟩ : ∃ d, z % 4 = d := ⟨_, rfl⟩
  have hd3 : d ≤ 3 := by omega
  have hzd : (z : Int) % 4 = (d : Int) := by omega
  have hz0 : (0 : Int) ≤ (z : Int) := by omega
  have HD3 := Lib.hid hd3
  clear hr hv hsz hv2 hsz2 hd hd3
  go_enter Tryz.func5, Tryz.ntmps5
  go_wp2_with fail
  refine HSP.out.mono ?_
  rintro e w1 ⟨rfl, g1⟩
  have HG1 := Lib.hid g1
  have HNEW := Lib.hid (tnew_any w.heap.size [] w1 (by simp) g1.size)
  clear g1 HSP
  go_wp2_with fail
  refine HNEW.out.mono ?_
  rintro e w2 ⟨rfl, hT2, g2⟩
  have HG2 := Lib.hid (grownBy_trans HG1.out g2)
  have HT2 := Lib.hid hT2
  obtain ⟨TB, hTB⟩ : ∃ TB, w1.heap.size = TB := ⟨_, rfl⟩
  rw [hTB] at HT2 ⊢
  clear hT2 g2 hTB HNEW HG1
  go_upto_block 0 with (fail)
  go_cut [9] (fun _ wq => Hid (TreeK w.heap.size [] wq TB (putsM [] (itemsT L 8))) ∧ Hid (w.grownBy wq none))
  case first =>
    -- BEGIN a1
    go_wp2_with fail
    go_loopw [9] (fun iv wr => ∃ i : Nat, i ≤ 8 ∧ iv = .int .i64 i ∧ Hid (i ≤ n) ∧ Hid (TreeK w.heap.size [] wr TB (putsM [] (itemsT L i))) ∧ Hid (w.grownBy wr none)) (fun iv _ => 12 - (intOf iv).toNat)
    case atStart => exact ⟨0, Nat.zero_le _, rfl, Nat.zero_le _, HT2.out, HG2.out⟩
    case round =>
      obtain ⟨i, hi, rfl, HIN, HT, HG⟩ := hrel
      by_cases hlm : i < n ∧ i < 8
      · obtain ⟨hm1, hm2⟩ := hlm
        have q1 : (i : Int) < (n : Int) := by omega
        have q2 : (i : Int) < 8 := by omega
        have q0 : (0 : Int) ≤ (i : Int) := by omega
        have hil : i < L.length := by have := HLN.out.1; omega
        obtain ⟨g, o, rfl, h1, h2⟩ := HV.out.1.cells i hil
        have hss := HV.out.2 L[i] (List.getElem_mem _)
        have hsn := itemsT_puts L i hil []
        unfold itemT at hsn
        generalize L[i].1 = px at h1 hss hsn
        generalize L[i].2 = py at h2 hss hsn
        have hz1 : (0 : Int) ≤ min (px.size : Int) 20 := by omega
        have hz2 : min (px.size : Int) 20 ≤ (px.size : Int) := by omega
        have hz3 : (0 : Int) ≤ min (py.size : Int) 20 := by omega
        have hz4 : min (py.size : Int) 20 ≤ (py.size : Int) := by omega
        have c1 := HG.out.cell h1 (by simp)
        have c2 := HG.out.cell h2 (by simp)
        have HTAG := Lib.hid (tag_key_drew wr px hss.1 (HR.out.grown HG.out))
        have HMOK := Lib.hid (putsM_all (fun x => x.1.size = 16 ∧ x.2.size ≤ 20) (itemsT L i) [] (by simp) (itemsT_ok L i))
        have HPUT : Hid (∀ w0, wr.grownBy w0 none → Calls Tryz.prog 25 #[.pointer (some ⟨TB, 0, none⟩), .string (keyT px), .string (py.extract 0 (min (py.size : Int) 20).toNat)] w0 fun e w'' => e = .returned (.int .i64 0) ∧ TreeK w.heap.size [] w'' TB (putsM [] (itemsT L (i + 1))) ∧ w.grownBy w'' none) := Lib.hid fun w0 k => by
          have hg0 := grownBy_trans HG.out k
          have h := tput_any w.heap.size [] w0 TB (putsM [] (itemsT L i)) (keyT px) (py.extract 0 (min (py.size : Int) 20).toNat) (HT.out.grown k) (by simp) hg0.size (keyT_size px) (by rw [cut20_eq]; have := cut20_size py; omega) (by have h1 := HMOK.out.2; have h2 := itemsT_len L i; simp at h1; omega)
          refine h.mono ?_
          rintro e w'' ⟨rfl, ht, t⟩
          rw [cut20_eq, ← hsn] at ht
          exact ⟨rfl, ht, grownBy_below (t.bel (below_grownBy hg0) hg0.size)⟩
        have HS : Hid (∀ w', w.grownBy w' none → w'.cell? ⟨g, o + i * 2, none⟩ = some (.string px) ∧ w'.cell? ⟨g, o + i * 2 + 1, none⟩ = some (.string py)) := fun w' k => ⟨k.cell h1 (by simp), k.cell h2 (by simp)⟩
        have gk := grownBy_drew (World.grownBy.refl wr none)
        clear h1 h2 hss hsn HT HMOK
        generalize keyT px = KK at HTAG HPUT
        go_wp2_with fail
        go_region_held3 (fun w' => w'.cell? ⟨g, o + i * 2, none⟩ = some (.string px) ∧ w'.cell? ⟨g, o + i * 2 + 1, none⟩ = some (.string py)) (first | exact HS.out _ (grownBy_trans HG.out gk) | exact HS.out _ (grownBy_trans HG.out (grownBy_trans gk (World.grownBy_alloc _ _ _))) | exact HS.out _ gk.2)
          (first
          | (go_at_call 26; (with_reducible refine HTAG.out.mono ?_); rintro e w4 ⟨rfl, g4⟩; have gk := g4; clear g4)
          | (go_at_call 25; (with_reducible refine (HPUT.out _ gk).mono ?_); rintro e w5 ⟨rfl, hT5, g5⟩; have gk := And.intro hT5 g5; clear hT5 g5))
        all_goals
          have HT5 := Lib.hid gk.1
          have HG5 := Lib.hid gk.2
          clear gk HS HPUT HTAG c1 c2
          go_wp2_with fail
          go_roundw
          all_goals first
            | exact ⟨i + 1, by omega, by go_num, by show i + 1 ≤ n; omega, HT5, HG5⟩
            | (simp [intOf]; omega)
      · have HE := Lib.hid (itemsT_end L i hi (by have := HLN.out.1; have := HIN.out; omega) (by have := HLN.out.1; omega))
        have ht := HT.out
        rw [HE.out] at ht
        have HT := Lib.hid ht
        clear ht HE HT2 HG2
        by_cases h8 : i < n
        · have q1 : (i : Int) < (n : Int) := by omega
          have q2 : ¬ (i : Int) < 8 := by omega
          go_wp2_with fail
          go_meet
          case rel => exact ⟨HT, HG⟩
        · have q1 : ¬ (i : Int) < (n : Int) := by omega
          go_wp2_with fail
          go_meet
          case rel => exact ⟨HT, HG⟩
    -- END a1
  case rest =>
    obtain ⟨HT3, HG3⟩ := hcut
    clear HT2 HG2
    obtain ⟨F, hF⟩ := HT3.out.f
    have HCP := Lib.hid (tcopy_any w.heap.size [] wc TB _ HT3.out w.heap.size HG3.out.size F (fun i hi => (hF.lt i hi).2.1))
    have HF := Lib.hid hF
    have HMOK := Lib.hid (putsM_all (fun x => x.1.size = 16 ∧ x.2.size ≤ 20) (itemsT L 8) [] (by simp) (itemsT_ok L 8))
    have HML := Lib.hid (show (putsM [] (itemsT L 8)).length ≤ 8 by have h1 := HMOK.out.2; have h2 := itemsT_len L 8; simp at h1; omega)
    obtain ⟨M0, hM0⟩ : ∃ M, putsM [] (itemsT L 8) = M := ⟨_, rfl⟩
    rw [hM0] at HCP HF HMOK HML HT3
    have HPL : Hid (Plain M0) := ⟨fun x hx => (HMOK.out.1 x hx).1, fun x hx => by have := (HMOK.out.1 x hx).2; omega, by have := HML.out; omega⟩
    clear hF hM0
    go_wp2_with fail
    refine HCP.out.mono ?_
    rintro e w4 ⟨WB, rfl, hwb, hW4, g4⟩
    have HW4 := Lib.hid hW4
    have HG4 := Lib.hid g4
    have HND := Lib.hid (bnodes_any w.heap.size [] w4 TB M0 d (HT3.out.grown g4) HPL.out (by have := HD3.out; omega) (HR.out.grown (grownBy_trans HG3.out g4)))
    clear hwb hW4 g4 HCP
    go_wp2_with fail
    refine HND.out.mono ?_
    rintro e w5 ⟨nv, rfl, hrow, g5⟩
    rw [nodesB_len] at hrow
    obtain ⟨nb, cap, rfl⟩ := slice_pos hrow (Nat.pow_pos (by decide))
    have HAT := Lib.hid (TbAt.start (A := itemsT A 8) HF.out HG3.out HG4.out HW4.out g5 hrow)
    clear hrow g5 HND HF HT3 HG3 HG4 HW4
    obtain ⟨D, hD⟩ : ∃ D, 2 ^ d = D := ⟨_, rfl⟩
    have HDD := Lib.hid hD
    have hD8 : D ≤ 8 := by
      have : 2 ^ d ≤ 2 ^ 3 := Nat.pow_le_pow_right (by decide) HD3.out
      omega
    have HCNT := Lib.hid (fun (w' : World) => bcount_in d (by have := HD3.out; omega) w')
    rw [hD] at HCNT ⊢
    clear hD
    go_wp2_with fail
    rename World => wf
    go_loopw [8, 13] (fun tv bv wr => ∃ b tb : Nat, b ≤ D ∧ bv = .int .i64 b ∧ tv = .pointer (some ⟨tb, 0, none⟩) ∧ Hid (TbAt w M0 (itemsT A 8) d b tb WB nb cap wr)) (fun _ bv _ => 20 - (intOf bv).toNat)
    case atStart => exact ⟨0, TB, Nat.zero_le _, rfl, rfl, HAT⟩
    case round =>
      obtain ⟨b, tb, hb, rfl, rfl, HT⟩ := hrel
      clear HAT
      go_wp2_with fail
      refine (HCNT.out _).mono ?_
      rintro e w6 ⟨rfl, rfl⟩
      by_cases hlt : b < D
      · have q1 : (b : Int) < (D : Int) := by omega
        have q0 : (0 : Int) ≤ (b : Int) := by omega
        go_upto_block 4 with (fail)
        go_cut [14] (fun lv wq => ∃ la lc : _, lv = .slice la (bandL d b (itemsT A 8)).length lc ∧ Hid (PairsAt wq (.slice la (bandL d b (itemsT A 8)).length lc) (bandL d b (itemsT A 8))) ∧ Hid (wr.grownBy wq none))
        case first =>
          -- BEGIN a2
          rename World => wo
          have HWO := Lib.hid HT.out.g
          have HB3 := Lib.hid (show bandL d b (itemsT A 0) = [] from rfl)
          clear HT
          go_wp2_with fail
          go_loopw [14, 15] (fun lv iv wq => ∃ (i : Nat) (v : Value), i ≤ 8 ∧ iv = .int .i64 i ∧ v = lv ∧ Hid (i ≤ m) ∧ Hid (wq.ownsRow wo.heap.size 84 2 v (bandL d b (itemsT A i)).length (pv (bandL d b (itemsT A i)))) ∧ Hid (wo.grownBy wq none)) (fun _ iv _ => 12 - (intOf iv).toNat)
          case atStart => exact ⟨0, _, Nat.zero_le _, rfl, rfl, Nat.zero_le _, World.ownsRow_nil _ _ _ _, World.grownBy.refl _ _⟩
          case round =>
            obtain ⟨i, v, hi, rfl, rfl, HIN, HRW, HG⟩ := hrel
            by_cases hlm : i < m ∧ i < 8
            · obtain ⟨hm1, hm2⟩ := hlm
              have k1 : (i : Int) < (m : Int) := by omega
              have k2 : (i : Int) < 8 := by omega
              have k0 : (0 : Int) ≤ (i : Int) := by omega
              have hil : i < A.length := by have := HLN.out.2; omega
              obtain ⟨g, o, rfl, h1, h2⟩ := HV2.out.1.cells i hil
              have hss := HV2.out.2 A[i] (List.getElem_mem _)
              have hsn := bandL_snoc A i hil d b
              have hlen : (bandL d b (itemsT A i)).length ≤ 8 := Nat.le_trans (List.length_filter_le _ _) (Nat.le_trans (itemsT_len A i) hi)
              have hks := keyT_size A[i].1
              unfold itemT at hsn
              generalize A[i].1 = px at h1 hss hsn hks
              generalize A[i].2 = py at h2 hss hsn
              generalize bandL d b (itemsT A i) = BL at hsn hlen HRW
              have hz1 : (0 : Int) ≤ min (px.size : Int) 20 := by omega
              have hz2 : min (px.size : Int) 20 ≤ (px.size : Int) := by omega
              have hz3 : (0 : Int) ≤ min (py.size : Int) 20 := by omega
              have hz4 : min (py.size : Int) 20 ≤ (py.size : Int) := by omega
              have HTAG := Lib.hid (tag_key_drew wr px hss.1 (HR.out.grown (grownBy_trans HWO.out HG.out)))
              generalize keyT px = KK at HTAG hsn hks
              have HS : Hid (∀ w', wo.grownBy w' none → w'.cell? ⟨g, o + i * 2, none⟩ = some (.string px) ∧ w'.cell? ⟨g, o + i * 2 + 1, none⟩ = some (.string py)) := fun w' k => ⟨(grownBy_trans HWO.out k).cell h1 (by simp), (grownBy_trans HWO.out k).cell h2 (by simp)⟩
              have HBD := Lib.hid (fun (w' : World) => band_any KK (by rw [hks]; unfold maxLen; omega) d (by have := HD3.out; omega) w')
              have HSN := Lib.hid (And.intro hsn hlen)
              have c0 := (HS.out wr HG.out).1
              have c1 := (HS.out wr HG.out).2
              have gk := grownBy_drew (World.grownBy.refl wr none)
              clear h1 h2 hss hsn hlen hks
              go_wp2_with fail
              go_region_held3 (fun w' => w'.cell? ⟨g, o + i * 2, none⟩ = some (.string px) ∧ w'.cell? ⟨g, o + i * 2 + 1, none⟩ = some (.string py)) (first | exact HS.out _ (grownBy_trans HG.out gk) | exact HS.out _ (grownBy_trans HG.out (grownBy_trans gk (World.grownBy_alloc _ _ _))))
                ((go_at_call 26; (with_reducible refine HTAG.out.mono ?_); rintro e w4 ⟨rfl, g4⟩; have gk := g4; clear g4))
              all_goals
                have HG4 := Lib.hid (grownBy_trans HG.out gk)
                have HRW4 := Lib.hid (own_keep2' HRW.out gk)
                clear gk c0 c1
                go_wp2_with fail
                refine (HBD.out _).mono ?_
                rintro e w7 ⟨rfl, g7⟩
                have HG7 := Lib.hid (grownBy_trans HG4.out g7)
                have HRW7 := Lib.hid (own_keep2' HRW4.out g7)
                obtain ⟨BN, hBN⟩ : ∃ BN, bandN KK d = BN := ⟨_, rfl⟩
                have HBN := Lib.hid hBN
                rw [hBN]
                clear g7 hBN
                by_cases hbb : BN = b
                · subst hbb
                  have HGA : Hid (wo.grownBy (w7.alloc (.cells #[.string KK, .string (py.extract 0 (min (py.size : Int) 20).toNat)] 84)).drew none) := grownBy_trans HG7.out (grownBy_drew (World.grownBy_alloc w7 _ none))
                  have HRWA := Lib.hid (own_keep2' HRW7.out (grownBy_drew (World.grownBy_alloc w7 (.cells #[.string KK, .string (py.extract 0 (min (py.size : Int) 20).toNat)] 84) none)))
                  have HLIT := Lib.hid (own_keep2' (own_twoC w7 (.string KK) (.string (py.extract 0 (min (py.size : Int) 20).toNat))) (grownBy_drew (World.grownBy.refl _ none)))
                  have HLT := Lib.hid (fun (g : Nat) (e : v.ownBlock = some g) => (HRW7.out.lt g e).1)
                  have HSZ := Lib.hid (show BL.length + 1 ≤ maxLen ∧ (BL.length + 1) * 32 ≤ 140737488355328 ∧ wo.heap.size ≤ (w7.alloc (.cells #[.string KK, .string (py.extract 0 (min (py.size : Int) 20).toNat)] 84)).drew.heap.size from ⟨by have := HSN.out.2; unfold maxLen; omega, by have := HSN.out.2; omega, HGA.out.size⟩)
                  obtain ⟨i0, hti, hy0, hy1, hy2⟩ := info_parts infoChg
                  have HTI := Lib.hid (And.intro hti (And.intro hy0 (And.intro hy1 hy2)))
                  have hb0 := (HS.out _ HG7.out).1
                  have hb1 := (HS.out _ HG7.out).2
                  have gk := grownBy_drew (World.grownBy.refl w7 none)
                  clear hti hy0 hy1 hy2
                  go_wp2_with fail
                  go_region_held3 (fun w' => w'.cell? ⟨g, o + i * 2, none⟩ = some (.string px) ∧ w'.cell? ⟨g, o + i * 2 + 1, none⟩ = some (.string py)) (first | exact HS.out _ (grownBy_trans HG7.out gk) | exact HS.out _ HGA.out | exact HS.out _ gk.2)
                    ((refine step_append_row _ rfl (.tmp 121) (.tmp 137) 81 rfl wo.heap.size 84 i0 (.agg #[.string ⟨#[]⟩, .string ⟨#[]⟩]) 2 32 Tryz.underlying81 HTI.out.1 HTI.out.2.1 HTI.out.2.2.1 HTI.out.2.2.2 rfl (by decide) v BL.length (pv BL) rfl HRWA.out 0 1 (.slice (some ⟨w7.heap.size, 0, none⟩) 1 1) [.string KK, .string (py.extract 0 (min (py.size : Int) 20).toNat)] rfl HLIT.out (by simp [Value.oneCell']) HSZ.out.1 HSZ.out.2.1 HSZ.out.2.2 ?_; intro v8 w8 ho8 hg8 hv8; have gk := And.intro ho8 (grown_row HGA.out hg8 HLT.out); clear ho8 hg8 hv8))
                  all_goals
                    have HG8 := Lib.hid gk.2
                    have hrow8 := gk.1
                    rw [cut20_eq] at hrow8
                    have HRW8 : Hid (w8.ownsRow wo.heap.size 84 2 v8 (bandL d BN (itemsT A (i + 1))).length (pv (bandL d BN (itemsT A (i + 1))))) := by
                      rw [HSN.out.1, if_pos HBN.out, List.length_append, pv_append]
                      exact hrow8
                    clear gk hrow8
                    go_wp2_with fail
                    go_roundw
                    all_goals first
                      | exact ⟨i + 1, v8, by omega, by go_num, rfl, by show i + 1 ≤ m; omega, HRW8, HG8⟩
                      | (simp [intOf]; omega)
                · have k5 : ¬ (BN : Int) = (b : Int) := by omega
                  go_wp2_with fail
                  go_roundw
                  all_goals first
                    | (refine ⟨i + 1, v, by omega, by go_num, rfl, by show i + 1 ≤ m; omega, ?_, HG7⟩; rw [HSN.out.1, if_neg (by rw [HBN.out]; exact hbb)]; exact HRW7)
                    | (simp [intOf]; omega)
            · have HE := Lib.hid (itemsT_end A i hi (by have := HLN.out.2; have := HIN.out; omega) (by have := HLN.out.2; omega))
              have hrw := HRW.out
              rw [HE.out] at hrw
              obtain ⟨la, lc, rfl⟩ := slice_own2T hrw
              have HPA := Lib.hid (pairs_ownC hrw)
              clear hrw HE HRW
              by_cases h8 : i < m
              · have k1 : (i : Int) < (m : Int) := by omega
                have k2 : ¬ (i : Int) < 8 := by omega
                go_wp2_with fail
                go_meet
                case rel => exact ⟨la, lc, rfl, HPA, HG⟩
              · have k1 : ¬ (i : Int) < (m : Int) := by omega
                go_wp2_with fail
                go_meet
                case rel => exact ⟨la, lc, rfl, HPA, HG⟩
          -- END a2
        case rest =>
          -- BEGIN a3
          obtain ⟨la, lc, rfl, HPA, HGC⟩ := hcut
          have HT6 := Lib.hid (HT.out.grow HGC.out)
          obtain ⟨F, hF, hW⟩ := HT6.out.tree
          have hup := uptoM_all (fun x => x.1.size = 16 ∧ x.2.size ≤ 20) (itemsT A 8) M0 HMOK.out.1 (itemsT_ok A 8) d b
          have hl8 := itemsT_len A 8
          have hb8 : b * (itemsT A 8).length ≤ 8 * 8 := Nat.mul_le_mul (by omega) hl8
          have hfew : (uptoM M0 (itemsT A 8) d b).length ≤ 72 := by have := HML.out; omega
          have hlb : (bandL d b (itemsT A 8)).length ≤ 8 := Nat.le_trans (List.length_filter_le _ _) hl8
          have hPl : Plain (uptoM M0 (itemsT A 8) d b) := ⟨fun x hx => (hup.1 x hx).1, fun x hx => by have := (hup.1 x hx).2; omega, by omega⟩
          have HMK := Lib.hid (make_any w.heap.size [nb] wc tb (uptoM M0 (itemsT A 8) d b) b d (bandL d b (itemsT A 8)) la (bandL d b (itemsT A 8)).length lc hF.k hPl (fun x hx => by have := (hup.1 x hx).2; omega) HPA.out
            (fun x hx => by
              have h1 := itemsT_ok A 8 x (List.mem_filter.1 hx).1
              have h2 : (bandN x.1 d == b) = true := (List.mem_filter.1 hx).2
              exact ⟨h1.1, by omega, by simpa using h2⟩) (by omega) (by omega) (by have := HD3.out; omega) (by rw [HDD.out]; exact hlt) (HR.out.grown (grownBy_trans HT.out.g HGC.out)))
          have hnx : putsM (uptoM M0 (itemsT A 8) d b) (bandL d b (itemsT A 8)) = uptoM M0 (itemsT A 8) d (b + 1) := rfl
          rw [hnx] at HMK
          have hrw := HT6.out.row
          have HNB := Lib.hid (show nodeB (uptoM M0 (itemsT A 8) d b) d b = nodeN (128 - d) (bandS (uptoM M0 (itemsT A 8) d b) d b) d from rfl)
          have hat := nodesB_atT (uptoM M0 (itemsT A 8) d b) d b (by rw [HDD.out]; exact hlt)
          obtain ⟨OLD, hOLD⟩ : ∃ s, nodeB (uptoM M0 (itemsT A 8) d b) d b = s := ⟨_, rfl⟩
          obtain ⟨NEW, hNEW⟩ : ∃ s, nodeB (uptoM M0 (itemsT A 8) d (b + 1)) d b = s := ⟨_, rfl⟩
          rw [hOLD] at hat
          have hc := hrw.cellAt b (by rw [HDD.out]; omega)
          rw [strsV_at hat] at hc
          have HNC : Hid (wc.cell? ⟨nb, b, none⟩ = some (.string OLD)) := hc
          have HFZ : Hid (wc.frozen? ⟨nb, b, none⟩ = false) := hrw.frozenAt b
          have HON := Lib.hid (And.intro hOLD hNEW)
          generalize (bandL d b (itemsT A 8)).length = ln at HMK ⊢
          clear hF hW hup hl8 hb8 hfew hlb hPl hnx hrw hat hc hOLD hNEW HPA HNB
          go_wp2_with fail
          refine HMK.out.mono ?_
          rintro e w7 ⟨sv, ub, S, rfl, hkv, hok, hro, htr, g7⟩
          rw [HON.out.1, HON.out.2]
          have hst := steps_own hro
          obtain ⟨sa, sc, rfl⟩ := slice_own6 hro
          have hln : S.length ≤ 256 := by
            have h1 : (kvS S).length = S.length := by unfold kvS; simp
            have h2 : (bandL d b (itemsT A 8)).length ≤ 8 := Nat.le_trans (List.length_filter_le _ _) (itemsT_len A 8)
            rw [← h1, hkv]
            omega
          have hA := World.grownBy_alloc w7 (.cells #[.int .i64 (b : Nat), .int .i64 (d : Nat), .string OLD, .string NEW, .slice sa S.length sc] 57) none
          have hZ := heap_alloc_at w7 (.cells #[.int .i64 (b : Nat), .int .i64 (d : Nat), .string OLD, .string NEW, .slice sa S.length sc] 57) _ rfl
          obtain ⟨WA, hWA⟩ : ∃ WA, w7.alloc (.cells #[.int .i64 (b : Nat), .int .i64 (d : Nat), .string OLD, .string NEW, .slice sa S.length sc] 57) = WA := ⟨_, rfl⟩
          obtain ⟨XB, hXB⟩ : ∃ XB, w7.heap.size = XB := ⟨_, rfl⟩
          rw [hWA] at hA hZ
          rw [hXB] at hZ
          have HWA := Lib.hid hWA
          have HG7 := Lib.hid g7
          have HA := Lib.hid hA
          have HTR := Lib.hid htr
          have HCK : Hid (∀ w', w7.grownBy w' none → Calls Tryz.prog 32 #[.agg #[.int .i64 b, .int .i64 d, .string OLD, .string NEW, .slice sa S.length sc]] w' fun e w'' => e = .returned (.int .i64 0) ∧ w'.grownBy w'' none) := Lib.hid fun w' k => by
            have h := tcheck_any w' (uptoM M0 (itemsT A 8) d b) b d S (.slice sa S.length sc) NEW (hok.grown k) (hst.grown k) hln (by have := HD3.out; omega) (by rw [HDD.out]; exact hlt)
            rw [HON.out.1, hkv, show putsM (uptoM M0 (itemsT A 8) d b) (bandL d b (itemsT A 8)) = uptoM M0 (itemsT A 8) d (b + 1) from rfl, if_pos HON.out.2] at h
            exact h
          have hnb0 := HG7.out.cell HNC.out (by simp)
          have HS : Hid (∀ w', WA.grownBy w' none → WA.grownBy w' none ∧ (w'.cell? ⟨XB, 0, none⟩ = some (.int .i64 b) ∧ w'.cell? ⟨XB, 1, none⟩ = some (.int .i64 d) ∧ w'.cell? ⟨XB, 2, none⟩ = some (.string OLD) ∧ w'.cell? ⟨XB, 3, none⟩ = some (.string NEW) ∧ w'.cell? ⟨XB, 4, none⟩ = some (.slice sa S.length sc)) ∧ w'.cell? ⟨nb, b, none⟩ = some (.string OLD)) := Lib.hid fun w' k =>
            ⟨k, cells5 (k.heap hZ (by simp)), k.cell (hA.cell hnb0 (by simp)) (by simp)⟩
          generalize S.length = sn at HCK HS HWA ⊢
          clear hkv hok hro htr g7 hst hln hA hZ hWA hnb0
          have hls : ∀ x : ByteArray, (x.toList == x.toList) = true := fun x => by simp
          have hl0 := hls OLD
          clear hls
          go_wp2_with fail
          rw [HWA.out]
          have gk := grownBy_drew (World.grownBy.refl WA none)
          have q0 := HS.out _ (World.grownBy.refl WA none)
          obtain ⟨_, ⟨x0, x1, x2, x3, x4⟩, x5⟩ := q0
          go_region_held3 (fun w' => WA.grownBy w' none ∧ (w'.cell? ⟨XB, 0, none⟩ = some (.int .i64 b) ∧ w'.cell? ⟨XB, 1, none⟩ = some (.int .i64 d) ∧ w'.cell? ⟨XB, 2, none⟩ = some (.string OLD) ∧ w'.cell? ⟨XB, 3, none⟩ = some (.string NEW) ∧ w'.cell? ⟨XB, 4, none⟩ = some (.slice sa sn sc)) ∧ w'.cell? ⟨nb, b, none⟩ = some (.string OLD)) (exact HS.out _ gk)
            ((go_at_call 32; (with_reducible refine (HCK.out _ (grownBy_trans HA.out gk)).mono ?_); rintro e w9 ⟨rfl, g9⟩; have gk := grownBy_trans gk g9; clear g9))
          all_goals
            have HG9 := Lib.hid gk
            obtain ⟨_, ⟨x0, x1, x2, x3, x4⟩, x5⟩ := HS.out _ gk
            have HT9 := Lib.hid (HT6.out.grow (grownBy_trans HG7.out (grownBy_trans HA.out gk)))
            have xf := HT9.out.row.frozenAt b
            have HNX := Lib.hid (HT6.out.next (by rw [HDD.out]; exact hlt) (World.grownBy.refl wc none) HTR.out HG7.out (grownBy_trans HA.out gk) HON.out.2.symm)
            clear gk
            go_wp2_with fail
            go_roundw
            all_goals first
              | exact ⟨b + 1, ub, by omega, by go_num, rfl, HNX⟩
              | (simp [intOf]; omega)
          -- END a3
      · have q1 : ¬ (b : Int) < (D : Int) := by omega
        -- BEGIN a4
        have hbD : b = 2 ^ d := by rw [HDD.out]; omega
        have hpt := HT.out
        rw [hbD] at hpt
        have HP0 := Lib.hid hpt.pt
        have hup := uptoM_all (fun x => x.1.size = 16 ∧ x.2.size ≤ 20) (itemsT A 8) M0 HMOK.out.1 (itemsT_ok A 8) d (2 ^ d)
        have hl8 := itemsT_len A 8
        have hb8 : 2 ^ d * (itemsT A 8).length ≤ 8 * 8 := Nat.mul_le_mul (by rw [HDD.out]; exact hD8) hl8
        have HMF : Hid (Plain (uptoM M0 (itemsT A 8) d (2 ^ d)) ∧ ∀ x ∈ uptoM M0 (itemsT A 8) d (2 ^ d), x.2.size ≤ 1000) := ⟨⟨fun x hx => (hup.1 x hx).1, fun x hx => by have := (hup.1 x hx).2; omega, by have := HML.out; omega⟩, fun x hx => by have := (hup.1 x hx).2; omega⟩
        clear hpt hbD HT hup hl8 hb8
        rename World => wo
        go_upto_block 6 with (fail)
        go_cut [20] (fun _ wq => Hid (TbPt w M0 (itemsT A 8) d (itemsT A 8).length tb WB nb cap wq))
        case first =>
          -- BEGIN a5
          go_wp2_with fail
          go_loopw [20] (fun iv wq => ∃ i : Nat, i ≤ 8 ∧ iv = .int .i64 i ∧ Hid (i ≤ m) ∧ Hid (TbPt w M0 (itemsT A 8) d i tb WB nb cap wq)) (fun iv _ => 12 - (intOf iv).toNat)
          case atStart => exact ⟨0, Nat.zero_le _, rfl, Nat.zero_le _, HP0⟩
          case round =>
            obtain ⟨i, hi, rfl, HIN, HP⟩ := hrel
            clear HP0
            by_cases hlm : i < m ∧ i < 8
            · obtain ⟨hm1, hm2⟩ := hlm
              have k1 : (i : Int) < (m : Int) := by omega
              have k2 : (i : Int) < 8 := by omega
              have k0 : (0 : Int) ≤ (i : Int) := by omega
              have hil : i < A.length := by have := HLN.out.2; omega
              obtain ⟨g, o, rfl, h1, h2⟩ := HV2.out.1.cells i hil
              have hss := HV2.out.2 A[i] (List.getElem_mem _)
              have hi8 : i < (itemsT A 8).length := by unfold itemsT; rw [List.length_map, List.length_take]; omega
              have hsn := putsM_take M0 (itemsT A 8) i hi8
              rw [itemsT_at A i hm2 hil hi8] at hsn
              have hall := putsM_all (fun x => x.1.size = 16 ∧ x.2.size ≤ 20) ((itemsT A 8).take i) M0 HMOK.out.1 (fun x hx => itemsT_ok A 8 x (List.mem_of_mem_take hx))
              have hmf : (putsM M0 ((itemsT A 8).take i)).length ≤ 16 := by have h1 := hall.2; have h2 := HML.out; have h3 := List.length_take_le i (itemsT A 8); omega
              have hks := keyT_size A[i].1
              unfold itemT at hsn
              generalize A[i].1 = px at h1 hss hsn hks
              generalize A[i].2 = py at h2 hss hsn
              have hz1 : (0 : Int) ≤ min (px.size : Int) 20 := by omega
              have hz2 : min (px.size : Int) 20 ≤ (px.size : Int) := by omega
              have hz3 : (0 : Int) ≤ min (py.size : Int) 20 := by omega
              have hz4 : min (py.size : Int) 20 ≤ (py.size : Int) := by omega
              have HTAG := Lib.hid (tag_key_drew wr px hss.1 (HR.out.grown HP.out.g))
              obtain ⟨F, hF, hW, hX⟩ := HP.out.tree
              have HPUT : Hid (∀ w0, wr.grownBy w0 none → Calls Tryz.prog 25 #[.pointer (some ⟨WB, 0, none⟩), .string (keyT px), .string (py.extract 0 (min (py.size : Int) 20).toNat)] w0 fun e w'' => e = .returned (.int .i64 0) ∧ TbPt w M0 (itemsT A 8) d (i + 1) tb WB nb cap w'') := Lib.hid fun w0 k => by
                have hg0 := grownBy_trans HP.out.g k
                have h := tput_any w.heap.size (nb :: F) w0 WB _ (keyT px) (py.extract 0 (min (py.size : Int) 20).toNat) (hW.grown k) (fun x hx => Nat.lt_of_lt_of_le (hX x hx) k.size) hg0.size hks (by rw [cut20_eq]; have := cut20_size py; omega) (by omega)
                refine h.mono ?_
                rintro e w'' ⟨rfl, ht, t⟩
                rw [cut20_eq] at ht
                exact ⟨rfl, (HP.out.grow k).next (hF.grown k) (fun x hx => Nat.lt_of_lt_of_le (hX x hx) k.size) ht t hsn⟩
              have HS : Hid (∀ w', w.grownBy w' none → w'.cell? ⟨g, o + i * 2, none⟩ = some (.string px) ∧ w'.cell? ⟨g, o + i * 2 + 1, none⟩ = some (.string py)) := fun w' k => ⟨k.cell h1 (by simp), k.cell h2 (by simp)⟩
              have HPG := Lib.hid HP.out.g
              have c0 := (HS.out wr HPG.out).1
              have c1 := (HS.out wr HPG.out).2
              have gk := grownBy_drew (World.grownBy.refl wr none)
              clear h1 h2 hss hsn hall hmf hks hF hW hX HP
              generalize keyT px = KK at HTAG HPUT
              go_wp2_with fail
              go_region_held3 (fun w' => w'.cell? ⟨g, o + i * 2, none⟩ = some (.string px) ∧ w'.cell? ⟨g, o + i * 2 + 1, none⟩ = some (.string py)) (first | exact HS.out _ (grownBy_trans HPG.out gk) | exact HS.out _ (grownBy_trans HPG.out (grownBy_trans gk (World.grownBy_alloc _ _ _))) | exact HS.out _ gk.g)
                (first
                | (go_at_call 26; (with_reducible refine HTAG.out.mono ?_); rintro e w4 ⟨rfl, g4⟩; have gk := g4; clear g4)
                | (go_at_call 25; (with_reducible refine (HPUT.out _ gk).mono ?_); rintro e w5 ⟨rfl, hT5⟩; have gk := hT5; clear hT5))
              all_goals
                have HT5 := Lib.hid gk
                clear gk HS HPUT HTAG c0 c1
                go_wp2_with fail
                go_roundw
                all_goals first
                  | exact ⟨i + 1, by omega, by go_num, by show i + 1 ≤ m; omega, HT5⟩
                  | (simp [intOf]; omega)
            · have hle : (itemsT A 8).length ≤ i := by
                have := HLN.out.2; have := HIN.out
                unfold itemsT; rw [List.length_map, List.length_take]; omega
              have hpp : TbPt w M0 (itemsT A 8) d (itemsT A 8).length tb WB nb cap wr := by
                have h := HP.out
                obtain ⟨F, h1, h2, h3⟩ := h.tree
                rw [List.take_of_length_le hle] at h2
                exact ⟨h.g, h.row, F, h1, by rw [List.take_length]; exact h2, h3⟩
              have HPP := Lib.hid hpp
              clear hle hpp HP
              by_cases h8 : i < m
              · have k1 : (i : Int) < (m : Int) := by omega
                have k2 : ¬ (i : Int) < 8 := by omega
                go_wp2_with fail
                go_meet
                case rel => exact HPP
              · have k1 : ¬ (i : Int) < (m : Int) := by omega
                go_wp2_with fail
                go_meet
                case rel => exact HPP
          -- END a5
        case rest =>
          -- BEGIN a6
          rename World => wp
          have HPP := hcut
          obtain ⟨F, hF, hW, hX⟩ := HPP.out.tree
          have hall := putsM_all (fun x => x.1.size = 16 ∧ x.2.size ≤ 20) (itemsT A 8) M0 HMOK.out.1 (itemsT_ok A 8)
          have hl8 := itemsT_len A 8
          rw [List.take_length] at hW
          have hPW : Plain (putsM M0 (itemsT A 8)) := ⟨fun x hx => (hall.1 x hx).1, fun x hx => by have := (hall.1 x hx).2; omega, by have h1 := hall.2; have h2 := HML.out; omega⟩
          have hd15 : d ≤ 15 := by have := HD3.out; omega
          have e1 : rootJ d (nodesB (uptoM M0 (itemsT A 8) d (2 ^ d)) d) = nodeN 128 (putsM M0 (itemsT A 8)) 0 := by rw [rootJ_nodes _ d hd15, upto_root _ _ _ hd15]
          have e2 : nodeN 128 (uptoM M0 (itemsT A 8) d (2 ^ d)) 0 = nodeN 128 (putsM M0 (itemsT A 8)) 0 := upto_root _ _ _ hd15
          have HUH := Lib.hid (fun k => upto_has M0 (itemsT A 8) d k)
          have hst : StrsAt wp (.slice (some ⟨nb, 0, none⟩) (2 ^ d) cap) (nodesB (uptoM M0 (itemsT A 8) d (2 ^ d)) d) := by
            have h := HPP.out.row
            rw [← nodesB_len (uptoM M0 (itemsT A 8) d (2 ^ d)) d] at h ⊢
            exact strs_own h
          have hcap : 2 ^ d ≤ cap := (own_capG HPP.out.row (Nat.pow_pos (by decide))).1
          have HROOT := Lib.hid (broot_all (some ⟨nb, 0, none⟩) cap _ d wp (HR.out.grown HPP.out.g) hst (nodesB_len _ _) hcap (nodesB_few _ _) (by have := HD3.out; omega))
          rw [e1, HDD.out] at HROOT
          have HRW := Lib.hid (fun (w' : World) (k : wp.grownBy w' none) => troot_any w.heap.size (nb :: F) w' WB _ (hW.grown k) hPW (HR.out.grown (grownBy_trans HPP.out.g k)))
          have HRT := Lib.hid (fun (w' : World) (k : wp.grownBy w' none) => troot_any w.heap.size [nb] w' tb _ (hF.k.grown k) HMF.out.1 (HR.out.grown (grownBy_trans HPP.out.g k)))
          rw [e2] at HRT
          have HGET := Lib.hid (fun (k : ByteArray) (hk : k.size ≤ maxLen) (w' : World) (q : wp.grownBy w' none) => tget_any w.heap.size (nb :: F) w' WB _ k (hW.grown q) hk)
          have HPRV := Lib.hid (fun (k : ByteArray) (hk : k.size = 16) (w' : World) (q : wp.grownBy w' none) => prove_own w.heap.size [nb] w' tb _ k 0 (hF.k.grown q) HMF.out.1 HMF.out.2 hk (Nat.zero_le _) (HR.out.grown (grownBy_trans HPP.out.g q)))
          have HNZ := Lib.hid (fun k => node_zero (uptoM M0 (itemsT A 8) d (2 ^ d)) k)
          rw [e2] at HNZ
          have hls : ∀ x : ByteArray, (x.toList == x.toList) = true := fun x => by simp
          have hl0 := hls (nodeN 128 (putsM M0 (itemsT A 8)) 0)
          have HHS := Lib.hid (fun (i : Nat) (h8 : i < 8) (hl : i < A.length) => puts_hasT h8 hl M0)
          have HPG := Lib.hid HPP.out.g
          generalize nodeN 128 (putsM M0 (itemsT A 8)) 0 = R at HROOT HRW HRT HNZ hl0
          generalize putsM M0 (itemsT A 8) = M1 at HGET HUH HHS
          generalize uptoM M0 (itemsT A 8) d (2 ^ d) = MF at HPRV HUH HNZ
          clear hF hW hX hall hl8 hPW hd15 e1 e2 hst hcap hls HPP HMF HP0 hcut
          go_wp2_with fail
          refine HROOT.out.mono ?_
          rintro e w8 ⟨rfl, g8⟩
          have HG8 := Lib.hid g8
          clear g8 HROOT
          go_wp2_with fail
          refine (HRW.out _ HG8.out).mono ?_
          rintro e w9 ⟨rfl, g9⟩
          have HG9 := Lib.hid (grownBy_trans HG8.out g9)
          clear g9
          go_wp2_with fail
          refine (HRT.out _ HG9.out).mono ?_
          rintro e w10 ⟨rfl, g10⟩
          have HG10 := Lib.hid (grownBy_trans HG9.out g10)
          clear g10
          go_wp2_with fail
          go_loopw [23] (fun iv wq => ∃ i : Nat, i ≤ 8 ∧ iv = .int .i64 i ∧ Hid (i ≤ m) ∧ Hid (wp.grownBy wq none)) (fun iv _ => 12 - (intOf iv).toNat)
          case atStart => exact ⟨0, Nat.zero_le _, rfl, Nat.zero_le _, HG10.out⟩
          case round =>
            obtain ⟨i, hi, rfl, HIN, HG⟩ := hrel
            clear HG8 HG9 HG10
            by_cases hlm : i < m ∧ i < 8
            · obtain ⟨hm1, hm2⟩ := hlm
              have k1 : (i : Int) < (m : Int) := by omega
              have k2 : (i : Int) < 8 := by omega
              have k0 : (0 : Int) ≤ (i : Int) := by omega
              have hil : i < A.length := by have := HLN.out.2; omega
              obtain ⟨g, o, rfl, h1, h2⟩ := HV2.out.1.cells i hil
              have hss := HV2.out.2 A[i] (List.getElem_mem _)
              have hhs := HHS.out i hm2 hil
              have hks := keyT_size A[i].1
              generalize A[i].1 = px at h1 hss hhs hks
              have hz1 : (0 : Int) ≤ min (px.size : Int) 20 := by omega
              have hz2 : min (px.size : Int) 20 ≤ (px.size : Int) := by omega
              have HWG := Lib.hid (grownBy_trans HPG.out HG.out)
              have HTAG := Lib.hid (tag_key_drew wr px hss.1 (HR.out.grown HWG.out))
              have HS : Hid (∀ w', w.grownBy w' none → w'.cell? ⟨g, o + i * 2, none⟩ = some (.string px)) := fun w' k => k.cell h1 (by simp)
              have c0 := HS.out wr HWG.out
              have gk := grownBy_drew (World.grownBy.refl wr none)
              generalize keyT px = KK at HTAG hhs hks
              have HKS := Lib.hid (And.intro hks hhs)
              clear h1 h2 hss hks hhs
              go_wp2_with fail
              go_region_held3 (fun w' => w'.cell? ⟨g, o + i * 2, none⟩ = some (.string px)) (first | exact HS.out _ (grownBy_trans HWG.out gk) | exact HS.out _ (grownBy_trans HWG.out (grownBy_trans gk (World.grownBy_alloc _ _ _))))
                ((go_at_call 26; (with_reducible refine HTAG.out.mono ?_); rintro e w4 ⟨rfl, g4⟩; have gk := g4; clear g4))
              all_goals
                have HG4 := Lib.hid (grownBy_trans HG.out gk)
                have HGV := Lib.hid (HGET.out KK (by rw [HKS.out.1]; unfold maxLen; omega) _ HG4.out)
                have HPV := Lib.hid (HPRV.out KK HKS.out.1 _ HG4.out)
                clear gk c0 HS HTAG
                go_wp2_with fail
                refine HGV.out.mono ?_
                rintro e w11 ⟨rfl, rfl⟩
                go_wp2_with fail
                refine HPV.out.mono ?_
                rintro e w12 ⟨bv, rfl, hO, g12⟩
                have hhas := fun (w' : World) (k : w12.grownBy w' none) => (hO.grown k).has (valM M1 KK)
                have hlak := fun (w' : World) (k : w12.grownBy w' none) => (hO.grown k).lacks
                have hu := HUH.out KK
                rw [HNZ.out KK, hu.1, hu.2, HKS.out.2] at hhas
                rw [HNZ.out KK, hu.1, HKS.out.2] at hlak
                simp only [decide_true, Bool.and_self, Bool.true_and, Bool.not_true] at hhas hlak
                obtain ⟨ba, bn, bc, rfl⟩ := hO.slice
                have HHA : Hid (∀ w', w12.grownBy w' none → Calls Tryz.prog 37 #[.agg #[.slice ba bn bc, .bool (decide (restT MF KK 0 ≠ [])), .string (keyOf (restT MF KK 0)), .string (valOf (restT MF KK 0))], .string R, .string KK, .string (valM M1 KK), .int .i64 0] w' fun e w'' => e = .returned (.bool true) ∧ w'.grownBy w'' none) := Lib.hid hhas
                have HLA : Hid (∀ w', w12.grownBy w' none → Calls Tryz.prog 38 #[.agg #[.slice ba bn bc, .bool (decide (restT MF KK 0 ≠ [])), .string (keyOf (restT MF KK 0)), .string (valOf (restT MF KK 0))], .string R, .string KK, .int .i64 0] w' fun e w'' => e = .returned (.bool false) ∧ w'.grownBy w'' none) := Lib.hid hlak
                generalize valM M1 KK = VV at HHA
                generalize hasM M1 KK = HH
                generalize decide (restT MF KK 0 ≠ []) = b1 at HHA HLA ⊢
                generalize keyOf (restT MF KK 0) = b2 at HHA HLA ⊢
                generalize valOf (restT MF KK 0) = b3 at HHA HLA ⊢
                have hA := World.grownBy_alloc w12 (.cells #[.slice ba bn bc, .bool b1, .string b2, .string b3] 92) none
                have hZ := heap_alloc_at w12 (.cells #[.slice ba bn bc, .bool b1, .string b2, .string b3] 92) _ rfl
                obtain ⟨WA, hWA⟩ : ∃ WA, w12.alloc (.cells #[.slice ba bn bc, .bool b1, .string b2, .string b3] 92) = WA := ⟨_, rfl⟩
                obtain ⟨PB, hPB⟩ : ∃ PB, w12.heap.size = PB := ⟨_, rfl⟩
                rw [hWA] at hA hZ
                rw [hPB] at hZ
                have HWA := Lib.hid hWA
                have HA : Hid (w12.grownBy WA none) := Lib.hid hA
                have HGA := Lib.hid (grownBy_trans HG4.out (grownBy_trans g12 hA))
                have HS : Hid (∀ w', WA.grownBy w' none → WA.grownBy w' none ∧ w'.cell? ⟨PB, 0, none⟩ = some (.slice ba bn bc) ∧ w'.cell? ⟨PB, 1, none⟩ = some (.bool b1) ∧ w'.cell? ⟨PB, 2, none⟩ = some (.string b2) ∧ w'.cell? ⟨PB, 3, none⟩ = some (.string b3)) := Lib.hid fun w' k => ⟨k, cells4T (k.heap hZ (by simp))⟩
                obtain ⟨_, x0, x1, x2, x3⟩ := HS.out _ (World.grownBy.refl WA none)
                have gk := grownBy_drew (World.grownBy.refl WA none)
                clear hO hhas hlak hu hA hZ hWA g12
                go_wp2_with fail
                rw [HWA.out]
                clear gk
                refine (HHA.out _ HA.out).mono ?_
                rintro e w14 ⟨rfl, g14⟩
                have HG14 := Lib.hid g14
                obtain ⟨_, y0, y1, y2, y3⟩ := HS.out _ g14
                clear x0 x1 x2 x3 g14
                go_wp2_with fail
                refine (HLA.out _ (grownBy_trans HA.out HG14.out)).mono ?_
                rintro e w15 ⟨rfl, g15⟩
                have HGE := Lib.hid (grownBy_trans HGA.out (grownBy_trans HG14.out g15))
                clear y0 y1 y2 y3 g15
                go_wp2_with fail
                go_roundw
                all_goals first
                  | exact ⟨i + 1, by omega, by go_num, by show i + 1 ≤ m; omega, HGE⟩
                  | (simp [intOf]; omega)
            · have hBW := Lib.hid (below_grownBy (grownBy_trans HPG.out HG.out))
              by_cases h8 : i < m
              · have k1 : (i : Int) < (m : Int) := by omega
                have k2 : ¬ (i : Int) < 8 := by omega
                go_wp2_with fail
                go_ret
                exact ⟨rfl, hBW.out⟩
              · have k1 : ¬ (i : Int) < (m : Int) := by omega
                go_wp2_with fail
                go_ret
                exact ⟨rfl, hBW.out⟩
          -- END a6
        -- END a4
theorem topBands_ints (L A : List PairS) (x y : Option Addr) (n c m q : Nat) (z : Int) (hz : 0 ≤ z ∧ z ≤ 255) (w : World) (hr : ShaReady w) (hv : PairsAt w (.slice x n c) L) (hsz : ∀ p ∈ L, p.1.size ≤ maxLen ∧ p.2.size ≤ maxLen) (hn : n ≤ maxLen) (hv2 : PairsAt w (.slice y m q) A) (hsz2 : ∀ p ∈ A, p.1.size ≤ maxLen ∧ p.2.size ≤ maxLen) (hm : m ≤ maxLen) :
    Calls Tryz.prog 5 #[.slice x n c, .slice y m q, .int .u8 z] w fun e w' => e = .returned (.bool true) ∧ Below w.heap.size w w' := by
  obtain ⟨k, rfl⟩ : ∃ k : Nat, z = (k : Int) := ⟨z.toNat, by omega⟩
  exact topBands_walk L A x y n c m q k (by omega) w hr hv hsz hn hv2 hsz2 hm
end Go.Proofs.YtbhoeiopckmfhaaGreatDoor
