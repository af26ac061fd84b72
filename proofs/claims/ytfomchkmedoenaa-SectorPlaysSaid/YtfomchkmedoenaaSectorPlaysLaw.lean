/- The walk of the law SectorPlays. -/
import Derived.Test.YtfomchkmedoenaaSecPa
import Derived.Test.YtfomchkmedoenaaSecSpk
import Derived.Test.YtfomchkmedoenaaSecOn
import Derived.Deep.DeepCutAuto
import Derived.Deep.CutBlock
import Derived.Deep.RegionWith
namespace Go.Proofs.Ytfomchkmedoenaa
open Go.RowKit

theorem tm8 (xw : Int) : -8 < Int.tmod xw 8 ∧ Int.tmod xw 8 < 8 := by
  refine ⟨?_, Int.tmod_lt_of_pos xw (show (0 : Int) < 8 by decide)⟩
  rcases Int.le_total 0 xw with h | h
  · have := Int.tmod_nonneg 8 h; omega
  · have := Int.tmod_lt_of_pos (-xw) (show (0 : Int) < 8 by decide)
    rw [Int.neg_tmod] at this
    omega
set_option maxRecDepth 100000 in
set_option maxHeartbeats 8000000 in
theorem plays_walk (A : List ActS) (aa : Option Addr) (an ac : Nat) (w : World) (hA : PActsAt w (.slice aa an ac) A) (hO : ∀ x ∈ A, ActOk x) (han : an ≤ maxLen) :
    Calls Try.prog 3 #[.slice aa an ac] w fun e w' => e = .returned (.bool true) ∧ Below w.heap.size w w' := by
  have hAl : A.length = an := by obtain ⟨_, _, e, _⟩ := hA; injection e with _ e _; exact e.symm
  have HA := Lib.hid hA
  have HO := Lib.hid hO
  have HAL := Lib.hid hAl
  unfold maxLen at han
  clear hA hO hAl
  go_enter Try.func3, Try.ntmps3
  go_wp2_with fail
  refine (sec_speaks w).mono ?_
  rintro e w1 ⟨rfl, g1⟩
  have G1 := Lib.hid g1
  clear g1
  go_wp2_with fail
  refine (new_k (n0 := w.heap.size) (X := []) 6 (by decide) (by decide) w1 (by simp) G1.out.size).mono ?_
  rintro e w2 ⟨b, rfl, hd2, g2⟩
  have G2 := Lib.hid (grownBy_trans G1.out g2)
  have D2 := Lib.hid hd2
  clear hd2 g2 G1
  go_wp2_with fail
  obtain ⟨w3, hW3⟩ : ∃ w3, (w2.alloc (.cells #[.string ⟨#[]⟩, .string ⟨#[]⟩, .string ⟨#[]⟩, .string ⟨#[]⟩, .string ⟨#[]⟩, .string ⟨#[]⟩] 28)).alloc (.cells #[.string ⟨#[]⟩, .string ⟨#[]⟩, .string ⟨#[]⟩, .string ⟨#[]⟩, .string ⟨#[]⟩, .string ⟨#[]⟩] 28) = w3 := ⟨_, rfl⟩
  rw [hW3]
  obtain ⟨NB, hNB⟩ : ∃ NB, w2.heap.size = NB := ⟨_, rfl⟩
  rw [hNB]
  have hn3 : w3.heap[NB]? = some (.cells (strV (List.replicate 6 ⟨#[]⟩)).toArray 28 (0, 0)) := by
    rw [← hW3, Below.heap_alloc _ _ _ (by simp; omega)]; exact heap_alloc_at _ _ _ hNB
  have hl3 : w3.heap[NB + 1]? = some (.cells (strV (List.replicate 6 ⟨#[]⟩)).toArray 28 (0, 0)) := by
    rw [← hW3]; exact heap_alloc_at _ _ _ (by simp; omega)
  have hg3 : w2.grownBy w3 none := by rw [← hW3]; exact grownBy_alloc' (World.grownBy_alloc _ _ _) _
  have hsn : w.heap.size ≤ NB := by rw [← hNB]; exact G2.out.size
  have HD3 := Lib.hid (KDisk.more D2.out hg3 (Y := [NB, NB + 1]) (by intro i hi; simp at hi; right; omega))
  have HG3 := Lib.hid (grownBy_trans G2.out hg3)
  have HNB := Lib.hid hsn
  have HX3 := Lib.hid (And.intro hn3 hl3)
  clear hn3 hl3 hg3 hsn hNB hW3 D2 G2
  have HFT : Hid (∀ w : World, Calls Try.prog 6 #[.string ⟨#[]⟩] w fun e w' => e = .returned (.string (fullT ⟨#[]⟩)) ∧ w = w') := fun w => full_any ⟨#[]⟩ (by decide) w
  obtain ⟨T0, hT0⟩ : ∃ T0, fullT ⟨#[]⟩ = T0 := ⟨_, rfl⟩
  rw [hT0] at HFT
  have HT0 := Lib.hid hT0
  clear hT0
  go_loopw [7] (fun iv wr => ∃ (k : Nat) (L M : List ByteArray), k ≤ 6 ∧ iv = .int .i64 k ∧ Hid (L.length = 6 ∧ M.length = 6) ∧ Hid (∀ j, j < k → L[j]? = some T0 ∧ M[j]? = some T0) ∧ Hid (wr.heap[NB]? = some (.cells (strV L).toArray 28 (0, 0)) ∧ wr.heap[NB + 1]? = some (.cells (strV M).toArray 28 (0, 0))) ∧ Hid (Turn (fun i => i = NB ∨ i = NB + 1) w3 wr)) (fun iv _ => 6 - (intOf iv).toNat)
  case atStart => exact ⟨0, _, _, by decide, rfl, by show _ ∧ _; exact ⟨List.length_replicate, List.length_replicate⟩, fun j h => absurd h (by omega), HX3.out, Turn.refl _ _⟩
  case round =>
    obtain ⟨k, L, M, hk, rfl, HLL, HLK, HL, HTN⟩ := hrel
    by_cases hlt : k < 6
    · have d1 : (k : Int) < 6 := by omega
      have d0 : (0 : Int) ≤ (k : Int) := by omega
      have hlk : k < L.length := by have := HLL.out; omega
      have hmk : k < M.length := by have := HLL.out; omega
      have f0 : wr.frozen? ⟨NB, k, none⟩ = false := free_of HL.out.1 k
      have c0 : wr.cell? ⟨NB, k, none⟩ = some (.string L[k]) := by rw [cell_of HL.out.1, List.getElem?_toArray, strV_at L k hlk]
      have hn1 : (wr.setCell ⟨NB, k, none⟩ (.string T0)).heap[NB]? = some (.cells (strV (L.set k T0)).toArray 28 (0, 0)) := by rw [← strV_set]; exact heap_setCell HL.out.1 k _
      have hm1 : (wr.setCell ⟨NB, k, none⟩ (.string T0)).heap[NB + 1]? = some (.cells (strV M).toArray 28 (0, 0)) := (heap_setCell_ne _ _ _ _ (by omega)).trans HL.out.2
      have c1 : (wr.setCell ⟨NB, k, none⟩ (.string T0)).cell? ⟨NB, k, none⟩ = some (.string T0) := by rw [cell_of hn1, List.getElem?_toArray, strV_at _ k (by rw [List.length_set]; exact hlk)]; simp
      have c2 : (wr.setCell ⟨NB, k, none⟩ (.string T0)).cell? ⟨NB + 1, k, none⟩ = some (.string M[k]) := by rw [cell_of hm1, List.getElem?_toArray, strV_at M k hmk]
      have f2 : (wr.setCell ⟨NB, k, none⟩ (.string T0)).frozen? ⟨NB + 1, k, none⟩ = false := free_of hm1 k
      have HN1 := Lib.hid (And.intro hn1 hm1)
      clear hn1 hm1
      go_wp2_with (go_at_call 6; (with_reducible refine (HFT.out _).mono ?_); rintro e w6 ⟨rfl, rfl⟩)
      go_roundw
      case rel =>
        refine ⟨k + 1, L.set k T0, M.set k T0, by omega, by go_num, by show _ ∧ _; rw [List.length_set, List.length_set]; exact HLL.out, fun j hj => ?_, ⟨(heap_setCell_ne _ _ _ _ (by omega)).trans HN1.out.1, ?_⟩, (HTN.out.setCell (fun _ => .inl rfl) _ _).setCell (fun _ => .inr rfl) _ _⟩
        · by_cases hjk : k = j
          · subst hjk; rw [List.getElem?_set_self hlk, List.getElem?_set_self hmk]; exact ⟨rfl, rfl⟩
          · rw [List.getElem?_set_ne hjk, List.getElem?_set_ne hjk]; exact HLK.out j (by omega)
        · rw [← strV_set]
          exact heap_setCell HN1.out.2 k _
      case measure => simp [intOf]; omega
    · have hk6 : k = 6 := by omega
      have d1 : ¬ (k : Int) < 6 := by omega
      have hL : L = nowL 6 (newD 6) := by
        rw [nowL_new 6 6 (Nat.le_refl _)]
        apply List.ext_getElem?
        intro j
        by_cases hj : j < 6
        · rw [(HLK.out j (by omega)).1, List.getElem?_replicate, if_pos hj, HT0.out]
        · rw [List.getElem?_eq_none (by have := HLL.out; omega), List.getElem?_eq_none (by simp; omega)]
      have hM : M = nowL 6 (newD 6) := by
        rw [nowL_new 6 6 (Nat.le_refl _)]
        apply List.ext_getElem?
        intro j
        by_cases hj : j < 6
        · rw [(HLK.out j (by omega)).2, List.getElem?_replicate, if_pos hj, HT0.out]
        · rw [List.getElem?_eq_none (by have := HLL.out; omega), List.getElem?_eq_none (by simp; omega)]
      subst hL
      subst hM
      clear HLK HLL HFT HT0 hk6
      go_upto_region 17 with fail
      obtain ⟨AB, hAB⟩ : ∃ AB, wr.heap.size = AB := ⟨_, rfl⟩
      obtain ⟨W4, hW4⟩ : ∃ W4, (((wr.alloc (.cells #[.slice none 0 0] 30)).alloc (.cells #[.slice none 0 0] 31)).alloc (.cells #[.bool false] 4)).alloc (.cells #[.int .i64 (-1)] 3) = W4 := ⟨_, rfl⟩
      have hs0 : NB + 1 < wr.heap.size := (Array.getElem?_eq_some_iff.1 HL.out.2).1
      have hg4 : wr.grownBy W4 none := by rw [← hW4]; exact grownBy_alloc' (grownBy_alloc' (grownBy_alloc' (World.grownBy_alloc _ _ _) _) _) _
      have hP : PlS w W4 ⟨AB, NB + 1, AB + 1, NB, AB + 1 + 1, AB + 1 + 1 + 1⟩ b (.slice none 0 0) (.slice none 0 0) (newD 6) 0 [] := by
        have e4 : ∀ i, i < AB + 3 → W4.heap[i]? = (((wr.alloc (.cells #[.slice none 0 0] 30)).alloc (.cells #[.slice none 0 0] 31)).alloc (.cells #[.bool false] 4)).heap[i]? := fun i hi => by rw [← hW4]; exact Below.heap_alloc _ _ _ (by simp; omega)
        have e3 : ∀ i, i < AB + 2 → W4.heap[i]? = ((wr.alloc (.cells #[.slice none 0 0] 30)).alloc (.cells #[.slice none 0 0] 31)).heap[i]? := fun i hi => (e4 i (by omega)).trans (Below.heap_alloc _ _ _ (by simp; omega))
        have e2 : ∀ i, i < AB + 1 → W4.heap[i]? = (wr.alloc (.cells #[.slice none 0 0] 30)).heap[i]? := fun i hi => (e3 i (by omega)).trans (Below.heap_alloc _ _ _ (by simp; omega))
        have hl6 : (newD 6).last.length = 6 := by decide
        have hno : nowT 6 (newD 6).last (newD 6).wait = nowL 6 (newD 6) := rfl
        have hla : lastL (newD 6).last = nowL 6 (newD 6) := by rw [← hno]; exact (nowT_nil _ hl6).symm
        have hx : xsP ⟨AB, NB + 1, AB + 1, NB, AB + 1 + 1, AB + 1 + 1 + 1⟩ (.slice none 0 0) (.slice none 0 0) = [AB, NB + 1, AB + 1, NB, AB + 1 + 1, AB + 1 + 1 + 1] := by simp [xsP, ownO, Value.ownBlock, PlB.all]
        refine ⟨⟨⟨?_, ?_, ?_, ?_, ?_, ?_, ?_, ?_⟩, World.ownsRow_nil _ _ _ _, World.ownsRow_nil _ _ _ _, fun g e => by simp [Value.ownBlock] at e, fun g e => by simp [Value.ownBlock] at e, fun g e => by simp [Value.ownBlock] at e, ?_⟩, ?_, ?_, ⟨hl6, by decide, by decide, by decide, Nat.le_refl _⟩, fun z hz => by cases hz⟩
        · show W4.heap[AB]? = _
          rw [e2 AB (by omega)]; exact heap_alloc_at _ _ _ hAB
        · show W4.heap[AB + 1]? = _
          rw [e3 (AB + 1) (by omega)]; exact heap_alloc_at _ _ _ (by simp; omega)
        · show W4.heap[NB + 1]? = _
          rw [hla]; exact hg4.heap HL.out.2 (by simp)
        · show W4.heap[NB]? = _
          rw [hno]; exact hg4.heap HL.out.1 (by simp)
        · show W4.heap[AB + 1 + 1]? = _
          rw [e4 (AB + 1 + 1) (by omega)]; exact heap_alloc_at _ _ _ (by simp; omega)
        · show W4.heap[AB + 1 + 1 + 1]? = _
          rw [← hW4]; exact heap_alloc_at _ _ _ (by simp; omega)
        · simp [PlB.all]; omega
        · rw [hno]; exact nowL_length 6 _
        · intro i hi
          have := HNB.out
          simp [PlB.all] at hi
          omega
        · rw [hx]
          refine KDisk.turnM (HD3.out.turn HTN.out (fun i _ e => by rcases e with rfl | rfl <;> simp)) (S := fun _ => False) (Turn.of_grown hg4) (fun _ _ q => q.elim) (fun i hi => ?_)
          simp at hi ⊢
          omega
        · exact (HTN.out.below (below_grownBy HG3.out) HG3.out.size (fun i hi q => by have := HNB.out; omega)).trans (below_grownBy hg4 |>.mono (by have := HG3.out.size; have := HTN.out.size; omega))
      rw [hW4, hAB]
      have HP := Lib.hid hP
      clear hP hg4 hs0 hW4 hAB HL HTN HD3 HG3 HX3 HNB
      generalize AB + 1 + 1 + 1 = FB at HP ⊢
      generalize AB + 1 + 1 = OB at HP ⊢
      generalize AB + 1 = TB at HP ⊢
      generalize NB + 1 = LB at HP ⊢
      obtain ⟨lv0, hlv0⟩ : ∃ v, Value.slice none 0 0 = v := ⟨_, rfl⟩
      have HLT : Hid (LateAt w (.slice none 0 0) (newD 6)) := Lib.hid (fun h => by have h2 : (0 : Int) ≤ -1 := h; omega)
      clear hlv0 lv0
      go_upto_block 2 with (fail)
      go_cut [3, 12, 14] (fun bv _ _ wx => ∃ (b : Nat) (av tv : Value) (D : DiskS), bv = .pointer (some ⟨b, 0, none⟩) ∧ Hid (PlS w wx ⟨AB, LB, TB, NB, OB, FB⟩ b av tv D 70 []))
      case first =>
        go_wp2_with fail
        go_loopw [3, 12, 14] (fun bv lw iv wx => ∃ (i b : Nat) (av tv lv : Value) (D : DiskS), bv = .pointer (some ⟨b, 0, none⟩) ∧ lv = lw ∧ iv = .int .i64 i ∧ i ≤ an ∧ i ≤ 70 ∧ Hid (PlS w wx ⟨AB, LB, TB, NB, OB, FB⟩ b av tv D i []) ∧ Hid (LateAt w lv D)) (fun _ _ iv _ => 70 - (intOf iv).toNat)
        case atStart => exact ⟨0, b, _, _, _, newD 6, rfl, rfl, rfl, Nat.zero_le _, by decide, HP.out, HLT.out⟩
        case round =>
          obtain ⟨i, b, av, tv, lv, D, rfl, rfl, rfl, hi1, hi2, HS, HL⟩ := hrel
          by_cases hlm : i < an ∧ i < 70
          · obtain ⟨hm1, hm2⟩ := hlm
            have q1 : (i : Int) < (an : Int) := by omega
            have q2 : (i : Int) < 70 := by omega
            have q0 : (0 : Int) ≤ (i : Int) := by omega
            have hil : i < A.length := by have := HAL.out; omega
            obtain ⟨x, hx⟩ : ∃ x, A[i] = x := ⟨_, rfl⟩
            have hxo := HO.out x (by rw [← hx]; exact List.getElem_mem hil)
            obtain ⟨g, o, kv, rfl, x0, x1, x2, x3, x4, hgn, xk⟩ : ∃ g o kv, aa = some ⟨g, o, none⟩ ∧ wr.cell? ⟨g, o + i * 5, none⟩ = some (.int .i64 x.what) ∧ wr.cell? ⟨g, o + i * 5 + 1, none⟩ = some (.int .i64 x.at_) ∧ wr.cell? ⟨g, o + i * 5 + 2, none⟩ = some (.int .i64 x.n) ∧ wr.cell? ⟨g, o + i * 5 + 3, none⟩ = some (.string x.text) ∧ wr.cell? ⟨g, o + i * 5 + 4, none⟩ = some kv ∧ g < w.heap.size ∧ ∃ ka kc, kv = .slice ka x.keep.length kc ∧ BytesAt w kv x.keep ∧ x.keep.length ≤ 140737488351232 ∧ (0 < x.keep.length → ∀ g o, ka = some ⟨g, o, none⟩ → g < w.heap.size) := by
              obtain ⟨a', c', e, h⟩ := HA.out
              injection e with e1 _ _
              obtain ⟨g, o, kv, e2, h0, h1, h2, h3, h4, h5⟩ := h i hil
              rw [hx] at h0 h1 h2 h3 h5
              have hb := HS.out.bel
              exact ⟨g, o, kv, by rw [e1, e2], (hb.cell (p := ⟨g, _, none⟩) (cell_lt h0)).trans h0, (hb.cell (p := ⟨g, _, none⟩) (cell_lt h1)).trans h1, (hb.cell (p := ⟨g, _, none⟩) (cell_lt h2)).trans h2, (hb.cell (p := ⟨g, _, none⟩) (cell_lt h3)).trans h3, (hb.cell (p := ⟨g, _, none⟩) (cell_lt h4)).trans h4, cell_lt h0, h5⟩
            obtain ⟨ka, kc, rfl, xk⟩ := xk
            have HXK := Lib.hid (And.intro hxo xk)
            clear hil hx hxo xk hgn
            obtain ⟨xw, xa, xn, xt, xks⟩ := x
            obtain ⟨kn, hkn⟩ : ∃ kn, xks.length = kn := ⟨_, rfl⟩
            dsimp only at x0 x1 x2 x3 x4 HXK
            rw [hkn] at x4 HXK
            have HKN := Lib.hid hkn
            clear hkn
            go_upto_region 21 with fail
            obtain ⟨W, hW⟩ : ∃ W, wr.alloc (.cells #[.int .i64 xw, .int .i64 xa, .int .i64 xn, .string xt, .slice ka kn kc] 36) = W := ⟨_, rfl⟩
            obtain ⟨XB, hXB⟩ : ∃ XB, wr.heap.size = XB := ⟨_, rfl⟩
            rw [hW, hXB]
            have hgW : wr.grownBy W none := by rw [← hW]; exact World.grownBy_alloc _ _ _
            have hbW : W.heap[XB]? = some (.cells #[.int .i64 xw, .int .i64 xa, .int .i64 xn, .string xt, .slice ka kn kc] 36 (0, 0)) := by rw [← hW]; exact heap_alloc_at _ _ _ hXB
            have HSW := Lib.hid (HS.out.box hgW XB (by omega) (Array.getElem?_eq_some_iff.1 hbW).1)
            have HB := Lib.hid hbW
            have y0 : W.cell? ⟨XB, 0, none⟩ = some (.int .i64 xw) := by rw [cell_of hbW]; rfl
            have y1 : W.cell? ⟨XB, 1, none⟩ = some (.int .i64 xa) := by rw [cell_of hbW]; rfl
            have y3 : W.cell? ⟨XB, 3, none⟩ = some (.string xt) := by rw [cell_of hbW]; rfl
            clear hgW hbW hW hXB x0 x1 x2 x3 x4 HS
            go_cut [16] (fun sv wy => ∃ t : ByteArray, t.size ≤ 70 ∧ sv = .string t ∧ W = wy)
            case first =>
              have hxt := HXK.out.1.t
              dsimp only at hxt
              unfold maxLen at hxt
              by_cases hz : xt.size ≤ 70
              · have hz2 : (xt.size : Int) ≤ 70 := by omega
                go_wp2_with fail
                go_meet
                case rel => exact ⟨_, by first | exact hz | (rw [ByteArray.size_extract]; omega), rfl, rfl⟩
              · have hz2 : ¬ (xt.size : Int) ≤ 70 := by omega
                have hz3 : (70 : Int) < (xt.size : Int) := by omega
                have hz4 : (70 : Int) ≤ (xt.size : Int) := by omega
                go_wp2_with fail
                go_meet
                case rel => exact ⟨_, by rw [ByteArray.size_extract]; omega, rfl, rfl⟩
            case rest =>
              obtain ⟨t, ht, rfl, rfl⟩ := hcut
              clear y3
              go_upto_region 22 with fail
              go_cut [17] (fun iv wy => ∃ ib : Bool, iv = .bool ib ∧ Hid (ib = decide (0 ≤ xa ∧ xa < 6)) ∧ W = wy)
              case first =>
                by_cases h0 : 0 ≤ xa
                · by_cases h6 : xa < 6
                  · go_wp2_with fail
                    go_meet
                    case rel => exact ⟨_, rfl, by show _ = _; rw [decide_eq_true (And.intro h0 h6)], rfl⟩
                  · go_wp2_with fail
                    go_meet
                    case rel => exact ⟨_, rfl, by show _ = _; rw [decide_eq_false (fun h => absurd h.2 (by omega))], rfl⟩
                · go_wp2_with fail
                  go_meet
                  case rel => exact ⟨_, rfl, by show _ = _; rw [decide_eq_false (fun h => absurd h.1 (by omega))], rfl⟩
              case rest =>
                obtain ⟨ib, rfl, HIB, rfl⟩ := hcut
                obtain ⟨q, hq, hq8⟩ : ∃ q : Nat, Int.tmod (Int.tmod xw 8 + 8) 8 = (q : Int) ∧ q < 8 := by
                  have h1 := Int.tmod_lt_of_pos xw (show (0 : Int) < 8 by decide)
                  have h2 : -8 < Int.tmod xw 8 := by
                    rcases Int.le_total 0 xw with h | h
                    · have := Int.tmod_nonneg 8 h; omega
                    · have := Int.tmod_lt_of_pos (-xw) (show (0 : Int) < 8 by decide)
                      rw [Int.neg_tmod] at this
                      omega
                  have h3 := Int.tmod_nonneg 8 (show (0 : Int) ≤ Int.tmod xw 8 + 8 by omega)
                  have h4 := Int.tmod_lt_of_pos (Int.tmod xw 8 + 8) (show (0 : Int) < 8 by decide)
                  exact ⟨(Int.tmod (Int.tmod xw 8 + 8) 8).toNat, by omega, by omega⟩
                have r0 : IntKind.i64.wrap (Int.tmod xw 8) = Int.tmod xw 8 := IntWalk.i64_in _ (by have := tm8 xw; omega)
                have r1 : IntKind.i64.wrap (Int.tmod xw 8 + 8) = Int.tmod xw 8 + 8 := IntWalk.i64_in _ (by have := tm8 xw; omega)
                go_upto_block 4 with fail
                go_cut [3, 12, 18, 19, 20, 21] from 46 to 198 (fun bv lw sv gv _ _ wy => ∃ (b : Nat) (av tv lv : Value) (D : DiskS) (r : Int), bv = .pointer (some ⟨b, 0, none⟩) ∧ lv = lw ∧ sv = .int .i64 r ∧ gv = .int .i64 r ∧ Hid (PlS w wy ⟨AB, LB, TB, NB, OB, FB⟩ b av tv D (i + 1) [XB]) ∧ Hid (LateAt w lv D))
                case first =>
                  have hqq : q = 2 ∨ q = 3 ∨ q = 4 ∨ q = 5 ∨ q = 6 ∨ q = 7 ∨ q ≤ 1 := by omega
                  have HM := Lib.hid HSW.out.mem
                  have o0 : W.cell? ⟨OB, 0, none⟩ = some (.bool (!D.on)) := by rw [cell_of HM.out.box.o]; rfl
                  have hf0 : W.cell? ⟨FB, 0, none⟩ = some (.int .i64 D.fuse) := by rw [cell_of HM.out.box.f]; rfl
                  have hi1k : i ≤ 1000 := by omega
                  clear r0 r1 hq8
                  rcases hqq with rfl | rfl | rfl | rfl | rfl | rfl | hq1
                  · as_aux_lemma =>
                    rw [show ((2 : Nat) : Int) = 2 from rfl] at hq
                    (try rw [hq])
                    by_cases hon : D.on = true
                    · rw [hon] at o0
                      by_cases hin : 0 ≤ xa ∧ xa < 6
                      · obtain rfl : ib = true := HIB.out.trans (decide_eq_true hin)
                        obtain ⟨j, rfl⟩ : ∃ j : Nat, xa = (j : Int) := ⟨xa.toNat, by omega⟩
                        have hj6 : j < 6 := by omega
                        have HRD := Lib.hid (read_ok _ b j D W HSW.out.disk hon (by rw [HSW.out.ok.len]; exact hj6) (by have := HSW.out.ok.wl; omega))
                        have hnw := nowT_at 6 D.last D.wait j hj6
                        have n0 : W.cell? ⟨NB, j, none⟩ = some (.string (str (readL D.last D.wait j))) := by rw [cell_of HM.out.box.n, List.getElem?_toArray, strV, List.getElem?_map, hnw]; rfl
                        generalize str (readL D.last D.wait j) = RR at HRD n0
                        have hrr : (RR.toList == RR.toList) = true := by simp
                        have j0 : (0 : Int) ≤ (j : Int) := by omega
                        have j6 : (j : Int) < 6 := by omega
                        clear hin hnw
                        go_wp2_with fail
                        refine HRD.out.mono ?_
                        rintro e w5 ⟨rfl, g5⟩
                        have o5 := g5.cell o0 (by simp)
                        have n5 := g5.cell n0 (by simp)
                        have y5 := g5.cell y1 (by simp)
                        have HS5 := Lib.hid (HSW.out.grown g5)
                        clear g5 HRD
                        go_wp2_with fail
                        go_meet
                        case rel => exact ⟨b, av, tv, lv, D, 0, rfl, rfl, rfl, rfl, HS5.out.more, HL.out⟩
                      · obtain rfl : ib = false := HIB.out.trans (decide_eq_false hin)
                        have HRD := Lib.hid (read_out _ b D xa W HSW.out.disk hon (by rw [HSW.out.ok.len]; omega))
                        clear hin
                        go_wp2_with fail
                        refine HRD.out.mono ?_
                        rintro e w5 ⟨rfl, g5⟩
                        have o5 := g5.cell o0 (by simp)
                        have y5 := g5.cell y1 (by simp)
                        have HS5 := Lib.hid (HSW.out.grown g5)
                        clear g5 HRD
                        go_wp2_with fail
                        go_meet
                        case rel => exact ⟨b, av, tv, lv, D, 10, rfl, rfl, rfl, rfl, HS5.out.more, HL.out⟩
                    · have hof : D.on = false := by simpa using hon
                      rw [hof] at o0
                      have HRD := Lib.hid (read_off _ b D xa W HSW.out.disk hof)
                      go_wp2_with fail
                      refine HRD.out.mono ?_
                      rintro e w5 ⟨rfl, g5⟩
                      have o5 := g5.cell o0 (by simp)
                      have y5 := g5.cell y1 (by simp)
                      have HS5 := Lib.hid (HSW.out.grown g5)
                      clear g5 HRD
                      go_wp2_with fail
                      go_meet
                      case rel => exact ⟨b, av, tv, lv, D, 8, rfl, rfl, rfl, rfl, HS5.out.more, HL.out⟩
                  · as_aux_lemma =>
                    rw [show ((3 : Nat) : Int) = 3 from rfl] at hq
                    (try rw [hq])
                    by_cases hon : D.on = true
                    · rw [hon] at o0
                      by_cases hfz : D.fuse = 0
                      · obtain ⟨la, lc, rfl, hlb, hlg⟩ := HL.out (by omega)
                        have hkl := HSW.out.ok.kl
                        have HSY := Lib.hid (sync_power_k HSW.out.disk hon (by rw [HSW.out.ok.len]; decide) hfz (by omega) (by have := HSW.out.ok.wl; omega))
                        have HCU := Lib.hid (fun w5 t5 hd => HSW.out.cut (w5 := w5) hi1k t5 D.keep la D.keep.length lc hlb hkl hlg hd)
                        have HKL := Lib.hid hkl
                        obtain ⟨K0, hK0⟩ : ∃ K0, D.keep.length = K0 := ⟨_, rfl⟩
                        rw [hK0] at HCU ⊢
                        rw [hfz] at hf0
                        clear hlb hlg hkl hK0
                        dsimp only at HCU
                        go_wp2_with fail
                        refine HSY.out.mono ?_
                        rintro e w5 ⟨rfl, hd5, t5⟩
                        have hM5 := HSW.out.mem5 t5
                        have o5 : w5.cell? ⟨OB, 0, none⟩ = some (.bool (!true)) := by rw [cell_of hM5.box.o, hon]; rfl
                        have f5 : w5.cell? ⟨FB, 0, none⟩ = some (.int .i64 0) := by rw [cell_of hM5.box.f, hfz]; rfl
                        have HC5 := Lib.hid (HCU.out w5 t5 hd5)
                        clear hd5 t5 hM5 HSY HCU
                        go_wp2_with fail
                        refine HC5.out.mono ?_
                        rintro e w6 ⟨rfl, hS6⟩
                        have HS6 := Lib.hid hS6
                        clear hS6 HC5 o5 f5
                        go_wp2_with fail
                        go_meet
                        case rel => exact ⟨b, _, _, _, cutD D D.keep, 8, rfl, rfl, rfl, rfl, HS6.out.more, fun h => by have h2 : (0 : Int) ≤ -1 := h; omega⟩
                      · have hok := HSW.out.ok
                        have HSY := Lib.hid (sync_k HSW.out.disk hon (by rw [HSW.out.ok.len]; decide) hfz hok.f2 (by have := HSW.out.ok.wl; omega))
                        have hmx : max (D.fuse - 1) (-1) = decF D.fuse := by have := hok.f1; unfold decF; split <;> omega
                        have hwr : IntKind.i64.wrap (D.fuse - 1) = D.fuse - 1 := IntWalk.i64_in _ (by have := hok.f1; have := hok.f2; omega)
                        have hfb : (D.fuse == 0) = false := by simp [hfz]
                        have HOK : Hid (PlD { D with fuse := decF D.fuse } i) := Lib.hid ⟨hok.len, by show -1 ≤ decF D.fuse; have := hok.f1; unfold decF; split <;> omega, by show decF D.fuse ≤ _; have := hok.f2; unfold decF; split <;> omega, hok.kl, hok.wl⟩
                        obtain ⟨n0, n1, n2, n3, n4, n5, hn6⟩ := six (nowT_len 6 D.last D.wait)
                        have HN6 := Lib.hid hn6
                        clear hok hn6
                        go_wp2_with fail
                        refine HSY.out.mono ?_
                        rintro e w5 ⟨rfl, hd5, t5⟩
                        have hM5 := HSW.out.mem5 t5
                        have o5 : w5.cell? ⟨OB, 0, none⟩ = some (.bool (!true)) := by rw [cell_of hM5.box.o, hon]; rfl
                        have f5 : w5.cell? ⟨FB, 0, none⟩ = some (.int .i64 D.fuse) := by rw [cell_of hM5.box.f]; rfl
                        have z5 := free_of hM5.box.f 0
                        have hlt : LateAt w lv (syncD { D with fuse := decF D.fuse }) := fun h0 => HL.out (by have h1 : (0 : Int) ≤ decF D.fuse := h0; unfold decF at h1; split at h1 <;> omega)
                        have hbd := six_nd hM5.box.nd
                        obtain ⟨V5, hV5⟩ : ∃ V5, w5.setCell ⟨FB, 0, none⟩ (.int .i64 (decF D.fuse)) = V5 := ⟨_, rfl⟩
                        have hFM := hM5.setF (decF D.fuse)
                        have HFIN := Lib.hid (PlS.synced (nowc := #[.string n0, .string n1, .string n2, .string n3, .string n4, .string n5]) HSW.out t5 hd5 HOK.out hV5 (by rw [HN6.out]; rfl) rfl rfl rfl)
                        dsimp only at hFM hbd HFIN
                        rw [hV5] at hFM
                        have HI6 : Hid ((Try.prog.info? 28).map (·.size) = some (#[Value.string n0, .string n1, .string n2, .string n3, .string n4, .string n5] : Array Value).size) := by show _ = _; kernel_rfl
                        have HI1 : Hid ((Try.prog.info? 30).map (·.size) = some 1 ∧ (Try.prog.info? 31).map (·.size) = some 1) := by show _ ∧ _; exact ⟨by kernel_rfl, by kernel_rfl⟩
                        have HO6 : Hid ((#[Value.string n0, .string n1, .string n2, .string n3, .string n4, .string n5] : Array Value).all (·.oneCell') = true) := by show _ = _; simp [Value.oneCell']
                        have HSZ : Hid ((strV (lastL D.last)).toArray.size = (#[Value.string n0, .string n1, .string n2, .string n3, .string n4, .string n5] : Array Value).size) := by show _ = _; simp [strV, lastL, HSW.out.ok.len]
                        have HRA : Hid (V5.rangeAt NB 0 [.string n0, .string n1, .string n2, .string n3, .string n4, .string n5]) := by
                          intro j v hv
                          have hx := hFM.box.n
                          rw [HN6.out] at hx
                          rw [cell_of hx, List.getElem?_toArray, Nat.zero_add]
                          exact hv
                        have HH : Hid (V5.heap[LB]? = some (.cells (strV (lastL D.last)).toArray 28 (0, 0)) ∧ (V5.setRow LB #[.string n0, .string n1, .string n2, .string n3, .string n4, .string n5]).heap[AB]? = some (.cells #[av] 30 (0, 0)) ∧ ((V5.setRow LB #[.string n0, .string n1, .string n2, .string n3, .string n4, .string n5]).setRow AB #[.slice none 0 0]).heap[TB]? = some (.cells #[tv] 31 (0, 0))) :=
                          Lib.hid ⟨hFM.box.l, (setRow_other _ _ _ _ hbd.1.1).trans hFM.box.a, (setRow_other _ _ _ _ hbd.1.2.1.symm).trans ((setRow_other _ _ _ _ hbd.2.1.1.symm).trans hFM.box.t)⟩
                        have HLA := Lib.hid hlt
                        have HVV := Lib.hid hV5
                        clear hd5 t5 hM5 HSY hlt hbd hFM hV5
                        by_cases hneg : D.fuse < 0
                        · have he : D.fuse = -1 := by have := HSW.out.ok.f1; omega
                          have hde : decF D.fuse = -1 := by rw [he]; rfl
                          rw [hde] at HVV
                          rw [he] at f5
                          clear hf0 hmx hwr hfb hneg
                          go_upto_region 55 with fail
                          rw [HVV.out]
                          apply wp_region_lit
                          refine wpList_load_mid rfl 28 (.tmp 5) rfl NB 0 rfl [.string n0, .string n1, .string n2, .string n3, .string n4, .string n5] _ HRA.out Try.underlying28 rfl HI6.out ?_
                          refine wpList_store_rowTo rfl 28 (.tmp 6) (.tmp 158) rfl rfl LB #[.string n0, .string n1, .string n2, .string n3, .string n4, .string n5] rfl rfl _ _ HH.out.1 HI6.out HSZ.out HO6.out ?_
                          refine wpList_store_oneTo rfl 30 (.tmp 8) _ rfl rfl AB (.slice none 0 0) rfl rfl rfl _ _ HH.out.2.1 HI1.out.1 ?_
                          refine wpList_store_oneTo rfl 31 (.tmp 9) _ rfl rfl TB (.slice none 0 0) rfl rfl rfl _ _ HH.out.2.2 HI1.out.2 ?_
                          go_wp2_with fail
                          go_meet
                          case rel => exact ⟨b, _, _, lv, syncD { D with fuse := decF D.fuse }, 0, rfl, rfl, rfl, rfl, HFIN.out.more, HLA.out⟩
                        · have hp : 1 ≤ D.fuse := by omega
                          have hde : decF D.fuse = D.fuse - 1 := by unfold decF; rw [if_neg (by omega)]
                          rw [hde] at HVV
                          have m1 : ¬ (D.fuse - 1 < -1) := by omega
                          have m2 : -1 ≤ D.fuse - 1 := by omega
                          have m3 : ¬ (D.fuse - 1 ≤ -1) := by omega
                          clear hf0 hmx hneg
                          go_upto_region 55 with fail
                          rw [HVV.out]
                          apply wp_region_lit
                          refine wpList_load_mid rfl 28 (.tmp 5) rfl NB 0 rfl [.string n0, .string n1, .string n2, .string n3, .string n4, .string n5] _ HRA.out Try.underlying28 rfl HI6.out ?_
                          refine wpList_store_rowTo rfl 28 (.tmp 6) (.tmp 158) rfl rfl LB #[.string n0, .string n1, .string n2, .string n3, .string n4, .string n5] rfl rfl _ _ HH.out.1 HI6.out HSZ.out HO6.out ?_
                          refine wpList_store_oneTo rfl 30 (.tmp 8) _ rfl rfl AB (.slice none 0 0) rfl rfl rfl _ _ HH.out.2.1 HI1.out.1 ?_
                          refine wpList_store_oneTo rfl 31 (.tmp 9) _ rfl rfl TB (.slice none 0 0) rfl rfl rfl _ _ HH.out.2.2 HI1.out.2 ?_
                          go_wp2_with fail
                          go_meet
                          case rel => exact ⟨b, _, _, lv, syncD { D with fuse := decF D.fuse }, 0, rfl, rfl, rfl, rfl, HFIN.out.more, HLA.out⟩
                    · have hof : D.on = false := by simpa using hon
                      rw [hof] at o0
                      have HRD := Lib.hid (sync_off _ b D W HSW.out.disk hof)
                      go_wp2_with fail
                      refine HRD.out.mono ?_
                      rintro e w5 ⟨rfl, hw5⟩
                      subst hw5
                      clear HRD
                      go_wp2_with fail
                      go_meet
                      case rel => exact ⟨b, av, tv, lv, D, 8, rfl, rfl, rfl, rfl, HSW.out.more, HL.out⟩
                  · as_aux_lemma =>
                    rw [show ((4 : Nat) : Int) = 4 from rfl] at hq
                    (try rw [hq])
                    have y2 : W.cell? ⟨XB, 2, none⟩ = some (.int .i64 xn) := by rw [cell_of HB.out]; rfl
                    have y4 : W.cell? ⟨XB, 4, none⟩ = some (.slice ka kn kc) := by rw [cell_of HB.out]; rfl
                    have HCK := Lib.hid (fuse_k0 HSW.out.xl HSW.out.bel.size xn ka kn kc xks HSW.out.disk (bytes_below HXK.out.2.1 HSW.out.bel HXK.out.2.2.2) HXK.out.2.2.1 HXK.out.2.2.2)
                    have hkn := HKN.out
                    have hfd : (fuseD D xn xks).last = D.last ∧ (fuseD D xn xks).wait = D.wait ∧ (fuseD D xn xks).on = D.on ∧ max xn (-1) = (fuseD D xn xks).fuse := by
                      unfold fuseD
                      split
                      · exact ⟨rfl, rfl, rfl, by show max xn (-1) = xn; omega⟩
                      · exact ⟨rfl, rfl, rfl, by show max xn (-1) = -1; omega⟩
                    have hpd : PlD (fuseD D xn xks) i := by
                      have h1 := HXK.out.1.n1
                      have h2 := HXK.out.2.2.1
                      have h3 := HSW.out.ok
                      dsimp only at h1
                      unfold fuseD
                      split
                      · exact ⟨h3.len, by show -1 ≤ xn; omega, h1, by show xks.length ≤ _; omega, h3.wl⟩
                      · exact ⟨h3.len, by show -1 ≤ (-1 : Int); decide, by show (-1 : Int) ≤ _; decide, by show ([] : List UInt8).length ≤ _; simp, h3.wl⟩
                    have hlt : LateAt w (.slice ka kn kc) (fuseD D xn xks) := by
                      intro h0
                      unfold fuseD at h0 ⊢
                      split at h0
                      · rename_i hx0
                        rw [if_pos hx0]
                        exact ⟨ka, kc, by show _ = Value.slice ka xks.length kc; rw [hkn], HXK.out.2.1, fun hp => HXK.out.2.2.2 (by rw [← hkn]; exact hp)⟩
                      · have h2 : (0 : Int) ≤ -1 := h0
                        omega
                    have HFD := Lib.hid (And.intro hfd (And.intro hpd hlt))
                    clear hfd hpd hlt hkn
                    go_wp2_with fail
                    refine HCK.out.mono ?_
                    rintro e w5 ⟨rfl, hd5, t5⟩
                    have x5 := t5.inX (by simp) HB.out
                    have y25 : w5.cell? ⟨XB, 2, none⟩ = some (.int .i64 xn) := by rw [cell_of x5]; rfl
                    have y45 : w5.cell? ⟨XB, 4, none⟩ = some (.slice ka kn kc) := by rw [cell_of x5]; rfl
                    have hM5 := HSW.out.mem5 t5
                    have f5 : w5.cell? ⟨FB, 0, none⟩ = some (.int .i64 D.fuse) := by rw [cell_of hM5.box.f]; rfl
                    have z5 := free_of hM5.box.f 0
                    have HS6 := Lib.hid (fun f (hf : f = max xn (-1)) => (fun (h : ∀ f, f = (fuseD D xn xks).fuse → _) => h f (hf.trans HFD.out.1.2.2.2)) (HSW.out.fused t5 (fuseD D xn xks) ⟨HFD.out.1.1, HFD.out.1.2.1, HFD.out.1.2.2.1⟩ HFD.out.2.1 hd5))
                    clear hd5 t5 x5 hM5 HCK
                    go_wp2_with fail
                    go_region
                    all_goals (go_wp2_with fail)
                    all_goals
                      go_meet
                      case rel => exact ⟨b, av, tv, _, fuseD D xn xks, 0, rfl, rfl, rfl, rfl, ((HS6.out _ (by omega)).grown (grownBy_drew (World.grownBy.refl _ _))).more, HFD.out.2.2⟩
                  · as_aux_lemma =>
                    rw [show ((5 : Nat) : Int) = 5 from rfl] at hq
                    (try rw [hq])
                    have y4 : W.cell? ⟨XB, 4, none⟩ = some (.slice ka kn kc) := by rw [cell_of HB.out]; rfl
                    have HCK := Lib.hid (cut_k0 ka kc kn xks HSW.out.disk (by rw [HSW.out.ok.len]; decide) (bytes_below HXK.out.2.1 HSW.out.bel HXK.out.2.2.2) (by have := HXK.out.2.2.1; omega) (by have := HSW.out.ok.wl; omega) HXK.out.2.2.2)
                    have HCU := Lib.hid (fun w5 t5 hd => HSW.out.cut (w5 := w5) hi1k t5 xks ka kn kc HXK.out.2.1 HXK.out.2.2.1 HXK.out.2.2.2 hd)
                    dsimp only at HCU
                    go_wp2_with fail
                    refine HCK.out.mono ?_
                    rintro e w5 ⟨rfl, hd5, t5⟩
                    have x5 := t5.inX (by simp) HB.out
                    have y5 : w5.cell? ⟨XB, 4, none⟩ = some (.slice ka kn kc) := by rw [cell_of x5]; rfl
                    have HC5 := Lib.hid (HCU.out w5 t5 hd5)
                    clear hd5 t5 x5 HCK HCU
                    go_wp2_with fail
                    refine HC5.out.mono ?_
                    rintro e w6 ⟨rfl, hS6⟩
                    have HS6 := Lib.hid hS6
                    clear hS6 HC5 y5
                    go_wp2_with fail
                    go_meet
                    case rel => exact ⟨b, _, _, lv, cutD D xks, 0, rfl, rfl, rfl, rfl, HS6.out.more, fun h => by have h2 : (0 : Int) ≤ -1 := h; omega⟩
                  · as_aux_lemma =>
                    rw [show ((6 : Nat) : Int) = 6 from rfl] at hq
                    (try rw [hq])
                    have HCK := Lib.hid (start_k HSW.out.disk)
                    go_wp2_with fail
                    refine HCK.out.mono ?_
                    rintro e w5 ⟨rfl, hd5, t5⟩
                    have hM5 := HSW.out.mem5 t5
                    have o5 : w5.cell? ⟨OB, 0, none⟩ = some (.bool (!D.on)) := by rw [cell_of hM5.box.o]; rfl
                    have z5 := free_of hM5.box.o 0
                    have HS6 := Lib.hid (HSW.out.started t5 hd5)
                    clear hd5 t5 hM5 HCK
                    go_wp2_with fail
                    go_meet
                    case rel => exact ⟨b, av, tv, lv, { D with on := true }, 0, rfl, rfl, rfl, rfl, HS6.out.more, HL.out⟩
                  · as_aux_lemma =>
                    rw [show ((7 : Nat) : Int) = 7 from rfl] at hq
                    (try rw [hq])
                    have HCK := Lib.hid (copy_k HSW.out.xl HSW.out.bel.size HSW.out.disk (by rw [HSW.out.ok.len]; decide) HSW.out.ok.kl (by have := HSW.out.ok.wl; omega))
                    go_wp2_with fail
                    refine HCK.out.mono ?_
                    rintro e w5 ⟨b', rfl, hd5, g5⟩
                    have HS6 := Lib.hid (HSW.out.grown g5)
                    have HD5 := Lib.hid hd5
                    clear hd5 g5 HCK
                    go_wp2_with fail
                    go_meet
                    case rel => exact ⟨b', av, tv, lv, D, 0, rfl, rfl, rfl, rfl, ⟨HS6.out.mem, HD5.out, HS6.out.bel, ⟨HS6.out.ok.len, HS6.out.ok.f1, HS6.out.ok.f2, HS6.out.ok.kl, by have := HS6.out.ok.wl; omega⟩, HS6.out.zl⟩, HL.out⟩
                  · as_aux_lemma =>
                    have hw2 : ((q : Int) == 2) = false := by rw [beq_eq_false_iff_ne]; omega
                    have hw3 : ((q : Int) == 3) = false := by rw [beq_eq_false_iff_ne]; omega
                    have hw4 : ((q : Int) == 4) = false := by rw [beq_eq_false_iff_ne]; omega
                    have hw5 : ((q : Int) == 5) = false := by rw [beq_eq_false_iff_ne]; omega
                    have hw6 : ((q : Int) == 6) = false := by rw [beq_eq_false_iff_ne]; omega
                    have hw7 : ((q : Int) == 7) = false := by rw [beq_eq_false_iff_ne]; omega
                    by_cases hon : D.on = true
                    · rw [hon] at o0
                      by_cases hin : 0 ≤ xa ∧ xa < 6
                      · obtain rfl : ib = true := HIB.out.trans (decide_eq_true hin)
                        obtain ⟨j, rfl⟩ : ∃ j : Nat, xa = (j : Int) := ⟨xa.toNat, by omega⟩
                        have hj6 : j < 6 := by omega
                        have j0 : (0 : Int) ≤ (j : Int) := by omega
                        have j6 : (j : Int) < 6 := by omega
                        clear hin HIB
                        by_cases hlong : 64 < t.size
                        · have HWR := Lib.hid (write_long _ b D j t W HSW.out.disk hon (by rw [HSW.out.ok.len]; exact hj6) hlong)
                          have l1 : (64 : Int) < (t.size : Int) := by omega
                          clear hlong
                          go_wp2_with fail
                          refine HWR.out.mono ?_
                          rintro e w5 ⟨rfl, hw⟩
                          subst hw
                          clear HWR
                          go_wp2_with fail
                          go_meet
                          case rel => exact ⟨b, av, tv, lv, D, 2, rfl, rfl, rfl, rfl, HSW.out.more, HL.out⟩
                        · have l1 : ¬ ((64 : Int) < (t.size : Int)) := by omega
                          have hsz : t.size ≤ 64 := by omega
                          clear hlong
                          by_cases hfz : D.fuse = 0
                          · obtain ⟨la, lc, rfl, hlb, hlg⟩ := HL.out (by omega)
                            have hkl := HSW.out.ok.kl
                            have HSY := Lib.hid (write_power_k j t HSW.out.disk hon (by rw [HSW.out.ok.len]; exact hj6) hsz hfz (by omega) (by have := HSW.out.ok.wl; omega))
                            have HCU := Lib.hid (fun w5 t5 hd => HSW.out.cut (w5 := w5) hi1k t5 D.keep la D.keep.length lc hlb hkl hlg hd)
                            obtain ⟨K0, hK0⟩ : ∃ K0, D.keep.length = K0 := ⟨_, rfl⟩
                            rw [hK0] at HCU ⊢
                            rw [hfz] at hf0
                            clear hlb hlg hkl hK0
                            dsimp only at HCU
                            go_wp2_with fail
                            refine HSY.out.mono ?_
                            rintro e w5 ⟨rfl, hd5, t5⟩
                            have hM5 := HSW.out.mem5 t5
                            have o5 : w5.cell? ⟨OB, 0, none⟩ = some (.bool (!true)) := by rw [cell_of hM5.box.o, hon]; rfl
                            have f5 : w5.cell? ⟨FB, 0, none⟩ = some (.int .i64 0) := by rw [cell_of hM5.box.f, hfz]; rfl
                            have HC5 := Lib.hid (HCU.out w5 t5 hd5)
                            clear hd5 t5 hM5 HSY HCU
                            go_wp2_with fail
                            refine HC5.out.mono ?_
                            rintro e w6 ⟨rfl, hS6⟩
                            have HS6 := Lib.hid hS6
                            clear hS6 HC5 o5 f5
                            go_wp2_with fail
                            go_meet
                            case rel => exact ⟨b, _, _, _, cutD D D.keep, 8, rfl, rfl, rfl, rfl, HS6.out.more, fun h => by have h2 : (0 : Int) ≤ -1 := h; omega⟩
                          · have hok := HSW.out.ok
                            have HSY := Lib.hid (write_k HSW.out.xl HSW.out.bel.size j t HSW.out.disk hon (by rw [hok.len]; exact hj6) hsz hfz hok.f2 (by have := hok.wl; omega))
                            have hwr : IntKind.i64.wrap (D.fuse - 1) = D.fuse - 1 := IntWalk.i64_in _ (by have := hok.f1; have := hok.f2; omega)
                            have hfb : (D.fuse == 0) = false := by simp [hfz]
                            have HOK : Hid (PlD (wroteD D j t) (i + 1)) := Lib.hid ⟨hok.len, by show -1 ≤ (if D.fuse < 0 then D.fuse else D.fuse - 1); have := hok.f1; split <;> omega, by show (if D.fuse < 0 then D.fuse else D.fuse - 1) ≤ _; have := hok.f2; split <;> omega, hok.kl, by show (D.wait ++ [_]).length ≤ _; rw [List.length_append]; have := hok.wl; exact Nat.succ_le_succ this⟩
                            clear hok
                            go_wp2_with fail
                            refine HSY.out.mono ?_
                            rintro e w5 ⟨rfl, hd5, t5⟩
                            have hM5 := HSW.out.mem5 t5
                            have x5 := t5.inX (by simp) HB.out
                            have o5 : w5.cell? ⟨OB, 0, none⟩ = some (.bool (!true)) := by rw [cell_of hM5.box.o, hon]; rfl
                            have f5 : w5.cell? ⟨FB, 0, none⟩ = some (.int .i64 D.fuse) := by rw [cell_of hM5.box.f]; rfl
                            have z5 := free_of hM5.box.f 0
                            have HLA : Hid (LateAt w lv (wroteD D j t)) := Lib.hid (fun h0 => HL.out (by have h1 : (0 : Int) ≤ (if D.fuse < 0 then D.fuse else D.fuse - 1) := h0; split at h1 <;> omega))
                            obtain ⟨F5, hF5⟩ : ∃ F5, (wroteD D j t).fuse = F5 := ⟨_, rfl⟩
                            obtain ⟨V5, hV5⟩ : ∃ V5, w5.setCell ⟨FB, 0, none⟩ (.int .i64 F5) = V5 := ⟨_, rfl⟩
                            have k5 : Turn (fun i => i = FB) w5 V5 := by rw [← hV5]; exact (Turn.refl (fun i => i = FB) w5).setCell (fun _ => rfl) _ _
                            have hFM := hM5.setF F5
                            dsimp only at hFM
                            rw [hV5] at hFM
                            have hXB : XB ∉ PlB.all ⟨AB, LB, TB, NB, OB, FB⟩ := fun q => (HSW.out.zl XB (by simp)).2.2 (by simp [xsP, q])
                            have xv5 := k5.heap x5 (fun e => hXB (by rw [e]; simp [PlB.all]))
                            obtain ⟨TT, hTT⟩ : ∃ TT, fullT t = TT := ⟨_, rfl⟩
                            have HFF : Hid (∀ w : World, Calls Try.prog 6 #[.string t] w fun e w' => e = .returned (.string TT) ∧ w = w') := by rw [← hTT]; exact Lib.hid (fun w => full_any t (by omega) w)
                            have y15 : V5.cell? ⟨XB, 1, none⟩ = some (.int .i64 (j : Nat)) := by rw [cell_of xv5]; rfl
                            have hnl : j < (nowT 6 D.last D.wait).length := by rw [nowT_len]; exact hj6
                            obtain ⟨nj, nv5⟩ : ∃ nj, V5.cell? ⟨NB, j, none⟩ = some (.string nj) := ⟨(nowT 6 D.last D.wait)[j], by rw [cell_of hFM.box.n, List.getElem?_toArray, strV_at _ j hnl]⟩
                            have fv5 := free_of hFM.box.n j
                            obtain ⟨V6, hV6⟩ : ∃ V6, (V5.setCell ⟨NB, j, none⟩ (.string TT)).drew = V6 := ⟨_, rfl⟩
                            have hM6 : PlM w.heap.size V6 ⟨AB, LB, TB, NB, OB, FB⟩ av tv ((nowT 6 D.last D.wait).set j TT) (lastL D.last) D.wait (!D.on) F5 := by rw [← hV6]; exact (hFM.setN j TT).grown (grownBy_drew (World.grownBy.refl _ _))
                            have k6 : Turn (fun i => i = NB) V5 V6 := by rw [← hV6]; exact ((Turn.refl (fun i => i = NB) V5).setCell (fun _ => rfl) _ _).drew
                            have xv6 := k6.heap xv5 (fun e => hXB (by rw [e]; simp [PlB.all]))
                            obtain ⟨aa2, ac2, rfl⟩ : ∃ a c, av = .slice a D.wait.length c := by
                              obtain ⟨a, c, e, _⟩ := hM6.at_
                              exact ⟨a, c, e⟩
                            obtain ⟨ta2, tc2, rfl⟩ : ∃ a c, tv = .slice a D.wait.length c := by
                              obtain ⟨a, c, e, _⟩ := hM6.tx_
                              exact ⟨a, c, e⟩
                            have HEND : Hid (∀ (g1 c1 g2 c2 : Nat) (w8 : World), w8.ownsRow w.heap.size 3 1 (.slice (some ⟨g1, 0, none⟩) (D.wait.length + 1) c1) (D.wait.length + 1) (atV D.wait ++ [.int .i64 (j : Nat)]) → w8.ownsRow w.heap.size 9 1 (.slice (some ⟨g2, 0, none⟩) (D.wait.length + 1) c2) (D.wait.length + 1) (txV D.wait ++ [.string TT]) → Turn (rowsT (.slice aa2 D.wait.length ac2) (.slice ta2 D.wait.length tc2)) V6 w8 →
                                ((Value.slice aa2 D.wait.length ac2).ownBlock = some g1 ∨ V6.heap.size ≤ g1) → ((Value.slice ta2 D.wait.length tc2).ownBlock = some g2 ∨ V6.heap.size ≤ g2) → g1 ≠ g2 →
                                PlS w ((w8.setCell ⟨AB, 0, none⟩ (.slice (some ⟨g1, 0, none⟩) (D.wait.length + 1) c1)).setCell ⟨TB, 0, none⟩ (.slice (some ⟨g2, 0, none⟩) (D.wait.length + 1) c2)) ⟨AB, LB, TB, NB, OB, FB⟩ b (.slice (some ⟨g1, 0, none⟩) (D.wait.length + 1) c1) (.slice (some ⟨g2, 0, none⟩) (D.wait.length + 1) c2) (wroteD D j t) (i + 1) [XB]) :=
                              Lib.hid (fun g1 c1 g2 c2 w8 ra rt T8 ha ht hne => PlS.pushed (p := ⟨AB, LB, TB, NB, OB, FB⟩) (v5 := w5) (w5 := V5) (w6 := V6) HSW.out t5 hd5 HOK.out (by rw [hF5]; exact hV5) (by rw [hTT]; exact hV6) ra (by rw [hTT]; exact rt) T8
                                (fun g e => by have h1 : g1 = g := by simpa [Value.ownBlock] using e
                                               subst h1; exact ha) (fun g e => by have h1 : g2 = g := by simpa [Value.ownBlock] using e
                                                                                  subst h1; exact ht) (fun g e1 e2 => by
                                  have h1 : g1 = g := by simpa [Value.ownBlock] using e1
                                  have h2 : g2 = g := by simpa [Value.ownBlock] using e2
                                  exact hne (h1.trans h2.symm)))
                            have hwl : D.wait.length ≤ 1000 := by have := HSW.out.ok.wl; omega
                            have HOW : Hid ((∀ g, (Value.slice aa2 D.wait.length ac2).ownBlock = some g → g < V6.heap.size) ∧ (∀ g, (Value.slice ta2 D.wait.length tc2).ownBlock = some g → g < V6.heap.size) ∧ ∀ g, (Value.slice aa2 D.wait.length ac2).ownBlock = some g → (Value.slice ta2 D.wait.length tc2).ownBlock ≠ some g) :=
                              Lib.hid ⟨fun g e => (hM6.ra.lt g e).2, fun g e => (hM6.rt.lt g e).2, hM6.nat⟩
                            have hn06 : w.heap.size ≤ V6.heap.size := by have := HSW.out.bel.size; have := t5.size; have := k5.size; have := k6.size; omega
                            have hxr : ¬ rowsT (.slice aa2 D.wait.length ac2) (.slice ta2 D.wait.length tc2) XB := by
                              have hz := (HSW.out.zl XB (by simp)).2.2
                              rintro (q | q)
                              · exact hz (by simp [xsP, ownO_mem.2 q])
                              · exact hz (by simp [xsP, ownO_mem.2 q])
                            have HM6 := Lib.hid (And.intro hM6 (And.intro xv6 hxr))
                            have hro := hM6.rowsOut
                            have HRO := Lib.hid hro
                            have ra0 : V6.drew.ownsRow w.heap.size 3 1 (.slice aa2 D.wait.length ac2) D.wait.length (atV D.wait) := hM6.ra
                            have rt0 : V6.drew.ownsRow w.heap.size 9 1 (.slice ta2 D.wait.length tc2) D.wait.length (txV D.wait) := hM6.rt
                            have t0w : Turn (rowsT (.slice aa2 D.wait.length ac2) (.slice ta2 D.wait.length tc2)) V6 V6.drew := (Turn.refl _ V6).drew
                            obtain ⟨an2, han2⟩ : ∃ an2, D.wait.length = an2 := ⟨_, rfl⟩
                            rw [han2] at HEND HOW ra0 rt0 t0w HM6 hwl HRO
                            have HLN : Hid (an2 + 1 ≤ maxLen ∧ (an2 + 1) * 8 ≤ 140737488355328 ∧ (an2 + 1) * 16 ≤ 140737488355328 ∧ w.heap.size ≤ V6.heap.size) := Lib.hid ⟨by unfold maxLen; omega, by omega, by omega, hn06⟩
                            have HCK : Hid (∀ u, Turn (rowsT (.slice aa2 an2 ac2) (.slice ta2 an2 tc2)) V6 u → u.cell? ⟨AB, 0, none⟩ = some (.slice aa2 an2 ac2) ∧ u.cell? ⟨TB, 0, none⟩ = some (.slice ta2 an2 tc2) ∧ u.cell? ⟨XB, 1, none⟩ = some (.int .i64 (j : Nat))) := Lib.hid (fun u k => by
                              have h1 := HM6.out.1.box.turn k HRO.out
                              exact ⟨by rw [cell_of h1.a]; rfl, by rw [cell_of h1.t]; rfl, by rw [cell_of (k.heap HM6.out.2.1 HM6.out.2.2)]; rfl⟩)
                            have HBX : Hid (∀ u, Turn (rowsT (.slice aa2 an2 ac2) (.slice ta2 an2 tc2)) V6 u → u.cell? ⟨AB, 0, none⟩ = some (.slice aa2 an2 ac2) ∧ u.frozen? ⟨AB, 0, none⟩ = false ∧ True) := Lib.hid (fun u k => by
                              have h1 := HM6.out.1.box.turn k HRO.out
                              exact ⟨by rw [cell_of h1.a]; rfl, free_of h1.a 0, trivial⟩)
                            have hAT : AB ≠ TB := (six_nd hM6.box.nd).1.2.1
                            have HBY : Hid (∀ u, Turn (rowsT (.slice aa2 an2 ac2) (.slice ta2 an2 tc2)) V6 u → ∀ x, (u.setCell ⟨AB, 0, none⟩ x).cell? ⟨TB, 0, none⟩ = some (.slice ta2 an2 tc2) ∧ (u.setCell ⟨AB, 0, none⟩ x).frozen? ⟨TB, 0, none⟩ = false) := Lib.hid (fun u k x => by
                              have h1 := HM6.out.1.box.turn k HRO.out
                              have h2 := (heap_setCell_ne u AB 0 x hAT).trans h1.t
                              exact ⟨by rw [cell_of h2]; rfl, free_of h2 0⟩)
                            have oneI : ∀ u ∈ [Value.int .i64 (j : Nat)], u.oneCell' = true := by intro u hu; rw [List.mem_singleton.1 hu]; rfl
                            have oneS : ∀ u ∈ [Value.string TT], u.oneCell' = true := by intro u hu; rw [List.mem_singleton.1 hu]; rfl
                            obtain ⟨i0, hti, hz0, hz1, hz2⟩ := info_parts infoIntP
                            obtain ⟨i1, kti, kz0, kz1, kz2⟩ := info_parts infoStrP
                            have HVV := Lib.hid (And.intro hV5 (And.intro hV6 hF5))
                            obtain ⟨W0, hW0⟩ : ∃ W0, D.wait = W0 := ⟨_, rfl⟩
                            clear hd5 t5 hM5 x5 HSY hFM hM6 hro xv5 xv6 k5 k6 hxr hn06 hwl hAT hXB hV5 hV6 hTT hF5 hnl han2
                            rw [hW0] at HEND ra0 rt0
                            clear hW0
                            go_upto_region 35 with fail
                            go_cut [14] (fun iv wx => iv = .int .i64 i ∧ V5 = wx)
                            case first =>
                              have hF := HVV.out.2.2
                              have hF2 : F5 = (if D.fuse < 0 then D.fuse else D.fuse - 1) := hF.symm
                              have HV5 := Lib.hid HVV.out.1
                              by_cases hneg : D.fuse < 0
                              · have he : D.fuse = -1 := by have := HSW.out.ok.f1; omega
                                rw [if_pos hneg, he] at hF2
                                subst hF2
                                rw [he] at f5
                                clear hF hneg hfb hwr hf0
                                go_wp2_with fail
                                go_meet
                                case rel => exact ⟨rfl, HV5.out.symm⟩
                              · rw [if_neg hneg] at hF2
                                subst hF2
                                have m1 : ¬ (D.fuse - 1 < -1) := by omega
                                have m2 : -1 ≤ D.fuse - 1 := by omega
                                have m3 : ¬ (D.fuse - 1 ≤ -1) := by omega
                                clear hF hneg hf0
                                go_wp2_with fail
                                go_meet
                                case rel => exact ⟨rfl, HV5.out.symm⟩
                            case rest =>
                              obtain ⟨rfl, rfl⟩ := hcut
                              clear hf0 f5 z5 hfb hwr o5
                              go_upto_region 36 with fail
                              go_cut [14] (fun iv wx => iv = .int .i64 i ∧ V6 = wx)
                              case first =>
                                have HV6 := Lib.hid HVV.out.2.1
                                go_region_with ((go_at_call 6; (with_reducible refine (HFF.out _).mono ?_); rintro e w6 ⟨rfl, rfl⟩))
                                all_goals (go_wp2_with fail)
                                all_goals
                                  go_meet
                                  case rel => exact ⟨rfl, HV6.out.symm⟩
                              case rest =>
                                obtain ⟨rfl, rfl⟩ := hcut
                                clear nv5 fv5 y15 HVV
                                go_upto_region 37 with fail
                                refine push_region HFF ra0 rt0 t0w HOW HLN HCK HBX HBY ?_
                                refine Lib.hid ?_
                                intro _ _ _ _ _ _ _ _ _ _ g1 c1 g2 c2 w8 ra rt T8 ha ht hne
                                have HF := Lib.hid (HEND.out g1 c1 g2 c2 w8 ra rt T8 ha ht hne)
                                clear ra rt T8 ha ht hne ra0 rt0 t0w HOW HLN HCK HBX HBY HEND HM6
                                go_wp2_with fail
                                go_meet
                                case rel => exact ⟨b, _, _, lv, _, 0, rfl, rfl, rfl, rfl, HF, HLA⟩
                      · obtain rfl : ib = false := HIB.out.trans (decide_eq_false hin)
                        have HWR := Lib.hid (write_out _ b D xa t W HSW.out.disk hon (by rw [HSW.out.ok.len]; omega))
                        clear hin
                        go_wp2_with fail
                        refine HWR.out.mono ?_
                        rintro e w5 ⟨rfl, hw⟩
                        subst hw
                        clear HWR
                        go_wp2_with fail
                        go_meet
                        case rel => exact ⟨b, av, tv, lv, D, 10, rfl, rfl, rfl, rfl, HSW.out.more, HL.out⟩
                    · have hof : D.on = false := by simpa using hon
                      rw [hof] at o0
                      have HWR := Lib.hid (write_off _ b D xa t W HSW.out.disk hof)
                      go_wp2_with fail
                      refine HWR.out.mono ?_
                      rintro e w5 ⟨rfl, hw⟩
                      subst hw
                      clear HWR
                      go_wp2_with fail
                      go_meet
                      case rel => exact ⟨b, av, tv, lv, D, 8, rfl, rfl, rfl, rfl, HSW.out.more, HL.out⟩
                case rest =>
                  --R67
                  obtain ⟨b, av, tv, lv, D, r, rfl, rfl, rfl, rfl, HS, HL⟩ := hcut
                  have nr : (r != r) = false := by simp
                  have o1 : wc.cell? ⟨OB, 0, none⟩ = some (.bool (!D.on)) := by rw [cell_of HS.out.mem.box.o]; rfl
                  have HON := Lib.hid (on_at _ b D wc.drew (HS.out.disk.grown (grownBy_drew (World.grownBy.refl _ _))))
                  have HDR := Lib.hid ((HS.out.drop (i + 1) (Nat.le_refl _)).grown (grownBy_drew (World.grownBy.refl _ _)))
                  obtain ⟨on, hon⟩ : ∃ on, D.on = on := ⟨_, rfl⟩
                  rw [hon] at o1 HON
                  clear hon HS HSW HXK HKN HB HIB y1
                  cases on
                  · go_wp2_with fail
                    go_region_with ((go_at_call 16; refine (HON.out).mono ?_; rintro e w6 ⟨rfl, rfl⟩))
                    all_goals (go_wp2_with fail)
                    all_goals
                      go_roundw
                      case rel => exact ⟨i + 1, b, av, tv, lv, D, rfl, rfl, by go_num, by omega, by omega, HDR, HL⟩
                      case measure => simp [intOf]; omega
                  · go_wp2_with fail
                    go_region_with ((go_at_call 16; refine (HON.out).mono ?_; rintro e w6 ⟨rfl, rfl⟩))
                    all_goals (go_wp2_with fail)
                    all_goals
                      go_roundw
                      case rel => exact ⟨i + 1, b, av, tv, lv, D, rfl, rfl, by go_num, by omega, by omega, HDR, HL⟩
                      case measure => simp [intOf]; omega
          · by_cases h1 : i < an
            · have q1 : (i : Int) < (an : Int) := by omega
              have q2 : ¬ (i : Int) < 70 := by omega
              have h70 : i = 70 := by omega
              subst h70
              go_wp2_with fail
              go_meet
              case rel => exact ⟨b, av, tv, D, rfl, HS.out⟩
            · have q1 : ¬ (i : Int) < (an : Int) := by omega
              go_wp2_with fail
              go_meet
              case rel => exact ⟨b, av, tv, D, rfl, HS.out.drop 70 hi2⟩
      case rest =>
        obtain ⟨b, av, tv, D, rfl, HS⟩ := hcut
        have HST := Lib.hid (start_k HS.out.disk)
        go_wp2_with fail
        refine HST.out.mono ?_
        rintro e w5 ⟨rfl, hd5, t5⟩
        have HM5 := Lib.hid (HS.out.mem5 t5).box.n
        have HB5 := Lib.hid (t5.bel HS.out.bel HS.out.bel.size)
        have HD5 := Lib.hid hd5
        have HOK := Lib.hid HS.out.ok
        clear hd5 t5 HST HS
        go_wp2_with fail
        go_loopw [22] (fun iv wx => ∃ k : Nat, k ≤ 6 ∧ iv = .int .i64 k ∧ Hid (w5.grownBy wx none)) (fun iv _ => 6 - (intOf iv).toNat)
        case atStart => exact ⟨0, by decide, rfl, World.grownBy.refl _ _⟩
        case round =>
          obtain ⟨k, hk, rfl, HG⟩ := hrel
          by_cases hlt : k < 6
          · have d1 : (k : Int) < 6 := by omega
            have d0 : (0 : Int) ≤ (k : Int) := by omega
            have HRD := Lib.hid (read_ok _ b k { D with on := true } wr (HD5.out.grown HG.out) rfl (by show k < D.last.length; rw [HOK.out.len]; exact hlt) (by show D.wait.length ≤ _; have := HOK.out.wl; omega))
            have hnw := nowT_at 6 D.last D.wait k hlt
            have HNC : Hid (∀ wy, wr.grownBy wy none → wy.cell? ⟨NB, k, none⟩ = some (.string (str (readL D.last D.wait k)))) := Lib.hid (fun wy g => by
              rw [cell_of ((grownBy_trans HG.out g).heap HM5.out (by simp)), List.getElem?_toArray, strV, List.getElem?_map, hnw]; rfl)
            dsimp only at HRD
            generalize str (readL D.last D.wait k) = RR at HRD HNC
            have hrr : (RR.toList != RR.toList) = false := by simp
            have hr2 : (RR.toList == RR.toList) = true := by simp
            clear hnw
            go_wp2_with fail
            refine HRD.out.mono ?_
            rintro e w6 ⟨rfl, g6⟩
            have n6 := HNC.out w6 g6
            have HG6 := Lib.hid (grownBy_trans HG.out g6)
            clear g6 HRD HNC
            go_wp2_with fail
            go_roundw
            case rel => exact ⟨k + 1, by omega, by go_num, HG6⟩
            case measure => simp [intOf]; omega
          · have d1 : ¬ (k : Int) < 6 := by omega
            go_wp2_with fail
            go_ret
            exact ⟨rfl, HB5.out.trans (below_grownBy HG.out |>.mono HB5.out.size)⟩
end Go.Proofs.Ytfomchkmedoenaa
