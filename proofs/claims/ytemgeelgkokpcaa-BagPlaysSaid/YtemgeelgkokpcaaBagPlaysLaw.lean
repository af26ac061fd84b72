/- The walk of the law BagPlays. -/
import Derived.Test.YtemgeelgkokpcaaBagY
import Derived.Deep.RegionLaw
import Derived.Deep.DeepCutAuto
import Derived.Deep.CutBlock
import Derived.Deep.RegionHeld3
namespace Go.Proofs.Ytemgeelgkokpcaa
open Go.RowKit

set_option maxRecDepth 100000 in
set_option maxHeartbeats 64000000 in
theorem bagPlays_walk (aa : Option Addr) (an ac : Nat) (A : List ActB) (w : World) (hA : ActsB w (.slice aa an ac) A) (hO : ∀ x ∈ A, x.ok) (hm : an ≤ maxLen) :
    Calls Try.prog 3 #[.slice aa an ac] w fun e w' => e = .returned (.bool true) ∧ w.grownBy w' none := by
  have HA := Lib.hid hA
  have HO := Lib.hid hO
  have HAL := Lib.hid hA.len
  unfold maxLen at hm
  obtain ⟨n0, hn0⟩ : ∃ n0, w.heap.size = n0 := ⟨_, rfl⟩
  have HN := Lib.hid hn0
  clear hA hO hn0
  go_enter Try.func3, Try.ntmps3
  go_wp2_with fail
  refine (bag_speaks w).mono ?_
  rintro e w1 ⟨rfl, g1⟩
  have HG1 := Lib.hid g1
  clear g1
  go_wp2_with fail
  refine (bnew_k n0 [] w1 (fun _ h => by cases h) (by rw [← HN.out]; exact HG1.out.size)).mono ?_
  rintro e w2 ⟨bb, rfl, k2, g2⟩
  have H2 : Hid (BS w n0 bb (ownOB (.slice none 0 0)) [] [] (.slice none 0 0) w2) := Lib.hid ⟨by rw [show ownOB (.slice none 0 0) = [] from rfl]; exact k2, World.ownsRow_nil _ _ _ _, fun y e => by simp [Value.ownBlock] at e, fun y hy => by simp [ownOB, Value.ownBlock] at hy, grownBy_trans HG1.out g2, HN.out⟩
  clear k2 g2 HG1
  go_wp2_with fail
  go_loopw [4, 5, 6, 7, 8, 9, 10, 11, 12, 13, 14, 15, 16, 17] (fun mv iv _ _ _ _ _ _ _ _ _ _ _ _ wr => ∃ (i : Nat) (L : List LetS) (mv' : Value), mv = mv' ∧ iv = .int .i64 i ∧ i ≤ an ∧ i ≤ 100 ∧ L.length ≤ i ∧ Hid (Short L) ∧ Hid (BS w n0 bb (ownOB mv') L L mv' wr)) (fun _ iv _ _ _ _ _ _ _ _ _ _ _ _ _ => an - (intOf iv).toNat)
  case atStart => exact ⟨0, [], _, rfl, rfl, Nat.zero_le _, Nat.zero_le _, Nat.le_refl _, Lib.hid (fun x h => by cases h), H2⟩
  case round =>
    clear H2
    obtain ⟨i, L, mv, rfl, rfl, hi1, hi2, hll, HSH, HS⟩ := hrel
    obtain ⟨ma, mc, hmv⟩ := HS.out.form
    subst hmv
    by_cases hlm : i < an ∧ i < 100
    · obtain ⟨hm1, hm2⟩ := hlm
      have q1 : (i : Int) < (an : Int) := by omega
      have q2 : (i : Int) < 100 := by omega
      have q0 : (0 : Int) ≤ (i : Int) := by omega
      have hil : i < A.length := by have := HAL.out; omega
      obtain ⟨x, hx⟩ : ∃ x, A[i]? = some x := ⟨_, List.getElem?_eq_getElem hil⟩
      obtain ⟨ag, ao, rfl, c0, c1, c2, c3⟩ := HA.out.at_ i x hx
      have c0 := HS.out.tn.cell c0 (by simp)
      have c1 := HS.out.tn.cell c1 (by simp)
      have c2 := HS.out.tn.cell c2 (by simp)
      have c3 := HS.out.tn.cell c3 (by simp)
      have hxo := HO.out x (List.mem_of_getElem? hx)
      have hxw := hxo.w
      have hxb := hxo.b
      unfold maxLen at hxb
      clear hx hil hxo
      obtain ⟨xw, xi, xa, xb⟩ := x
      dsimp only at c0 c1 c2 c3 hxw hxb
      go_upto_region 9 with fail
      obtain ⟨XB, hXB⟩ : ∃ XB, wr.heap.size = XB := ⟨_, rfl⟩
      have hgW := World.grownBy_alloc wr (.cells #[.int .i64 xw, .int .i64 xi, .int .i64 xa, .string xb] 28) none
      have hbW := heap_alloc_at wr (.cells #[.int .i64 xw, .int .i64 xi, .int .i64 xa, .string xb] 28) XB hXB
      obtain ⟨W, hW⟩ : ∃ W, wr.alloc (.cells #[.int .i64 xw, .int .i64 xi, .int .i64 xa, .string xb] 28) = W := ⟨_, rfl⟩
      rw [hW] at hgW hbW
      rw [hW, hXB]
      have HSW := Lib.hid (HS.out.box hgW XB (by omega) (Array.getElem?_eq_some_iff.1 hbW).1)
      have HB := Lib.hid hbW
      obtain ⟨y0, y1, y2, y3⟩ := cells4B hbW
      clear hgW hbW hW hXB c0 c1 c2 c3 HS
      go_cut [7] (fun sv wy => ∃ t : ByteArray, t.size ≤ 10 ∧ sv = .string t ∧ W = wy)
      case first =>
        by_cases hz : xb.size ≤ 10
        · have hz2 : (xb.size : Int) ≤ 10 := by omega
          go_wp2_with fail
          go_meet
          case rel => exact ⟨_, by first | exact hz | (rw [ByteArray.size_extract]; omega), rfl, rfl⟩
        · have hz2 : ¬ (xb.size : Int) ≤ 10 := by omega
          have hz3 : (10 : Int) < (xb.size : Int) := by omega
          have hz4 : (10 : Int) ≤ (xb.size : Int) := by omega
          go_wp2_with fail
          go_meet
          case rel => exact ⟨_, by rw [ByteArray.size_extract]; omega, rfl, rfl⟩
      case rest =>
        obtain ⟨t, ht, rfl, rfl⟩ := hcut
        clear y3 hxb
        obtain ⟨q, hq, hq6⟩ : ∃ q : Nat, Int.tmod (Int.tmod xw 6 + 6) 6 = (q : Int) ∧ q < 6 := ⟨placeI xw 6, tmod_place xw 6 (by decide), placeI_lt xw 6 (by decide)⟩
        have r0 : IntKind.i64.wrap (Int.tmod xw 6) = Int.tmod xw 6 := IntWalk.i64_in _ (by have := tm6 xw; omega)
        have r1 : IntKind.i64.wrap (Int.tmod xw 6 + 6) = Int.tmod xw 6 + 6 := IntWalk.i64_in _ (by have := tm6 xw; omega)
        go_upto_block 2 with fail
        go_cut [4, 9, 10, 11, 12, 13, 14, 15, 16, 17] from 21 to 218 (fun mv _ _ _ _ _ _ _ _ _ wy => ∃ (L' : List LetS) (mv' : Value), mv = mv' ∧ L'.length ≤ i + 1 ∧ Hid (Short L') ∧ Hid (BS w n0 bb (ownOB mv') L' L' mv' wy))
        case rest =>
          as_aux_lemma =>
          rename World => wy
          obtain ⟨L', mv', rfl, hl', HS', HF⟩ := hcut
          obtain ⟨ma', mc', hmv'⟩ := HF.out.form
          subst hmv'
          have HLN := Lib.hid (blen_k HF.out.bag)
          obtain ⟨N1, hN1⟩ : ∃ N1, L'.length = N1 := ⟨_, rfl⟩
          have HN1 := Lib.hid hN1
          have HLL := Lib.hid hl'
          rw [hN1] at HLN ⊢
          have n1 : ((N1 : Int) != (N1 : Int)) = false := by simp
          clear hN1 hl' r0 r1 hq y0 y1 y2 HB HSW hxw
          go_wp2_with fail
          refine HLN.out.mono ?_
          rintro e wz ⟨rfl, rfl⟩
          go_wp2_with fail
          go_roundw
          case rel => exact ⟨i + 1, L', _, by rw [HN1.out], by go_num, by omega, by omega, HLL.out, HS', HF⟩
          case measure => simp [intOf]; omega
        case first =>
          have hqq : q = 2 ∨ q = 3 ∨ q = 4 ∨ q = 5 ∨ q ≤ 1 := by omega
          clear r0 r1 hq6
          rcases hqq with rfl | rfl | rfl | rfl | hq1
          · -- BEGIN a2
            as_aux_lemma =>
            rw [show ((2 : Nat) : Int) = 2 from rfl] at hq
            by_cases h0 : 0 < L.length
            · obtain ⟨p, hp⟩ : ∃ p, p = placeI xi L.length := ⟨_, rfl⟩
              have hpl : p < L.length := by rw [hp]; exact placeI_lt _ _ h0
              obtain ⟨x, hx⟩ : ∃ x, L[p]? = some x := ⟨_, List.getElem?_eq_getElem hpl⟩
              have HTK := Lib.hid (btake_k xi n0 bb _ L x W HSW.out.bag (by omega) h0 p hp hx HSW.out.xl HSW.out.n0l)
              have HPL := Lib.hid (fun w' => refPlace27_any xi L.length h0 (by omega) w')
              rw [← hp] at HPL
              obtain ⟨xt, xf, xk, xbd⟩ := x
              unfold LetS.val LetS.cells at HTK
              have n1 : (0 : Int) < (L.length : Int) := by omega
              have HPP := Lib.hid (And.intro hpl hx)
              clear hp hx
              go_wp2_with fail
              refine HTK.out.mono ?_
              rintro e w5 ⟨rfl, k5, t5⟩
              have hS5 := HSW.out.turned k5 t5
              have hXB5 := t5.inX List.mem_cons_self HB.out
              have hg6 := World.grownBy_alloc w5 (.cells #[.int .i64 xt, .int .i64 xf, .int .i64 xk, .string xbd] 30) none
              obtain ⟨YB, hYB⟩ : ∃ YB, w5.heap.size = YB := ⟨_, rfl⟩
              have hb6 := heap_alloc_at w5 (.cells #[.int .i64 xt, .int .i64 xf, .int .i64 xk, .string xbd] 30) YB hYB
              obtain ⟨W6, hW6⟩ : ∃ W6, w5.alloc (.cells #[.int .i64 xt, .int .i64 xf, .int .i64 xk, .string xbd] 30) = W6 := ⟨_, rfl⟩
              rw [hW6] at hg6 hb6
              have HS6 := Lib.hid (hS5.go hg6)
              obtain ⟨z0, z1, z2, z3⟩ := cells4B hb6
              obtain ⟨y0, y1, y2, y3⟩ := cells4B (hg6.heap hXB5 (by simp))
              have HW6 := Lib.hid (And.intro hW6 hYB)
              clear hg6 hb6 hW6 hYB hXB5 hS5 k5 t5 HTK HSW HB
              go_wp2_with (first | rw [HW6.out.1, HW6.out.2] | rw [HW6.out.1])
              refine (HPL.out _).mono ?_
              rintro e w7 ⟨rfl, hw7⟩
              subst hw7
              go_upto_region 22 with fail
              obtain ⟨g, hma, c0, c1, c2, c3⟩ := (lets_own HS6.out.row).at_ p _ HPP.out.2
              subst hma
              dsimp only at c0 c1 c2 c3
              have e0 : (xt == xt) = true := by simp
              have e1 : (xf == xf) = true := by simp
              have e2 : (xk == xk) = true := by simp
              have e3 : (xbd.toList == xbd.toList) = true := by simp
              have b0 : (0 : Int) ≤ (p : Int) := by omega
              have b1 : (p : Int) < (L.length : Int) := by have := HPP.out.1; omega
              have gd : W6.grownBy W6.drew none := grownBy_drew (World.grownBy.refl W6 none)
              have ck : (W6.drew.cell? ⟨YB, 0, none⟩ = some (.int .i64 xt) ∧ W6.drew.cell? ⟨YB, 1, none⟩ = some (.int .i64 xf) ∧ W6.drew.cell? ⟨YB, 2, none⟩ = some (.int .i64 xk) ∧ W6.drew.cell? ⟨YB, 3, none⟩ = some (.string xbd)) ∧ (W6.drew.cell? ⟨g, p * 4, none⟩ = some (.int .i64 xt) ∧ W6.drew.cell? ⟨g, p * 4 + 1, none⟩ = some (.int .i64 xf) ∧ W6.drew.cell? ⟨g, p * 4 + 2, none⟩ = some (.int .i64 xk) ∧ W6.drew.cell? ⟨g, p * 4 + 3, none⟩ = some (.string xbd)) := ⟨⟨z0, z1, z2, z3⟩, c0, c1, c2, c3⟩
              obtain ⟨⟨z0', z1', z2', z3'⟩, c0', c1', c2', c3'⟩ := ck
              go_cut [91] from 21 to 218 (fun bv wx => bv = .bool false ∧ Hid (W6.grownBy wx none))
              case first =>
                go_region
                all_goals
                  go_wp2_with fail
                  go_meet
                  case rel => exact ⟨rfl, Lib.hid gd⟩
              case rest =>
                rename World => wx
                obtain ⟨rfl, HGX⟩ := hcut
                have HSX := Lib.hid (HS6.out.go HGX.out)
                obtain ⟨p1, hp1⟩ : ∃ p1, p + 1 = p1 := ⟨_, rfl⟩
                have r6 : IntKind.i64.wrap ((p : Int) + 1) = (p1 : Int) := by rw [IntWalk.i64_in _ (by omega), ← hp1]; rfl
                have hnc : L.length ≤ mc := by
                  rcases HSX.out.row.2 with ⟨h', _⟩ | ⟨g', cap', cur, h', hb, hg, hnc, _⟩
                  · simp at h'
                  · simp only [Value.slice.injEq, Option.some.injEq, Addr.mk.injEq, and_true, true_and] at h'
                    obtain ⟨rfl, rfl⟩ := h'
                    exact hnc
                have b2 : (p : Int) ≤ (mc : Int) := by omega
                have b3 : (p1 : Int) ≤ (L.length : Int) := by omega
                have b4 : (0 : Int) ≤ (p1 : Int) := by omega
                have b5 : (L.length : Int) ≤ (mc : Int) := by omega
                obtain ⟨A, hA, hAc⟩ := own_dropB g L.length mc L p1 (by omega)
                obtain ⟨i0, hti, hz0, hz1, hz2⟩ := info_parts infoLet
                obtain ⟨BB, hBB⟩ : ∃ BB, wx.heap.size = BB := ⟨_, rfl⟩
                have gE : wx.grownBy (wx.alloc (.cells #[] 30)).drew none := grownBy_drew (World.grownBy_alloc wx _ none)
                have eE : (wx.alloc (.cells #[] 30)).drew.ownsRow BB 30 4 (.slice (some ⟨BB, 0, none⟩) 0 0) 0 [] := by
                  have := own_emptyB wx BB (by omega)
                  rw [hBB] at this
                  exact this
                have HROW : Hid (∀ w', wx.grownBy w' none → w'.ownsRow n0 30 4 (.slice (some ⟨g, 0, none⟩) L.length mc) L.length (letsV L)) := Lib.hid (fun w' k => (HSX.out.go k).row)
                have HBS : Hid (∀ w', wx.grownBy w' none → BB ≤ w'.heap.size) := Lib.hid (fun w' k => by rw [← hBB]; exact k.size)
                have HL2 : Hid (0 + p ≤ maxLen ∧ (0 + p) * 40 ≤ 140737488355328 ∧ p + (L.length - p1) ≤ maxLen ∧ (p + (L.length - p1)) * 40 ≤ 140737488355328 ∧ p ≤ L.length ∧ (letsV (L.drop p1)).length = (L.length - p1) * 4) := Lib.hid ⟨by unfold maxLen; omega, by omega, by unfold maxLen; omega, by omega, by omega, by rw [letsV_len, List.length_drop]⟩
                have HAC := Lib.hid (And.intro hA hAc)
                have HBB := Lib.hid hBB
                have HP1 := Lib.hid hp1
                clear hAc hBB hp1 hA z0 z1 z2 z3 z0' z1' z2' z3' c0 c1 c2 c3 c0' c1' c2' c3' y0 y1 y2 y3 HS6 hnc
                go_upto_region 24 with fail
                go_region_law (first
                  | (refine step_append_rowB _ rfl (.tmp 92) (.tmp 95) 26 rfl BB 30 i0 (.agg #[.int .i64 0, .int .i64 0, .int .i64 0, .string ⟨#[]⟩]) 4 40 Try.underlying26 hti hz0 hz1 hz2 rfl (by decide) (.slice (some ⟨BB, 0, none⟩) 0 0) 0 [] (by rw [← HBB.out]; rfl) eE n0 p (.slice (some ⟨g, 0, none⟩) p mc) (letsV (L.take p)) rfl (own_takeB (HROW.out _ gE) p HL2.out.2.2.2.2.1) (letsV_onecell _) HL2.out.1 HL2.out.2.1 (HBS.out _ gE) ?_; intro v7 w7 ho7 hg7 hv7; clear hv7; simp only [Nat.zero_add, List.nil_append] at ho7; have g7 : wx.grownBy w7 none := grown_rowB gE hg7 (fun y q => by have h1 : BB = y := Option.some.inj (show some BB = some y from q); have := HBB.out; omega))
                  | (refine step_append_atB _ rfl (.tmp 96) (.tmp 100) 26 rfl BB 30 i0 (.agg #[.int .i64 0, .int .i64 0, .int .i64 0, .string ⟨#[]⟩]) 4 40 Try.underlying26 hti hz0 hz1 hz2 rfl (by decide) v7 p (letsV (L.take p)) rfl ho7 A (L.length - p1) (mc - p1) (letsV (L.drop p1)) (by simp [Act.eval, Act.put, HAC.out.1]) HL2.out.2.2.2.2.2 (HAC.out.2 _ _ (HROW.out _ g7)) (letsV_onecell _) HL2.out.2.2.1 HL2.out.2.2.2.1 (HBS.out _ g7) ?_; intro v9 w9 ho9 hg9 hv9; clear hv9; have g9 : wx.grownBy w9 none := grown_rowB g7 hg9 (fun y q => by have := (ho7.lt y q).1; have := HBB.out; omega)))
                all_goals
                  have HF : Hid (BS w n0 bb (ownOB v9) (L.eraseIdx p) (L.eraseIdx p) v9 w9) := Lib.hid (by
                    have hlen : p + (L.length - p1) = (L.eraseIdx p).length := by
                      rw [List.length_eraseIdx_of_lt HPP.out.1]
                      have h1 := HP1.out
                      have h2 := HPP.out.1
                      omega
                    rw [take_dropB L p p1 HP1.out, hlen] at ho9
                    exact HSX.out.next g9 (by rw [HBB.out]; exact Nat.le_refl _) ho9)
                  (try rw [HAC.out.1])
                  go_wp2_with fail
                  go_meet
                  case rel => exact ⟨_, v9, rfl, by rw [List.length_eraseIdx_of_lt HPP.out.1]; omega, Lib.hid (HSH.out.erase p), HF⟩
            · obtain rfl : L = [] := by cases L with | nil => rfl | cons a r => simp at h0
              have HTK := Lib.hid (btake_none xi n0 bb _ W HSW.out.bag)
              unfold LetS.val LetS.cells letZ at HTK
              have n1 : ¬ (0 : Int) < (([] : List LetS).length : Int) := by simp
              go_wp2_with fail
              refine HTK.out.mono ?_
              rintro e w5 ⟨rfl, g5⟩
              have HF := Lib.hid ((HSW.out.go (grownBy_alloc' g5 (.cells #[.int .i64 0, .int .i64 0, .int .i64 0, .string ⟨#[]⟩] 30))).less)
              clear g5
              go_wp2_with fail
              go_meet
              case rel => exact ⟨[], _, rfl, by simp, HSH, HF⟩
            -- END a2
          · -- BEGIN a3
            as_aux_lemma =>
            rw [show ((3 : Nat) : Int) = 3 from rfl] at hq
            by_cases h0 : 0 < L.length
            · obtain ⟨p, hp⟩ : ∃ p, p = placeI xi L.length := ⟨_, rfl⟩
              have hpl : p < L.length := by rw [hp]; exact placeI_lt _ _ h0
              obtain ⟨x, hx⟩ : ∃ x, L[p]? = some x := ⟨_, List.getElem?_eq_getElem hpl⟩
              have hxs := HSH.out x (List.mem_of_getElem? hx)
              have HAG := Lib.hid (bagain_k xi n0 bb _ L x W HSW.out.bag (by omega) h0 (by rw [← hp]; exact hx) HSW.out.xl HSW.out.n0l)
              have HPL := Lib.hid (fun w' => refPlace27_any xi L.length h0 (by omega) w')
              rw [← hp] at HPL
              obtain ⟨xt, xf, xk, xbd⟩ := x
              dsimp only at hxs
              have n1 : (0 : Int) < (L.length : Int) := by omega
              have n2 : (L.length : Int) < 256 := by omega
              have b0 : (0 : Int) ≤ (p : Int) := by omega
              have b1 : (p : Int) < (L.length : Int) := by omega
              have HPP := Lib.hid (And.intro hpl hx)
              have HXS : Hid ((⟨xt, xf, xk, xbd⟩ : LetS).b.size ≤ 10) := Lib.hid hxs
              clear hp hx hxs hpl
              go_wp2_with fail
              refine HAG.out.mono ?_
              rintro e wq ⟨rfl, k5, t5⟩
              have HSQ := Lib.hid (HSW.out.turned k5 t5)
              obtain ⟨y0, y1, y2, y3⟩ := cells4B (t5.inX List.mem_cons_self HB.out)
              obtain ⟨g, hma, c0, c1, c2, c3⟩ := (lets_own HSQ.out.row).at_ p _ HPP.out.2
              subst hma
              dsimp only at c0 c1 c2 c3
              have HCK : Hid (∀ w', wq.grownBy w' none → w'.cell? ⟨XB, 1, none⟩ = some (.int .i64 xi) ∧ w'.cell? ⟨g, p * 4, none⟩ = some (.int .i64 xt) ∧ w'.cell? ⟨g, p * 4 + 1, none⟩ = some (.int .i64 xf) ∧ w'.cell? ⟨g, p * 4 + 2, none⟩ = some (.int .i64 xk) ∧ w'.cell? ⟨g, p * 4 + 3, none⟩ = some (.string xbd)) := Lib.hid (fun w' k => ⟨k.cell y1 (by simp), k.cell c0 (by simp), k.cell c1 (by simp), k.cell c2 (by simp), k.cell c3 (by simp)⟩)
              clear k5 t5 HAG HSW HB
              go_upto_region 29 with fail
              clear y0 y1 y2 y3 c0 c1 c2 c3
              have ck := HCK.out _ (grownBy_drew (World.grownBy.refl wq none))
              obtain ⟨i0, hti, hz0, hz1, hz2⟩ := info_parts infoLet
              obtain ⟨BB, hBB⟩ : ∃ BB, wq.heap.size = BB := ⟨_, rfl⟩
              have HROW : Hid (∀ w', wq.grownBy w' none → w'.ownsRow n0 30 4 (.slice (some ⟨g, 0, none⟩) L.length mc) L.length (letsV L)) := Lib.hid (fun w' k => (HSQ.out.go k).row)
              have HBS : Hid (∀ w', wq.grownBy w' none → BB ≤ w'.heap.size) := Lib.hid (fun w' k => by rw [← hBB]; exact k.size)
              have HL2 : Hid (0 + L.length ≤ maxLen ∧ (0 + L.length) * 40 ≤ 140737488355328 ∧ L.length + 1 ≤ maxLen ∧ (L.length + 1) * 40 ≤ 140737488355328) := Lib.hid ⟨by unfold maxLen; omega, by omega, by unfold maxLen; omega, by omega⟩
              have gE : wq.grownBy (wq.alloc (.cells #[] 30)).drew none := grownBy_drew (World.grownBy_alloc wq _ none)
              have gX : wq.grownBy (wq.alloc (.cells #[.int .i64 xt, .int .i64 xf, .int .i64 xk, .string xbd] 30)).drew none := grownBy_drew (World.grownBy_alloc wq _ none)
              have gEX : wq.grownBy ((wq.alloc (.cells #[] 30)).alloc (.cells #[.int .i64 xt, .int .i64 xf, .int .i64 xk, .string xbd] 30)).drew none := grownBy_drew (grownBy_alloc' (World.grownBy_alloc wq _ none) _)
              have gXE : wq.grownBy ((wq.alloc (.cells #[.int .i64 xt, .int .i64 xf, .int .i64 xk, .string xbd] 30)).alloc (.cells #[] 30)).drew none := grownBy_drew (grownBy_alloc' (World.grownBy_alloc wq _ none) _)
              have hE1 : (wq.alloc (.cells #[] 30)).heap.size = BB + 1 := by rw [World.size_alloc, hBB]
              have hX1 : (wq.alloc (.cells #[.int .i64 xt, .int .i64 xf, .int .i64 xk, .string xbd] 30)).heap.size = BB + 1 := by rw [World.size_alloc, hBB]
              have eE0 : (wq.alloc (.cells #[] 30)).ownsRow BB 30 4 (.slice (some ⟨BB, 0, none⟩) 0 0) 0 [] := by
                have := own_emptyB wq BB (by omega)
                rw [hBB] at this
                exact this
              have eE : (wq.alloc (.cells #[] 30)).drew.ownsRow BB 30 4 (.slice (some ⟨BB, 0, none⟩) 0 0) 0 [] := eE0
              have eEX : ((wq.alloc (.cells #[] 30)).alloc (.cells #[.int .i64 xt, .int .i64 xf, .int .i64 xk, .string xbd] 30)).drew.ownsRow BB 30 4 (.slice (some ⟨BB, 0, none⟩) 0 0) 0 [] := own_keepB eE0 (grownBy_drew (World.grownBy_alloc (wq.alloc (.cells #[] 30)) (.cells #[.int .i64 xt, .int .i64 xf, .int .i64 xk, .string xbd] 30) none)) (fun _ _ e => by cases e)
              have eXE : ((wq.alloc (.cells #[.int .i64 xt, .int .i64 xf, .int .i64 xk, .string xbd] 30)).alloc (.cells #[] 30)).drew.ownsRow BB 30 4 (.slice (some ⟨BB + 1, 0, none⟩) 0 0) 0 [] := by
                have := own_emptyB (wq.alloc (.cells #[.int .i64 xt, .int .i64 xf, .int .i64 xk, .string xbd] 30)) BB (by omega)
                rw [hX1] at this
                exact this
              have xEX : ((wq.alloc (.cells #[] 30)).alloc (.cells #[.int .i64 xt, .int .i64 xf, .int .i64 xk, .string xbd] 30)).drew.heap[BB + 1]? = some (.cells #[.int .i64 xt, .int .i64 xf, .int .i64 xk, .string xbd] 30 (0, 0)) := heap_alloc_at _ _ _ hE1
              have xXE : ((wq.alloc (.cells #[.int .i64 xt, .int .i64 xf, .int .i64 xk, .string xbd] 30)).alloc (.cells #[] 30)).drew.heap[BB]? = some (.cells #[.int .i64 xt, .int .i64 xf, .int .i64 xk, .string xbd] 30 (0, 0)) := (World.grownBy_alloc (wq.alloc (.cells #[.int .i64 xt, .int .i64 xf, .int .i64 xk, .string xbd] 30)) (.cells #[] 30) none).heap (heap_alloc_at _ _ _ hBB) (by simp)
              have HNX : Hid (∀ (w9 : World) (g9 c9 : Nat), wq.grownBy w9 none → w9.ownsRow BB 30 4 (.slice (some ⟨g9, 0, none⟩) (L.length + 1) c9) (L.length + 1) (letsV L ++ [.int .i64 xt, .int .i64 xf, .int .i64 xk, .string xbd]) → (L ++ [(⟨xt, xf, xk, xbd⟩ : LetS)]).length ≤ i + 1 ∧ Hid (Short (L ++ [(⟨xt, xf, xk, xbd⟩ : LetS)])) ∧ Hid (BS w n0 bb (ownOB (.slice (some ⟨g9, 0, none⟩) (L.length + 1) c9)) (L ++ [(⟨xt, xf, xk, xbd⟩ : LetS)]) (L ++ [(⟨xt, xf, xk, xbd⟩ : LetS)]) (.slice (some ⟨g9, 0, none⟩) (L.length + 1) c9) w9)) := Lib.hid (fun w9 g9 c9 k9 ho9 => ⟨by rw [List.length_append, List.length_singleton]; omega, Lib.hid (HSH.out.add HXS.out), Lib.hid (HSQ.out.next k9 (by rw [hBB]; exact Nat.le_refl _) (by rw [List.length_append, List.length_singleton, letsV_append, letsV_one]; exact ho9))⟩)
              refine wp_region_held_drew (S := (fun w' => w'.cell? ⟨XB, 1, none⟩ = some (.int .i64 xi) ∧ w'.cell? ⟨g, p * 4, none⟩ = some (.int .i64 xt) ∧ w'.cell? ⟨g, p * 4 + 1, none⟩ = some (.int .i64 xf) ∧ w'.cell? ⟨g, p * 4 + 2, none⟩ = some (.int .i64 xk) ∧ w'.cell? ⟨g, p * 4 + 3, none⟩ = some (.string xbd))) (by kernel_rfl) ?hspa (fun hHeld => ?rgpa)
              case hspa => exact HCK.out _ (grownBy_drew (World.grownBy.refl wq none))
              case rgpa =>
                refine wpAnyH_take (i := 1) (v := ?vpa_0) rfl (by kernel_rfl) (by kernel_rfl) (by kernel_rfl) (fun _ _ _ h => h) (Or.inl ⟨by kernel_rfl, ?hpa_0⟩) (by assumption) ?rpa_0
                case hpa_0 => (intro w0 hSw; (try dsimp only at hSw); go_simp; (try with_reducible rfl))
                try simp only [Act.put, List.setIfInBounds_toArray, List.set_cons_zero, List.set_cons_succ]
                refine wpAnyH_take (i := 3) (v := ?vpa_1) rfl (by kernel_rfl) (by kernel_rfl) (by kernel_rfl) (fun _ _ _ h => h) (Or.inl ⟨by kernel_rfl, ?hpa_1⟩) (by assumption) ?rpa_1
                case hpa_1 => (intro w0 hSw; (try dsimp only at hSw); go_simp; (try with_reducible rfl))
                try simp only [Act.put, List.setIfInBounds_toArray, List.set_cons_zero, List.set_cons_succ]
                refine wpAnyH_take (i := 4) (v := ?vpa_2) rfl (by kernel_rfl) (by kernel_rfl) (by kernel_rfl) (fun _ _ _ h => h) (Or.inl ⟨by kernel_rfl, ?hpa_2⟩) (by assumption) ?rpa_2
                case hpa_2 => (intro w0 hSw; (try dsimp only at hSw); go_simp; (try with_reducible rfl))
                try simp only [Act.put, List.setIfInBounds_toArray, List.set_cons_zero, List.set_cons_succ]
                refine wpAnyH_take (i := 5) (v := ?vpa_3) rfl (by kernel_rfl) (by kernel_rfl) (by kernel_rfl) (fun _ _ _ h => h) (Or.inl ⟨by kernel_rfl, ?hpa_3⟩) (by assumption) ?rpa_3
                case hpa_3 => (intro w0 hSw; (try dsimp only at hSw); go_simp; (try with_reducible rfl))
                try simp only [Act.put, List.setIfInBounds_toArray, List.set_cons_zero, List.set_cons_succ]
                refine wpAnyH_take (i := 6) (v := ?vpa_4) rfl (by kernel_rfl) (by kernel_rfl) (by kernel_rfl) (fun _ _ _ h => h) (Or.inl ⟨by kernel_rfl, ?hpa_4⟩) (by assumption) ?rpa_4
                case hpa_4 => (intro w0 hSw; (try dsimp only at hSw); go_simp; (try with_reducible rfl))
                try simp only [Act.put, List.setIfInBounds_toArray, List.set_cons_zero, List.set_cons_succ]
                refine wpAnyH_ready (rs := [0]) (by kernel_rfl) (by simp) ?_
                refine AllReadyH.cons rfl (fun K hK => ?apa_6) ?bpa_6
                case apa_6 =>
                  (go_simp; have ck := HCK.out _ gE)
                  refine hK.out _ _ ?spa_6 (fun hHeld => ?tpa_6)
                  case spa_6 => exact ck
                  case tpa_6 =>
                    clear hK K
                    try simp only [Act.put, List.setIfInBounds_toArray, List.set_cons_zero, List.set_cons_succ]
                    refine wpAnyH_ready (rs := [2]) (by kernel_rfl) (by simp) ?_
                    refine AllReadyH.cons rfl (fun K hK => ?apa_7) ?bpa_7
                    case apa_7 =>
                      (refine step_append_rowB _ rfl (.tmp 121) (.tmp 122) 26 rfl BB 30 i0 (.agg #[.int .i64 0, .int .i64 0, .int .i64 0, .string ⟨#[]⟩]) 4 40 Try.underlying26 hti hz0 hz1 hz2 rfl (by decide) (.slice (some ⟨BB, 0, none⟩) 0 0) 0 [] rfl eE n0 L.length (.slice (some ⟨g, 0, none⟩) L.length mc) (letsV L) rfl (HROW.out _ gE) (letsV_onecell L) HL2.out.1 HL2.out.2.1 (HBS.out _ gE) ?_; intro v7 w7 ho7 hg7 hv7; clear hv7; (try simp only [Nat.zero_add, List.nil_append] at ho7); have g7 : wq.grownBy w7 none := grown_rowB gE hg7 (fun y q => by have h1 : BB = y := Option.some.inj (show some (BB) = some y from q); omega); have ck := HCK.out _ g7)
                      refine hK.out _ _ ?spa_7 (fun hHeld => ?tpa_7)
                      case spa_7 => exact ck
                      case tpa_7 =>
                        clear hK K
                        try simp only [Act.put, List.setIfInBounds_toArray, List.set_cons_zero, List.set_cons_succ]
                        refine wpAnyH_ready (rs := [7]) (by kernel_rfl) (by simp) ?_
                        refine AllReadyH.cons rfl (fun K hK => ?apa_8) ?bpa_8
                        case apa_8 =>
                          (go_simp; go_at_call 7; (with_reducible refine (HPL.out _).mono ?_); rintro e wc ⟨rfl, rfl⟩)
                          refine hK.out _ _ ?spa_8 (fun hHeld => ?tpa_8)
                          case spa_8 => exact ck
                          case tpa_8 =>
                            clear hK K
                            try simp only [Act.put, List.setIfInBounds_toArray, List.set_cons_zero, List.set_cons_succ]
                            refine wpAnyH_take (i := 8) (v := ?vpa_8) rfl (by kernel_rfl) (by kernel_rfl) (by kernel_rfl) (fun _ _ _ h => h) (Or.inl ⟨by kernel_rfl, ?hpa_8⟩) (by assumption) ?rpa_8
                            case hpa_8 => (intro w0 hSw; (try dsimp only at hSw); go_simp; (try with_reducible rfl))
                            try simp only [Act.put, List.setIfInBounds_toArray, List.set_cons_zero, List.set_cons_succ]
                            refine wpAnyH_take (i := 9) (v := ?vpa_9) rfl (by kernel_rfl) (by kernel_rfl) (by kernel_rfl) (fun _ _ _ h => h) (Or.inl ⟨by kernel_rfl, ?hpa_9⟩) (by assumption) ?rpa_9
                            case hpa_9 => (intro w0 hSw; (try dsimp only at hSw); go_simp; (try with_reducible rfl))
                            try simp only [Act.put, List.setIfInBounds_toArray, List.set_cons_zero, List.set_cons_succ]
                            refine wpAnyH_ready (rs := [10]) (by kernel_rfl) (by simp) ?_
                            refine AllReadyH.cons rfl (fun K hK => ?apa_11) ?bpa_11
                            case apa_11 =>
                              (go_simp; have g8 := grownBy_trans g7 (World.grownBy_alloc w7 (.cells #[.int .i64 xt, .int .i64 xf, .int .i64 xk, .string xbd] 30) none); have ck := HCK.out _ g8)
                              refine hK.out _ _ ?spa_11 (fun hHeld => ?tpa_11)
                              case spa_11 => exact ck
                              case tpa_11 =>
                                clear hK K
                                try simp only [Act.put, List.setIfInBounds_toArray, List.set_cons_zero, List.set_cons_succ]
                                refine wpAnyH_ready (rs := [11]) (by kernel_rfl) (by simp) ?_
                                refine AllReadyH.cons rfl (fun K hK => ?apa_12) ?bpa_12
                                case apa_12 =>
                                  (refine step_append_lies _ rfl (.tmp 123) (.tmp 131) 26 rfl BB 30 i0 (.agg #[.int .i64 0, .int .i64 0, .int .i64 0, .string ⟨#[]⟩]) 4 40 Try.underlying26 hti hz0 hz1 hz2 rfl (by decide) v7 L.length (letsV L) rfl (own_keepB ho7 (World.grownBy_alloc w7 (.cells #[.int .i64 xt, .int .i64 xf, .int .i64 xk, .string xbd] 30) none) (fun _ _ e => by cases e)) ⟨w7.heap.size, 0, none⟩ 1 1 [.int .i64 xt, .int .i64 xf, .int .i64 xk, .string xbd] rfl rfl (World.news_of_block (heap_alloc_at w7 (.cells #[.int .i64 xt, .int .i64 xf, .int .i64 xk, .string xbd] 30) _ rfl)) (letsV_onecell [(⟨xt, xf, xk, xbd⟩ : LetS)]) Nat.zero_lt_one HL2.out.2.2.1 HL2.out.2.2.2 (HBS.out _ g8) _ rfl ?_; intro g9 c9 w9 ho9 hg9 hor9 hlt9; have g99 : wq.grownBy w9 none := grown_rowB g8 hg9 (fun y q => by have := (ho7.lt y q).1; omega); have ck := HCK.out _ g99; have HF := Lib.hid (HNX.out w9 g9 c9 g99 ho9); clear hor9 hlt9)
                                  refine hK.out _ _ ?spa_12 (fun hHeld => ?tpa_12)
                                  case spa_12 => exact ck
                                  case tpa_12 =>
                                    clear hK K
                                    try simp only [Act.put, List.setIfInBounds_toArray, List.set_cons_zero, List.set_cons_succ]
                                    refine wpAnyH_ready (rs := [12]) (by kernel_rfl) (by simp) ?_
                                    refine AllReadyH.cons rfl (fun K hK => ?apa_13) ?bpa_13
                                    case apa_13 =>
                                      go_simp
                                      refine hK.out _ _ ?spa_13 (fun hHeld => ?tpa_13)
                                      case spa_13 => exact ck
                                      case tpa_13 =>
                                        clear hK K
                                        try simp only [Act.put, List.setIfInBounds_toArray, List.set_cons_zero, List.set_cons_succ]
                                        refine wpAnyH_done (by kernel_rfl) ?_ _
                                        try dsimp only
                                        (go_wp2_with fail; go_meet; case rel => exact ⟨_, _, rfl, HF.out.1, HF.out.2.1, HF.out.2.2⟩)
                                    case bpa_13 =>
                                      exact AllReadyH.nil
                                case bpa_12 =>
                                  exact AllReadyH.nil
                            case bpa_11 =>
                              exact AllReadyH.nil
                        case bpa_8 =>
                          exact AllReadyH.nil
                    case bpa_7 =>
                      exact AllReadyH.nil
                case bpa_6 =>
                  exact AllReadyH.nil
            · obtain rfl : L = [] := by cases L with | nil => rfl | cons a r => simp at h0
              have HAG := Lib.hid (bagain_none xi n0 bb _ W HSW.out.bag)
              have n1 : ¬ (0 : Int) < (([] : List LetS).length : Int) := by simp
              go_wp2_with fail
              refine HAG.out.mono ?_
              rintro e w5 ⟨rfl, rfl⟩
              have HF := Lib.hid (HSW.out.less)
              go_wp2_with fail
              go_meet
              case rel => exact ⟨[], _, rfl, by simp, HSH, HF⟩
            -- END a3
          · -- BEGIN a4
            as_aux_lemma =>
            rw [show ((4 : Nat) : Int) = 4 from rfl] at hq
            have hi100 : i < 256 := by omega
            have c8 : IntKind.u8.wrap (i : Int) = (i : Int) := IntWalk.u8_in _ (by omega)
            by_cases h0 : 0 < L.length
            · obtain ⟨p, hp⟩ : ∃ p, p = placeI xi L.length := ⟨_, rfl⟩
              have hpl : p < L.length := by rw [hp]; exact placeI_lt _ _ h0
              obtain ⟨x, hx⟩ : ∃ x, L[p]? = some x := ⟨_, List.getElem?_eq_getElem hpl⟩
              have hxs := HSH.out x (List.mem_of_getElem? hx)
              have HPL := Lib.hid (fun w' => refPlace27_any xi L.length h0 (by omega) w')
              rw [← hp] at HPL
              have HHX := Lib.hid (And.intro hp.symm (And.intro hx hpl))
              have n1 : (0 : Int) < (L.length : Int) := by omega
              have b0 : (0 : Int) ≤ (p : Int) := by omega
              have b1 : (p : Int) < (L.length : Int) := by omega
              obtain ⟨g, hma, c0, c1, c2, c3⟩ := (lets_own HSW.out.row).at_ p _ hx
              subst hma
              by_cases hz : x.b.size = 0
              · have HTU := Lib.hid (bturn_empty xi xa i n0 bb _ L x W HSW.out.bag (by omega) h0 p hp.symm hx hz)
                have z1 : ¬ (0 : Int) < (x.b.size : Int) := by omega
                obtain ⟨xt, xf, xk, xbd⟩ := x
                dsimp only at c0 c1 c2 c3 z1 hz
                clear hz hx hp hxs hpl
                go_wp2_with fail
                refine (HPL.out _).mono ?_
                rintro e w5 ⟨rfl, rfl⟩
                go_wp2_with fail
                refine HTU.out.mono ?_
                rintro e w6 ⟨rfl, g6⟩
                have HF := Lib.hid ((HSW.out.go g6).less)
                clear g6
                go_wp2_with fail
                go_meet
                case rel => exact ⟨L, _, rfl, by omega, HSH, HF⟩
              · have HTU := Lib.hid (bturn_k xi xa i hi100 n0 bb _ L x W HSW.out.bag (by omega) h0 p hp.symm hx (by omega) (by omega) HSW.out.n0l)
                have z1 : (0 : Int) < (x.b.size : Int) := by omega
                have z2 : 0 < x.b.size := by omega
                have z3 : decide (0 < x.b.size) = true := decide_eq_true z2
                have HP2 := Lib.hid (fun w' => refPlace27_any xa x.b.size (by omega) (by omega) w')
                obtain ⟨q5, hq5⟩ : ∃ q5, placeI xa x.b.size = q5 := ⟨_, rfl⟩
                have hq5l := placeI_lt xa x.b.size (by omega)
                rw [hq5] at HP2 hq5l
                have HFL := Lib.hid (fun W => flip_at x.b xa i hi100 (by omega) W q5 hq5.symm)
                have u0 : (0 : Int) ≤ (q5 : Int) := by omega
                have u1 : (q5 : Int) < (x.b.size : Int) := by omega
                have hxe : L[p] = x := (List.getElem?_eq_some_iff.1 hx).2
                obtain ⟨x', hx'⟩ : ∃ x' : LetS, x.body (turnB x.b xa i) = x' := ⟨_, rfl⟩
                have hx's : x'.b.size ≤ 10 := by rw [← hx']; show (turnB x.b xa i).size ≤ 10; rw [turnB_size]; exact hxs
                rw [hx'] at HTU
                obtain ⟨TB, hTB⟩ : ∃ TB, turnB x.b xa i = TB := ⟨_, rfl⟩
                have hset : ∀ xs, xs = letsV L → xs.set (p * 4 + 3) (.string TB) = letsV (L.set p x') := fun xs e => by
                  rw [e, ← hTB, letsV_body L p hpl, hxe, hx']
                have HXX := Lib.hid (And.intro hTB (And.intro hset hx's))
                have HLL : Hid (0 + L.length ≤ maxLen ∧ (0 + L.length) * 40 ≤ 140737488355328 ∧ (letsV L).length = L.length * 4) := Lib.hid ⟨by unfold maxLen; omega, by omega, letsV_len L⟩
                obtain ⟨i0, hti, hz0, hz1, hz2⟩ := info_parts infoLet
                obtain ⟨xt, xf, xk, xbd⟩ := x
                dsimp only at c0 c1 c2 c3 z1 z2 z3 hz HP2 HFL u1
                have HPP := Lib.hid (And.intro hpl (And.intro hx hxs))
                clear hz hx hp hxs hpl hxe hx' hTB hset hx's hq5 hq5l hi100
                go_wp2_with fail
                refine (HPL.out _).mono ?_
                rintro e w5 ⟨rfl, rfl⟩
                go_wp2_with fail
                refine HTU.out.mono ?_
                rintro e w6 ⟨rfl, k6, t6⟩
                have HS6 := Lib.hid (HSW.out.turned k6 t6)
                have hXB6 := t6.inX List.mem_cons_self HB.out
                obtain ⟨y0, y1, y2, y3⟩ := cells4B hXB6
                obtain ⟨g', hg', c0, c1, c2, c3⟩ := (lets_own HS6.out.row).at_ p _ HPP.out.2.1
                obtain rfl : g = g' := by simpa using hg'
                dsimp only at c0 c1 c2 c3
                obtain ⟨YB, C, v, W1, W2, F⟩ := HFL.out w6
                have f1 := F.sz
                have f2 := F.cv
                have f3 := F.c1
                have f4 := F.f1
                have f5 := F.x1
                have f6 := F.w2
                obtain ⟨y0, y1', y2', y3⟩ := cells4B (F.g1.heap hXB6 (by simp))
                have HS7 := Lib.hid (HS6.out.go F.g2)
                obtain ⟨BB, hBB⟩ : ∃ BB, W2.heap.size = BB := ⟨_, rfl⟩
                have eE : (W2.alloc (.cells #[] 30)).ownsRow BB 30 4 (.slice (some ⟨BB, 0, none⟩) 0 0) 0 [] := by
                  have := own_emptyB W2 BB (by omega)
                  rw [hBB] at this
                  exact this
                have gE : W2.grownBy (W2.alloc (.cells #[] 30)) none := World.grownBy_alloc W2 _ none
                have hbs : BB ≤ (W2.alloc (.cells #[] 30)).heap.size := by rw [World.size_alloc]; omega
                have hnews : ∀ j u, (letsV L)[j]? = some u → (W2.alloc (.cells #[] 30)).cell? ((⟨g, 0, none⟩ : Addr).add j) = some u := fun j u hu => by
                  have hj := (List.getElem?_eq_some_iff.1 hu).1
                  rw [letsV_len] at hj
                  rw [addZB g j, (HS7.out.go gE).row.cellAt j hj, hu]
                have HBK := Lib.hid F.back
                have HTB := HXX.out.1
                (try dsimp only at HTB)
                rw [HTB] at HBK
                have HNX : Hid (∀ (w9 : World) (g9 c9 : Nat), (W2.alloc (.cells #[] 30)).grownBy w9 (Value.slice (some ⟨BB, 0, none⟩) 0 0).ownBlock → w9.ownsRow BB 30 4 (.slice (some ⟨g9, 0, none⟩) (0 + L.length) c9) (0 + L.length) ([] ++ letsV L) →
                    W2.grownBy w9 none ∧ w9.frozen? ⟨g9, p * 4 + 3, none⟩ = false ∧ (w9.cell? ⟨g9, p * 4 + 3, none⟩).isSome = true ∧ BS w n0 bb (ownOB (.slice (some ⟨g9, 0, none⟩) L.length c9)) (L.set p x') (L.set p x') (.slice (some ⟨g9, 0, none⟩) L.length c9) (w9.setCell ⟨g9, p * 4 + 3, none⟩ (.string TB))) := Lib.hid (fun w9 g9 c9 k9 ho9 => by
                  rw [Nat.zero_add, List.nil_append] at ho9
                  have k9' : W2.grownBy w9 none := grown_rowB gE k9 (fun y q => by have h1 : BB = y := Option.some.inj (show some BB = some y from q); omega)
                  have hst := ho9.stored (p * 4 + 3) (.string TB)
                  rw [HXX.out.2.1 _ rfl] at hst
                  have hlt := (ho9.lt g9 rfl).1
                  refine ⟨k9', ho9.frozenAt _, ?_, ?_⟩
                  · rw [ho9.cellAt _ (by have := HPP.out.1; omega), List.getElem?_eq_getElem (by rw [letsV_len]; have := HPP.out.1; omega)]
                    rfl
                  · refine HS7.out.next (grown_rowB k9' hst.2 (fun y q => by cases q; omega)) (by rw [hBB]; exact Nat.le_refl _) ?_
                    rw [List.length_set]
                    exact hst.1)
                have HWW := Lib.hid (And.intro f1 (And.intro f6 hBB))
                have HEE := Lib.hid (And.intro eE (And.intro hbs hnews))
                clear F f1 f6 hBB eE gE hbs hnews k6 t6 hXB6 hg' HTB HTU HSW HB HS6
                go_wp2_with fail
                refine (HPL.out _).mono ?_
                rintro e w7 ⟨rfl, rfl⟩
                go_wp2_with fail
                refine (HP2.out _).mono ?_
                rintro e w7 ⟨rfl, rfl⟩
                go_wp2_with (first
                  | rw [HWW.out.2.1]
                  | rw [HWW.out.2.2]
                  | (at_builtin; refine wpList_append_lies _ rfl _ _ 26 rfl BB 30 i0 (.agg #[.int .i64 0, .int .i64 0, .int .i64 0, .string ⟨#[]⟩]) 4 40 Try.underlying26 hti hz0 hz1 hz2 rfl (by decide) (.slice (some ⟨BB, 0, none⟩) 0 0) 0 [] rfl HEE.out.1 ⟨g, 0, none⟩ L.length mc (letsV L) rfl HLL.out.2.2 HEE.out.2.2 (letsV_onecell L) h0 HLL.out.1 HLL.out.2.1 HEE.out.2.1 _ rfl ?_; intro g9 c9 w9 ho9 hg9 hor9 hlt9; clear hor9 hlt9; have hx9 := HNX.out w9 g9 c9 hg9 ho9; have f9 := hx9.2.1; have hs9 := hx9.2.2.1; obtain ⟨u9, hu9⟩ := Option.isSome_iff_exists.1 hs9; have hcv9 := HBK.out w9 hx9.1; have HF9 := Lib.hid hx9.2.2.2; clear hx9 hs9 ho9 hg9))
                go_meet
                case rel => exact ⟨_, _, rfl, by rw [List.length_set]; omega, Lib.hid (HSH.out.set HXX.out.2.2 p), HF9⟩
            · obtain rfl : L = [] := by cases L with | nil => rfl | cons a r => simp at h0
              have HTU := Lib.hid (bturn_none xi xa i n0 bb _ W HSW.out.bag)
              have n1 : ¬ (0 : Int) < (([] : List LetS).length : Int) := by simp
              go_wp2_with fail
              refine HTU.out.mono ?_
              rintro e w5 ⟨rfl, g5⟩
              have HF := Lib.hid ((HSW.out.go g5).less)
              clear g5
              go_wp2_with fail
              go_meet
              case rel => exact ⟨[], _, rfl, by simp, HSH, HF⟩
            -- END a4
          · -- BEGIN a5
            as_aux_lemma =>
            rw [show ((5 : Nat) : Int) = 5 from rfl] at hq
            obtain ⟨z, hz⟩ : ∃ z : Int, ((low2B xi : Nat) : Int) = z := ⟨_, rfl⟩
            have hand := and3B xi
            rw [hz] at hand
            have hnl : ((L.length : Nat) : Int) - 1 = ((L.length : Nat) : Int) - 1 := rfl
            have hll1 : L.length ≤ 1000 := by omega
            have r5 : IntKind.i64.wrap ((L.length : Int) - 1) = (L.length : Int) - 1 := IntWalk.i64_in _ (by omega)
            clear hnl
            go_wp2_with fail
            go_loopw [15, 16] (fun wv kv wx => ∃ kk : Nat, kk ≤ L.length ∧ kv = .int .i64 ((kk : Int) - 1) ∧ Hid (wv = .int .i64 (wantL L z kk)) ∧ Hid (W.grownBy wx none)) (fun _ kv _ => (intOf kv + 1).toNat)
            case atStart => exact ⟨L.length, Nat.le_refl _, rfl, Lib.hid (by rw [wantL_end]), Lib.hid (World.grownBy.refl _ _)⟩
            case round =>
              rename World => wx
              obtain ⟨kk, hk, rfl, HWV, HG⟩ := hrel
              obtain ⟨wt, hwt⟩ : ∃ wt, wantL L z kk = wt := ⟨_, rfl⟩
              have hwv := HWV.out
              rw [hwt] at hwv
              subst hwv
              have HWT := Lib.hid hwt
              clear hwt HWV
              have HSX := Lib.hid (HSW.out.go HG.out)
              obtain ⟨z0, z1, z2, z3⟩ := cells4B (HG.out.heap HB.out (by simp))
              rcases Nat.eq_zero_or_pos kk with h0 | h0
              · subst h0
                have n1 : ¬ ((0 : Int) ≤ ((0 : Nat) : Int) - 1) := by omega
                have HFO := Lib.hid (bfor_k z n0 bb _ L wx HSX.out.bag (by omega))
                have hwf : forL L z = wt := by rw [← wantL_zero]; exact HWT.out
                rw [hwf] at HFO
                have n2 : (wt != wt) = false := by simp
                clear hwf y0 y1 y2
                go_wp2_with fail
                refine HFO.out.mono ?_
                rintro e wz ⟨rfl, gz⟩
                have HF := Lib.hid ((HSX.out.go gz).less)
                clear gz
                go_wp2_with fail
                go_meet
                case rel => exact ⟨L, _, rfl, by omega, HSH, HF⟩
              · obtain ⟨m, rfl⟩ : ∃ m, kk = m + 1 := ⟨kk - 1, by omega⟩
                have e1 : (((m + 1 : Nat) : Int) - 1) = (m : Int) := by omega
                rw [e1]
                have n1 : (0 : Int) ≤ (m : Int) := by omega
                have n3 : (m : Int) < (L.length : Int) := by omega
                have r6 : IntKind.i64.wrap ((m : Int) - 1) = (m : Int) - 1 := IntWalk.i64_in _ (by omega)
                obtain ⟨x, hx⟩ : ∃ x, L[m]? = some x := ⟨_, List.getElem?_eq_getElem (by omega)⟩
                obtain ⟨g, rfl, c0, c1, c2, c3⟩ := (lets_own HSX.out.row).at_ m x hx
                have hst := wantL_step L z m x hx
                obtain ⟨xt, xf, xk, xbd⟩ := x
                dsimp only at c0 c1 c2 c3 hst
                have c0' : wx.drew.cell? ⟨g, m * 4, none⟩ = some (.int .i64 xt) := c0
                have z1' : wx.drew.cell? ⟨XB, 1, none⟩ = some (.int .i64 xi) := z1
                have HWM := Lib.hid (And.intro hst HWT.out)
                clear hst hx c1 c2 c3 y0 y1 y2 e1
                obtain ⟨bz, hbz⟩ : ∃ bz : Bool, (xt == z) = bz := ⟨_, rfl⟩
                have HBZ := Lib.hid hbz
                go_upto_region 47 with fail
                go_cut [205] from 193 to 206 (fun v wy => v = .bool bz ∧ Hid (W.grownBy wy none))
                case first =>
                  have gd : W.grownBy wx.drew none := grownBy_drew HG.out
                  go_region
                  all_goals
                    go_wp2_with fail
                    go_meet
                    case rel => exact ⟨rfl, Lib.hid gd⟩
                case rest =>
                  rename World => wy
                  obtain ⟨rfl, HGY⟩ := hcut
                  have hb := HBZ.out
                  cases bz
                  · have hne : ¬ xt = z := by simpa using hb
                    clear hb hbz HBZ
                    go_wp2_with fail
                    go_roundw
                    case rel => exact ⟨m, by omega, by first | rfl | go_num, Lib.hid (by have := HWM.out.1; rw [if_neg hne] at this; rw [this, HWM.out.2]), HGY⟩
                    case measure => simp [intOf] <;> omega
                  · have hne : xt = z := by simpa using hb
                    clear hb hbz HBZ
                    go_wp2_with fail
                    go_roundw
                    case rel => exact ⟨m, by omega, by first | rfl | go_num, Lib.hid (by have := HWM.out.1; rw [if_pos hne] at this; rw [this]), HGY⟩
                    case measure => simp [intOf] <;> omega
            -- END a5
          · -- BEGIN aw
            as_aux_lemma =>
            have n2 : ((q : Int) == 2) = false := beq_eq_false_iff_ne.2 (by omega)
            have n3 : ((q : Int) == 3) = false := beq_eq_false_iff_ne.2 (by omega)
            have n4 : ((q : Int) == 4) = false := beq_eq_false_iff_ne.2 (by omega)
            have n5 : ((q : Int) == 5) = false := beq_eq_false_iff_ne.2 (by omega)
            have a1 := and3B xi
            have a2 := and3B xa
            obtain ⟨x, hx⟩ : ∃ x : LetS, x = ⟨low2B xi, low2B xa, i, t⟩ := ⟨_, rfl⟩
            have hxs : x.b.size ≤ 10 := by rw [hx]; exact ht
            have hg6 := World.grownBy_alloc W (.cells #[.int .i64 (low2B xi), .int .i64 (low2B xa), .int .i64 i, .string t] 30) none
            obtain ⟨YB, hYB⟩ : ∃ YB, W.heap.size = YB := ⟨_, rfl⟩
            have hb6 := heap_alloc_at W (.cells #[.int .i64 (low2B xi), .int .i64 (low2B xa), .int .i64 i, .string t] 30) YB hYB
            obtain ⟨W6, hW6⟩ : ∃ W6, W.alloc (.cells #[.int .i64 (low2B xi), .int .i64 (low2B xa), .int .i64 i, .string t] 30) = W6 := ⟨_, rfl⟩
            rw [hW6] at hg6 hb6
            have HS6 := Lib.hid (HSW.out.box hg6 YB (by omega) (Array.getElem?_eq_some_iff.1 hb6).1)
            obtain ⟨z0, z1, z2, z3⟩ := cells4B hb6
            have HPU := Lib.hid (bput_k x n0 bb _ L W6 HS6.out.bag (by omega) HS6.out.xl HS6.out.n0l)
            rw [hx] at HPU
            unfold LetS.val LetS.cells at HPU
            dsimp only at HPU
            have HB6 := Lib.hid hb6
            have HW6 := Lib.hid (And.intro hW6 hYB)
            have HXX := Lib.hid (And.intro hx hxs)
            clear hg6 hb6 hW6 hYB hx hxs HSW HB
            go_wp2_with (first | rw [HW6.out.1, HW6.out.2] | rw [HW6.out.1])
            refine HPU.out.mono ?_
            rintro e wq ⟨rfl, k7, t7⟩
            have hS7 := HS6.out.turned k7 t7
            have hb7 := t7.inX List.mem_cons_self HB6.out
            obtain ⟨z0, z1, z2, z3⟩ := cells4B hb7
            have HS7 := Lib.hid (And.intro hS7 hb7)
            clear hS7 hb7 k7 t7 HPU HS6 HB6
            go_upto_region 15 with fail
            have HSQ := Lib.hid HS7.out.1
            have HXS : Hid ((⟨low2B xi, low2B xa, i, t⟩ : LetS).b.size ≤ 10) := Lib.hid ht
            have HCK : Hid (∀ w', wq.grownBy w' none → w'.cell? ⟨YB, 0, none⟩ = some (.int .i64 (low2B xi)) ∧ w'.cell? ⟨YB, 1, none⟩ = some (.int .i64 (low2B xa)) ∧ w'.cell? ⟨YB, 2, none⟩ = some (.int .i64 i) ∧ w'.cell? ⟨YB, 3, none⟩ = some (.string t)) := Lib.hid (fun w' k => ⟨k.cell z0 (by simp), k.cell z1 (by simp), k.cell z2 (by simp), k.cell z3 (by simp)⟩)
            obtain ⟨i0, hti, hz0, hz1, hz2⟩ := info_parts infoLet
            obtain ⟨BB, hBB⟩ : ∃ BB, wq.heap.size = BB := ⟨_, rfl⟩
            have HROW : Hid (∀ w', wq.grownBy w' none → w'.ownsRow n0 30 4 (.slice ma L.length mc) L.length (letsV L)) := Lib.hid (fun w' k => (HSQ.out.go k).row)
            have HBS : Hid (∀ w', wq.grownBy w' none → BB ≤ w'.heap.size) := Lib.hid (fun w' k => by rw [← hBB]; exact k.size)
            have HL2 : Hid (0 + L.length ≤ maxLen ∧ (0 + L.length) * 40 ≤ 140737488355328 ∧ L.length + 1 ≤ maxLen ∧ (L.length + 1) * 40 ≤ 140737488355328) := Lib.hid ⟨by unfold maxLen; omega, by omega, by unfold maxLen; omega, by omega⟩
            have gE : wq.grownBy (wq.alloc (.cells #[] 30)).drew none := grownBy_drew (World.grownBy_alloc wq _ none)
            have gX : wq.grownBy (wq.alloc (.cells #[.int .i64 (low2B xi), .int .i64 (low2B xa), .int .i64 i, .string t] 30)).drew none := grownBy_drew (World.grownBy_alloc wq _ none)
            have gEX : wq.grownBy ((wq.alloc (.cells #[] 30)).alloc (.cells #[.int .i64 (low2B xi), .int .i64 (low2B xa), .int .i64 i, .string t] 30)).drew none := grownBy_drew (grownBy_alloc' (World.grownBy_alloc wq _ none) _)
            have gXE : wq.grownBy ((wq.alloc (.cells #[.int .i64 (low2B xi), .int .i64 (low2B xa), .int .i64 i, .string t] 30)).alloc (.cells #[] 30)).drew none := grownBy_drew (grownBy_alloc' (World.grownBy_alloc wq _ none) _)
            have hE1 : (wq.alloc (.cells #[] 30)).heap.size = BB + 1 := by rw [World.size_alloc, hBB]
            have hX1 : (wq.alloc (.cells #[.int .i64 (low2B xi), .int .i64 (low2B xa), .int .i64 i, .string t] 30)).heap.size = BB + 1 := by rw [World.size_alloc, hBB]
            have eE0 : (wq.alloc (.cells #[] 30)).ownsRow BB 30 4 (.slice (some ⟨BB, 0, none⟩) 0 0) 0 [] := by
              have := own_emptyB wq BB (by omega)
              rw [hBB] at this
              exact this
            have eE : (wq.alloc (.cells #[] 30)).drew.ownsRow BB 30 4 (.slice (some ⟨BB, 0, none⟩) 0 0) 0 [] := eE0
            have eEX : ((wq.alloc (.cells #[] 30)).alloc (.cells #[.int .i64 (low2B xi), .int .i64 (low2B xa), .int .i64 i, .string t] 30)).drew.ownsRow BB 30 4 (.slice (some ⟨BB, 0, none⟩) 0 0) 0 [] := own_keepB eE0 (grownBy_drew (World.grownBy_alloc (wq.alloc (.cells #[] 30)) (.cells #[.int .i64 (low2B xi), .int .i64 (low2B xa), .int .i64 i, .string t] 30) none)) (fun _ _ e => by cases e)
            have eXE : ((wq.alloc (.cells #[.int .i64 (low2B xi), .int .i64 (low2B xa), .int .i64 i, .string t] 30)).alloc (.cells #[] 30)).drew.ownsRow BB 30 4 (.slice (some ⟨BB + 1, 0, none⟩) 0 0) 0 [] := by
              have := own_emptyB (wq.alloc (.cells #[.int .i64 (low2B xi), .int .i64 (low2B xa), .int .i64 i, .string t] 30)) BB (by omega)
              rw [hX1] at this
              exact this
            have xEX : ((wq.alloc (.cells #[] 30)).alloc (.cells #[.int .i64 (low2B xi), .int .i64 (low2B xa), .int .i64 i, .string t] 30)).drew.heap[BB + 1]? = some (.cells #[.int .i64 (low2B xi), .int .i64 (low2B xa), .int .i64 i, .string t] 30 (0, 0)) := heap_alloc_at _ _ _ hE1
            have xXE : ((wq.alloc (.cells #[.int .i64 (low2B xi), .int .i64 (low2B xa), .int .i64 i, .string t] 30)).alloc (.cells #[] 30)).drew.heap[BB]? = some (.cells #[.int .i64 (low2B xi), .int .i64 (low2B xa), .int .i64 i, .string t] 30 (0, 0)) := (World.grownBy_alloc (wq.alloc (.cells #[.int .i64 (low2B xi), .int .i64 (low2B xa), .int .i64 i, .string t] 30)) (.cells #[] 30) none).heap (heap_alloc_at _ _ _ hBB) (by simp)
            have HNX : Hid (∀ (w9 : World) (g9 c9 : Nat), wq.grownBy w9 none → w9.ownsRow BB 30 4 (.slice (some ⟨g9, 0, none⟩) (L.length + 1) c9) (L.length + 1) (letsV L ++ [.int .i64 (low2B xi), .int .i64 (low2B xa), .int .i64 i, .string t]) → (L ++ [(⟨low2B xi, low2B xa, i, t⟩ : LetS)]).length ≤ i + 1 ∧ Hid (Short (L ++ [(⟨low2B xi, low2B xa, i, t⟩ : LetS)])) ∧ Hid (BS w n0 bb (ownOB (.slice (some ⟨g9, 0, none⟩) (L.length + 1) c9)) (L ++ [(⟨low2B xi, low2B xa, i, t⟩ : LetS)]) (L ++ [(⟨low2B xi, low2B xa, i, t⟩ : LetS)]) (.slice (some ⟨g9, 0, none⟩) (L.length + 1) c9) w9)) := Lib.hid (fun w9 g9 c9 k9 ho9 => ⟨by rw [List.length_append, List.length_singleton]; omega, Lib.hid (HSH.out.add HXS.out), Lib.hid (HSQ.out.next k9 (by rw [hBB]; exact Nat.le_refl _) (by rw [List.length_append, List.length_singleton, letsV_append, letsV_one]; exact ho9))⟩)
            refine wp_region_held_drew (S := (fun w' => w'.cell? ⟨YB, 0, none⟩ = some (.int .i64 (low2B xi)) ∧ w'.cell? ⟨YB, 1, none⟩ = some (.int .i64 (low2B xa)) ∧ w'.cell? ⟨YB, 2, none⟩ = some (.int .i64 i) ∧ w'.cell? ⟨YB, 3, none⟩ = some (.string t))) (by kernel_rfl) ?hspw (fun hHeld => ?rgpw)
            case hspw => exact HCK.out _ (grownBy_drew (World.grownBy.refl wq none))
            case rgpw =>
              refine wpAnyH_take (i := 1) (v := ?vpw_0) rfl (by kernel_rfl) (by kernel_rfl) (by kernel_rfl) (fun _ _ _ h => h) (Or.inl ⟨by kernel_rfl, ?hpw_0⟩) (by assumption) ?rpw_0
              case hpw_0 => (intro w0 hSw; (try dsimp only at hSw); go_simp; (try with_reducible rfl))
              try simp only [Act.put, List.setIfInBounds_toArray, List.set_cons_zero, List.set_cons_succ]
              refine wpAnyH_take (i := 3) (v := ?vpw_1) rfl (by kernel_rfl) (by kernel_rfl) (by kernel_rfl) (fun _ _ _ h => h) (Or.inl ⟨by kernel_rfl, ?hpw_1⟩) (by assumption) ?rpw_1
              case hpw_1 => (intro w0 hSw; (try dsimp only at hSw); go_simp; (try with_reducible rfl))
              try simp only [Act.put, List.setIfInBounds_toArray, List.set_cons_zero, List.set_cons_succ]
              refine wpAnyH_ready (rs := [0, 4]) (by kernel_rfl) (by simp) ?_
              refine AllReadyH.cons rfl (fun K hK => ?apw_3) ?bpw_3
              case apw_3 =>
                (go_simp; have ck := HCK.out _ gE)
                refine hK.out _ _ ?spw_3 (fun hHeld => ?tpw_3)
                case spw_3 => exact ck
                case tpw_3 =>
                  clear hK K
                  try simp only [Act.put, List.setIfInBounds_toArray, List.set_cons_zero, List.set_cons_succ]
                  refine wpAnyH_ready (rs := [2, 4]) (by kernel_rfl) (by simp) ?_
                  refine AllReadyH.cons rfl (fun K hK => ?apw_4) ?bpw_4
                  case apw_4 =>
                    (refine step_append_rowB _ rfl (.tmp 62) (.tmp 63) 26 rfl BB 30 i0 (.agg #[.int .i64 0, .int .i64 0, .int .i64 0, .string ⟨#[]⟩]) 4 40 Try.underlying26 hti hz0 hz1 hz2 rfl (by decide) (.slice (some ⟨BB, 0, none⟩) 0 0) 0 [] rfl eE n0 L.length (.slice ma L.length mc) (letsV L) rfl (HROW.out _ gE) (letsV_onecell L) HL2.out.1 HL2.out.2.1 (HBS.out _ gE) ?_; intro v7 w7 ho7 hg7 hv7; clear hv7; (try simp only [Nat.zero_add, List.nil_append] at ho7); have g7 : wq.grownBy w7 none := grown_rowB gE hg7 (fun y q => by have h1 : BB = y := Option.some.inj (show some (BB) = some y from q); omega); have ck := HCK.out _ g7)
                    refine hK.out _ _ ?spw_4 (fun hHeld => ?tpw_4)
                    case spw_4 => exact ck
                    case tpw_4 =>
                      clear hK K
                      try simp only [Act.put, List.setIfInBounds_toArray, List.set_cons_zero, List.set_cons_succ]
                      refine wpAnyH_ready (rs := [4]) (by kernel_rfl) (by simp) ?_
                      refine AllReadyH.cons rfl (fun K hK => ?apw_5) ?bpw_5
                      case apw_5 =>
                        (go_simp; have g8 := grownBy_trans g7 (World.grownBy_alloc w7 (.cells #[.int .i64 (low2B xi), .int .i64 (low2B xa), .int .i64 i, .string t] 30) none); have ck := HCK.out _ g8)
                        refine hK.out _ _ ?spw_5 (fun hHeld => ?tpw_5)
                        case spw_5 => exact ck
                        case tpw_5 =>
                          clear hK K
                          try simp only [Act.put, List.setIfInBounds_toArray, List.set_cons_zero, List.set_cons_succ]
                          refine wpAnyH_ready (rs := [5]) (by kernel_rfl) (by simp) ?_
                          refine AllReadyH.cons rfl (fun K hK => ?apw_6) ?bpw_6
                          case apw_6 =>
                            (refine step_append_lies _ rfl (.tmp 64) (.tmp 66) 26 rfl BB 30 i0 (.agg #[.int .i64 0, .int .i64 0, .int .i64 0, .string ⟨#[]⟩]) 4 40 Try.underlying26 hti hz0 hz1 hz2 rfl (by decide) v7 L.length (letsV L) rfl (own_keepB ho7 (World.grownBy_alloc w7 (.cells #[.int .i64 (low2B xi), .int .i64 (low2B xa), .int .i64 i, .string t] 30) none) (fun _ _ e => by cases e)) ⟨w7.heap.size, 0, none⟩ 1 1 [.int .i64 (low2B xi), .int .i64 (low2B xa), .int .i64 i, .string t] rfl rfl (World.news_of_block (heap_alloc_at w7 (.cells #[.int .i64 (low2B xi), .int .i64 (low2B xa), .int .i64 i, .string t] 30) _ rfl)) (letsV_onecell [(⟨low2B xi, low2B xa, i, t⟩ : LetS)]) Nat.zero_lt_one HL2.out.2.2.1 HL2.out.2.2.2 (HBS.out _ g8) _ rfl ?_; intro g9 c9 w9 ho9 hg9 hor9 hlt9; have g99 : wq.grownBy w9 none := grown_rowB g8 hg9 (fun y q => by have := (ho7.lt y q).1; omega); have ck := HCK.out _ g99; have HF := Lib.hid (HNX.out w9 g9 c9 g99 ho9); clear hor9 hlt9)
                            refine hK.out _ _ ?spw_6 (fun hHeld => ?tpw_6)
                            case spw_6 => exact ck
                            case tpw_6 =>
                              clear hK K
                              try simp only [Act.put, List.setIfInBounds_toArray, List.set_cons_zero, List.set_cons_succ]
                              refine wpAnyH_ready (rs := [6]) (by kernel_rfl) (by simp) ?_
                              refine AllReadyH.cons rfl (fun K hK => ?apw_7) ?bpw_7
                              case apw_7 =>
                                go_simp
                                refine hK.out _ _ ?spw_7 (fun hHeld => ?tpw_7)
                                case spw_7 => exact ck
                                case tpw_7 =>
                                  clear hK K
                                  try simp only [Act.put, List.setIfInBounds_toArray, List.set_cons_zero, List.set_cons_succ]
                                  refine wpAnyH_done (by kernel_rfl) ?_ _
                                  try dsimp only
                                  (go_wp2_with fail; go_meet; case rel => exact ⟨_, _, rfl, HF.out.1, HF.out.2.1, HF.out.2.2⟩)
                              case bpw_7 =>
                                exact AllReadyH.nil
                          case bpw_6 =>
                            exact AllReadyH.nil
                      case bpw_5 =>
                        exact AllReadyH.nil
                  case bpw_4 =>
                    refine AllReadyH.cons rfl (fun K hK => ?apw_8) ?bpw_8
                    case apw_8 =>
                      (go_simp; have ck := HCK.out _ gEX)
                      refine hK.out _ _ ?spw_8 (fun hHeld => ?tpw_8)
                      case spw_8 => exact ck
                      case tpw_8 =>
                        clear hK K
                        try simp only [Act.put, List.setIfInBounds_toArray, List.set_cons_zero, List.set_cons_succ]
                        refine wpAnyH_ready (rs := [2]) (by kernel_rfl) (by simp) ?_
                        refine AllReadyH.cons rfl (fun K hK => ?apw_9) ?bpw_9
                        case apw_9 =>
                          (refine step_append_rowB _ rfl (.tmp 62) (.tmp 63) 26 rfl BB 30 i0 (.agg #[.int .i64 0, .int .i64 0, .int .i64 0, .string ⟨#[]⟩]) 4 40 Try.underlying26 hti hz0 hz1 hz2 rfl (by decide) (.slice (some ⟨BB, 0, none⟩) 0 0) 0 [] rfl eEX n0 L.length (.slice ma L.length mc) (letsV L) rfl (HROW.out _ gEX) (letsV_onecell L) HL2.out.1 HL2.out.2.1 (HBS.out _ gEX) ?_; intro v7 w7 ho7 hg7 hv7; clear hv7; (try simp only [Nat.zero_add, List.nil_append] at ho7); have g7 : wq.grownBy w7 none := grown_rowB gEX hg7 (fun y q => by have h1 : BB = y := Option.some.inj (show some (BB) = some y from q); omega); have ck := HCK.out _ g7)
                          refine hK.out _ _ ?spw_9 (fun hHeld => ?tpw_9)
                          case spw_9 => exact ck
                          case tpw_9 =>
                            clear hK K
                            try simp only [Act.put, List.setIfInBounds_toArray, List.set_cons_zero, List.set_cons_succ]
                            refine wpAnyH_ready (rs := [5]) (by kernel_rfl) (by simp) ?_
                            refine AllReadyH.cons rfl (fun K hK => ?apw_10) ?bpw_10
                            case apw_10 =>
                              (refine step_append_lies _ rfl (.tmp 64) (.tmp 66) 26 rfl BB 30 i0 (.agg #[.int .i64 0, .int .i64 0, .int .i64 0, .string ⟨#[]⟩]) 4 40 Try.underlying26 hti hz0 hz1 hz2 rfl (by decide) v7 L.length (letsV L) rfl ho7 ⟨BB + 1, 0, none⟩ 1 1 [.int .i64 (low2B xi), .int .i64 (low2B xa), .int .i64 i, .string t] rfl rfl (World.news_of_block (hg7.heap xEX (fun q => absurd (Option.some.inj (show some BB = some (BB + 1) from q)) (by omega)))) (letsV_onecell [(⟨low2B xi, low2B xa, i, t⟩ : LetS)]) Nat.zero_lt_one HL2.out.2.2.1 HL2.out.2.2.2 (HBS.out _ g7) _ rfl ?_; intro g9 c9 w9 ho9 hg9 hor9 hlt9; have g99 : wq.grownBy w9 none := grown_rowB g7 hg9 (fun y q => by have := (ho7.lt y q).1; omega); have ck := HCK.out _ g99; have HF := Lib.hid (HNX.out w9 g9 c9 g99 ho9); clear hor9 hlt9)
                              refine hK.out _ _ ?spw_10 (fun hHeld => ?tpw_10)
                              case spw_10 => exact ck
                              case tpw_10 =>
                                clear hK K
                                try simp only [Act.put, List.setIfInBounds_toArray, List.set_cons_zero, List.set_cons_succ]
                                refine wpAnyH_ready (rs := [6]) (by kernel_rfl) (by simp) ?_
                                refine AllReadyH.cons rfl (fun K hK => ?apw_11) ?bpw_11
                                case apw_11 =>
                                  go_simp
                                  refine hK.out _ _ ?spw_11 (fun hHeld => ?tpw_11)
                                  case spw_11 => exact ck
                                  case tpw_11 =>
                                    clear hK K
                                    try simp only [Act.put, List.setIfInBounds_toArray, List.set_cons_zero, List.set_cons_succ]
                                    refine wpAnyH_done (by kernel_rfl) ?_ _
                                    try dsimp only
                                    (go_wp2_with fail; go_meet; case rel => exact ⟨_, _, rfl, HF.out.1, HF.out.2.1, HF.out.2.2⟩)
                                case bpw_11 =>
                                  exact AllReadyH.nil
                            case bpw_10 =>
                              exact AllReadyH.nil
                        case bpw_9 =>
                          exact AllReadyH.nil
                    case bpw_8 =>
                      exact AllReadyH.nil
              case bpw_3 =>
                refine AllReadyH.cons rfl (fun K hK => ?apw_12) ?bpw_12
                case apw_12 =>
                  (go_simp; have ck := HCK.out _ gX)
                  refine hK.out _ _ ?spw_12 (fun hHeld => ?tpw_12)
                  case spw_12 => exact ck
                  case tpw_12 =>
                    clear hK K
                    try simp only [Act.put, List.setIfInBounds_toArray, List.set_cons_zero, List.set_cons_succ]
                    refine wpAnyH_ready (rs := [0]) (by kernel_rfl) (by simp) ?_
                    refine AllReadyH.cons rfl (fun K hK => ?apw_13) ?bpw_13
                    case apw_13 =>
                      (go_simp; have ck := HCK.out _ gXE)
                      refine hK.out _ _ ?spw_13 (fun hHeld => ?tpw_13)
                      case spw_13 => exact ck
                      case tpw_13 =>
                        clear hK K
                        try simp only [Act.put, List.setIfInBounds_toArray, List.set_cons_zero, List.set_cons_succ]
                        refine wpAnyH_ready (rs := [2]) (by kernel_rfl) (by simp) ?_
                        refine AllReadyH.cons rfl (fun K hK => ?apw_14) ?bpw_14
                        case apw_14 =>
                          (refine step_append_rowB _ rfl (.tmp 62) (.tmp 63) 26 rfl BB 30 i0 (.agg #[.int .i64 0, .int .i64 0, .int .i64 0, .string ⟨#[]⟩]) 4 40 Try.underlying26 hti hz0 hz1 hz2 rfl (by decide) (.slice (some ⟨BB + 1, 0, none⟩) 0 0) 0 [] rfl eXE n0 L.length (.slice ma L.length mc) (letsV L) rfl (HROW.out _ gXE) (letsV_onecell L) HL2.out.1 HL2.out.2.1 (HBS.out _ gXE) ?_; intro v7 w7 ho7 hg7 hv7; clear hv7; (try simp only [Nat.zero_add, List.nil_append] at ho7); have g7 : wq.grownBy w7 none := grown_rowB gXE hg7 (fun y q => by have h1 : BB + 1 = y := Option.some.inj (show some (BB + 1) = some y from q); omega); have ck := HCK.out _ g7)
                          refine hK.out _ _ ?spw_14 (fun hHeld => ?tpw_14)
                          case spw_14 => exact ck
                          case tpw_14 =>
                            clear hK K
                            try simp only [Act.put, List.setIfInBounds_toArray, List.set_cons_zero, List.set_cons_succ]
                            refine wpAnyH_ready (rs := [5]) (by kernel_rfl) (by simp) ?_
                            refine AllReadyH.cons rfl (fun K hK => ?apw_15) ?bpw_15
                            case apw_15 =>
                              (refine step_append_lies _ rfl (.tmp 64) (.tmp 66) 26 rfl BB 30 i0 (.agg #[.int .i64 0, .int .i64 0, .int .i64 0, .string ⟨#[]⟩]) 4 40 Try.underlying26 hti hz0 hz1 hz2 rfl (by decide) v7 L.length (letsV L) rfl ho7 ⟨BB, 0, none⟩ 1 1 [.int .i64 (low2B xi), .int .i64 (low2B xa), .int .i64 i, .string t] rfl rfl (World.news_of_block (hg7.heap xXE (fun q => absurd (Option.some.inj (show some (BB + 1) = some BB from q)) (by omega)))) (letsV_onecell [(⟨low2B xi, low2B xa, i, t⟩ : LetS)]) Nat.zero_lt_one HL2.out.2.2.1 HL2.out.2.2.2 (HBS.out _ g7) _ rfl ?_; intro g9 c9 w9 ho9 hg9 hor9 hlt9; have g99 : wq.grownBy w9 none := grown_rowB g7 hg9 (fun y q => by have := (ho7.lt y q).1; omega); have ck := HCK.out _ g99; have HF := Lib.hid (HNX.out w9 g9 c9 g99 ho9); clear hor9 hlt9)
                              refine hK.out _ _ ?spw_15 (fun hHeld => ?tpw_15)
                              case spw_15 => exact ck
                              case tpw_15 =>
                                clear hK K
                                try simp only [Act.put, List.setIfInBounds_toArray, List.set_cons_zero, List.set_cons_succ]
                                refine wpAnyH_ready (rs := [6]) (by kernel_rfl) (by simp) ?_
                                refine AllReadyH.cons rfl (fun K hK => ?apw_16) ?bpw_16
                                case apw_16 =>
                                  go_simp
                                  refine hK.out _ _ ?spw_16 (fun hHeld => ?tpw_16)
                                  case spw_16 => exact ck
                                  case tpw_16 =>
                                    clear hK K
                                    try simp only [Act.put, List.setIfInBounds_toArray, List.set_cons_zero, List.set_cons_succ]
                                    refine wpAnyH_done (by kernel_rfl) ?_ _
                                    try dsimp only
                                    (go_wp2_with fail; go_meet; case rel => exact ⟨_, _, rfl, HF.out.1, HF.out.2.1, HF.out.2.2⟩)
                                case bpw_16 =>
                                  exact AllReadyH.nil
                            case bpw_15 =>
                              exact AllReadyH.nil
                        case bpw_14 =>
                          exact AllReadyH.nil
                    case bpw_13 =>
                      exact AllReadyH.nil
                case bpw_12 =>
                  exact AllReadyH.nil
            -- END aw
    · by_cases h1 : i < an
      · have q1 : (i : Int) < (an : Int) := by omega
        have q2 : ¬ (i : Int) < 100 := by omega
        go_wp2_with fail
        go_ret
        exact ⟨rfl, HS.out.tn⟩
      · have q1 : ¬ (i : Int) < (an : Int) := by omega
        go_wp2_with fail
        go_ret
        exact ⟨rfl, HS.out.tn⟩
end Go.Proofs.Ytemgeelgkokpcaa
