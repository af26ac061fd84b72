/- The walk of the law HeaderChains. -/
import Derived.Test.YtioahjdojgcfdaaDoorHeaderChainsB9
import Derived.Test.YtioahjdojgcfdaaDoorHeaderChainsB7
namespace Go.Proofs.YtioahjdojgcfdaaDoor
open Go.RowKit
attribute [local irreducible] shaL

set_option maxRecDepth 100000 in
set_option maxHeartbeats 6400000 in
theorem headerChains_walk (e : Nat) (p : ByteArray) (d a : Int) (N : ByteArray) (e' : Nat) (p' : ByteArray) (d' a' : Int) (N' : ByteArray) (how : Nat) (he : e ≤ 18446744073709551615) (hp : p.size ≤ maxLen) (hN : N.size ≤ maxLen) (he' : e' ≤ 18446744073709551615) (hp' : p'.size ≤ maxLen) (hN' : N'.size ≤ maxLen) (hh : how ≤ 255) (w : World) (hr : ShaReady w) :
    Calls Tryd.prog 7 #[.agg #[.int .u64 e, .string p, .int .i64 d, .int .i64 a, .string N], .agg #[.int .u64 e', .string p', .int .i64 d', .int .i64 a', .string N'], .int .u8 how] w fun r w' => r = .returned (.bool true) ∧ w.grownBy w' none := by
  have HR := Lib.hid hr
  have HT1 := Lib.hid (fun w' => told_any e p d a N hp hN w')
  have HT2 := Lib.hid (fun w' => told_any e' p' d' a' N' hp' hN' w')
  obtain ⟨m, hm⟩ : ∃ m, w.heap.size = m := ⟨_, rfl⟩
  have hb0 := heap_alloc_at w (.cells #[.int .u64 e, .string p, .int .i64 d, .int .i64 a, .string N] 61) m hm
  have hg0 : w.grownBy (w.alloc (.cells #[.int .u64 e, .string p, .int .i64 d, .int .i64 a, .string N] 61)) none := World.grownBy_alloc _ _ _
  obtain ⟨W0, hW0⟩ : ∃ W0, w.alloc (.cells #[.int .u64 e, .string p, .int .i64 d, .int .i64 a, .string N] 61) = W0 := ⟨_, rfl⟩
  rw [hW0] at hb0 hg0
  have hs0 : W0.heap.size = m + 1 := by rw [← hW0, World.size_alloc, hm]
  have hb1 := heap_alloc_at W0 (.cells #[.int .u64 e', .string p', .int .i64 d', .int .i64 a', .string N'] 61) _ hs0
  have hg1 : W0.grownBy (W0.alloc (.cells #[.int .u64 e', .string p', .int .i64 d', .int .i64 a', .string N'] 61)) none := World.grownBy_alloc _ _ _
  obtain ⟨W1, hW1⟩ : ∃ W1, W0.alloc (.cells #[.int .u64 e', .string p', .int .i64 d', .int .i64 a', .string N'] 61) = W1 := ⟨_, rfl⟩
  rw [hW1] at hb1 hg1
  have HW := Lib.hid (And.intro hW0 (And.intro hs0 (And.intro hW1 hm)))
  have HG1 := Lib.hid (And.intro (grownBy_trans hg0 hg1) (And.intro (hg1.heap hb0 (by simp)) hb1))
  have HSP := Lib.hid (hdr_speaks W1 (hr.grown HG1.out.1))
  unfold maxLen at hp hN hp' hN'
  clear hr hb0 hg0 hW0 hm hs0 hb1 hg1 hW1
  go_enter Tryd.func7, Tryd.ntmps7
  go_wp2_with (first | rw [HW.out.1, HW.out.2.1] | rw [HW.out.1, HW.out.2.2.2] | rw [HW.out.2.2.1, HW.out.2.1] | rw [HW.out.2.2.1] | rw [HW.out.1])
  refine HSP.out.mono ?_
  rintro r w1 ⟨rfl, g1⟩
  have HG2 := Lib.hid (And.intro (grownBy_trans HG1.out.1 g1) (And.intro (g1.heap HG1.out.2.1 (by simp)) (g1.heap HG1.out.2.2 (by simp))))
  clear g1 HSP HG1
  obtain ⟨Z, hZ⟩ : ∃ Z : Obj, Z = .cells #[.int .u64 0, .string ⟨#[]⟩, .int .i64 0, .int .i64 0, .slice none 0 0] 63 := ⟨_, rfl⟩
  go_upto_region 3 with (fail)
  go_cut [7, 8] (fun v7 v8 wx => ∃ (b7 b8 : Nat) (P : ByteArray) (L : List ByteArray) (P2 : ByteArray) (L2 : List ByteArray) (av : Option Addr) (cv : Nat) (av2 : Option Addr) (cv2 : Nat), v7 = .pointer (some ⟨b7, 0, none⟩) ∧ v8 = .pointer (some ⟨b8, 0, none⟩) ∧ Hid (b7 ≠ b8 ∧ w1.heap.size ≤ b7 ∧ w1.heap.size ≤ b8) ∧ Hid (P.size ≤ 20 ∧ L.length ≤ 20 ∧ ∀ s ∈ L, s.size ≤ 17) ∧ Hid (P2.size ≤ 20 ∧ L2.length ≤ 20 ∧ ∀ s ∈ L2, s.size ≤ 17) ∧ Hid (wx.heap[b7]? = some (.cells #[.int .u64 e, .string P, .int .i64 d, .int .i64 a, .slice av L.length cv] 63 (0, 0)) ∧ wx.heap[b8]? = some (.cells #[.int .u64 e', .string P2, .int .i64 d', .int .i64 a', .slice av2 L2.length cv2] 63 (0, 0)) ∧ (∃ B, wx.ownsRow B 9 1 (.slice av L.length cv) L.length (strsV L)) ∧ (∃ B, wx.ownsRow B 9 1 (.slice av2 L2.length cv2) L2.length (strsV L2)) ∧ w1.grownBy wx none))
  case rest =>
    as_aux_lemma =>
    rename World => wx
    obtain ⟨b7, b8, P, L, P2, L2, av, cv, av2, cv2, rfl, rfl, HBN, HP1, HP2, HX⟩ := hcut
    have hXs : (⟨e, P, d, a, L⟩ : HdrS).small := ⟨he, by show P.size ≤ _; have := HP1.out.1; omega, by show L.length ≤ _; have := HP1.out.2.1; omega, fun s hs => by have := HP1.out.2.2 s hs; omega⟩
    have cRD := Lib.hid (fun w' q => ref19dig_any (⟨e, P, d, a, L⟩ : HdrS) hXs (.slice av L.length cv) w' q)
    have cPL := Lib.hid (fun w' => plain19_any (⟨e, P, d, a, L⟩ : HdrS) av L.length cv w')
    obtain ⟨D, hD⟩ : ∃ D, (⟨e, P, d, a, L⟩ : HdrS).dig = D := ⟨_, rfl⟩
    rw [hD] at cRD
    have HD := Lib.hid hD
    have HDs : Hid (D.size ≤ 16) := Lib.hid (by rw [← hD]; exact HdrS.dig_le _)
    unfold HdrS.val at cRD cPL
    have a1 : bits .and .u8 (how : Int) 1 = ((how % 2 : Nat) : Int) := by
      rw [show (1 : Int) = ((1 : Nat) : Int) from rfl, u8_and_nat _ _ (by omega) (by omega)]
      have : how &&& 1 = how % 2 := Nat.and_two_pow_sub_one_eq_mod how 1
      rw [this]
    obtain ⟨x0, x1, x2, x3, x4⟩ := cells5 HX.out.1
    clear hD HT1 HT2
    go_wp2_with fail
    refine (cPL.out _).mono ?_
    rintro r w2 ⟨rfl, g2⟩
    have HG2x := Lib.hid g2
    clear g2 x0 x1 x2 x3 x4
    go_wp2_with fail
    refine (cRD.out _ (let ⟨_, o⟩ := HX.out.2.2.1; (strs_own o).grown HG2x.out)).mono ?_
    rintro r w3 ⟨rfl, g3⟩
    obtain ⟨X, hX⟩ : ∃ X : HdrS, X = ⟨e, P, d, a, L⟩ := ⟨_, rfl⟩
    obtain ⟨vx, hvx⟩ : ∃ v : Value, v = .slice av L.length cv := ⟨_, rfl⟩
    have HVX : Hid (∃ av cv, vx = .slice av X.L.length cv) := Lib.hid ⟨av, cv, by rw [hvx, hX]⟩
    have hT0 : Two w1 b7 b8 X ⟨e', P2, d', a', L2⟩ vx (.slice av2 L2.length cv2) w3 := by
      have t : Two w1 b7 b8 X ⟨e', P2, d', a', L2⟩ vx (.slice av2 L2.length cv2) wx := by
        rw [hX, hvx]
        exact ⟨HX.out.1, HX.out.2.1, HX.out.2.2.1, HX.out.2.2.2.1, HX.out.2.2.2.2, ⟨he', by show P2.size ≤ _; have := HP2.out.1; omega, by show L2.length ≤ _; have := HP2.out.2.1; omega, fun s hs => by have := HP2.out.2.2 s hs; omega⟩⟩
      exact t.kept (grownBy_trans HG2x.out g3)
    have HD2 : Hid (X.dig = D) := Lib.hid (by rw [hX]; exact HD.out)
    have HXs : Hid X.small := Lib.hid (by rw [hX]; exact hXs)
    have HT := Lib.hid hT0
    obtain ⟨Y0, hY0⟩ : ∃ Y : HdrS, Y = ⟨e', P2, d', a', L2⟩ := ⟨_, rfl⟩
    rw [← hY0] at HT
    clear hX hvx hT0 hY0 hXs g3 HG2x cRD cPL HX HP1 HP2 HD a1
    obtain ⟨u1, u2, u4⟩ := u8_and how hh
    have HU := Lib.hid (And.intro u1 (And.intro u2 u4))
    clear u1 u2 u4
    go_upto_if 24 with (first | rw [HU.out.1])
    go_cut [9] (fun v9 wy => v9 = .string D ∧ ∃ (Y : HdrS) (vy : Value), Hid (Two w1 b7 b8 X Y vx vy wy))
    case rest =>
      as_aux_lemma =>
      rename World => wa
      obtain ⟨rfl, Y1, v1, HTa⟩ := hcut
      clear HT
      go_upto_if 29 with (first | rw [HU.out.2.1])
      go_cut [9] (fun v9 wy => v9 = .string D ∧ ∃ (Y : HdrS) (vy : Value), Hid (Two w1 b7 b8 X Y vx vy wy))
      case rest =>
        as_aux_lemma =>
        rename World => wb
        obtain ⟨rfl, Y2, v2, HTb⟩ := hcut
        clear HTa
        go_upto_if 36 with (first | rw [HU.out.2.2])
        go_cut [9] (fun v9 wy => v9 = .string D ∧ ∃ (Y : HdrS) (vy : Value), Hid (Two w1 b7 b8 X Y vx vy wy))
        case rest =>
          as_aux_lemma =>
          rename World => wd
          obtain ⟨rfl, Y, vy, HTc⟩ := hcut
          clear HTb HU
          obtain ⟨hv8, a2, c2, rfl⟩ := HTc.out.v8
          obtain ⟨av7, ac7, hvx7⟩ := HTc.out.v7.2
          subst hvx7
          have HYs := Lib.hid HTc.out.ys
          have cPL := Lib.hid (fun w' => plain19_any Y a2 Y.L.length c2 w')
          have cRE := Lib.hid (fun w' q => ref19enc_any Y HYs.out (.slice a2 Y.L.length c2) w' q)
          have cNX := Lib.hid (fun w' q r s => hnext_any X Y HXs.out HYs.out (.slice av7 X.L.length ac7) (.slice a2 Y.L.length c2) w' q r s)
          have cGN := Lib.hid (fun w' q => hgenesis_any Y HYs.out (.slice a2 Y.L.length c2) w' q)
          obtain ⟨GN, hGN⟩ : ∃ G, X.next Y = G := ⟨_, rfl⟩
          obtain ⟨GG, hGG⟩ : ∃ G, Y.gen = G := ⟨_, rfl⟩
          obtain ⟨EN, hEN⟩ : ∃ G, Y.enc = G := ⟨_, rfl⟩
          rw [hGN] at cNX
          rw [hGG] at cGN
          rw [hEN] at cRE
          unfold HdrS.val at cPL cRE cNX cGN
          have HGG := Lib.hid (And.intro hGN hGG)
          obtain ⟨x0, x1, x2, x3, x4⟩ := HTc.out.c7
          obtain ⟨y0, y1, y2, y3, y4⟩ := HTc.out.c8
          clear hGN hGG hEN hv8
          go_wp2_with fail
          refine (cPL.out _).mono ?_
          rintro r w5 ⟨rfl, g5⟩
          have HTd := Lib.hid (HTc.out.kept g5)
          clear g5 HTc x0 x1 x2 x3 x4 y0 y1 y2 y3 y4
          go_wp2_with fail
          refine (cRE.out _ HTd.out.v8.1).mono ?_
          rintro r w6 ⟨rfl, g6⟩
          have HTe := Lib.hid (HTd.out.kept g6)
          clear g6 HTd cPL cRE
          obtain ⟨E, hE⟩ : ∃ E, Y.err = E := ⟨_, rfl⟩
          rw [hE]
          have HE := Lib.hid hE
          clear hE
          go_upto_if 57 with fail
          go_cut [11, 12] (fun v11 v12 wz => v11 = .int .i64 GN ∧ v12 = .int .i64 GG ∧ Hid (Two w1 b7 b8 X Y (.slice av7 X.L.length ac7) (.slice a2 Y.L.length c2) wz))
          case rest =>
            as_aux_lemma =>
            rename World => wz
            obtain ⟨rfl, rfl, HTz⟩ := hcut
            obtain ⟨x0, x1, x2, x3, x4⟩ := HTz.out.c7
            obtain ⟨y0, y1, y2, y3, y4⟩ := HTz.out.c8
            have hRz : ShaReady wz := HR.out.grown (grownBy_trans HG2.out.1 HTz.out.gr)
            have HRz := Lib.hid hRz
            clear hRz HTe HGG HE
            have n1 : (GN == GN) = true := by simp
            have n2 : (GG == GG) = true := by simp
            go_wp2_with fail
            refine (cNX.out _ HTz.out.v7.1 HTz.out.v8.1 HRz.out).mono ?_
            rintro r w7 ⟨rfl, g7⟩
            have HT7 := Lib.hid (HTz.out.kept g7)
            clear g7 HTz x0 x1 x2 x3 x4 y0 y1 y2 y3 y4
            obtain ⟨y0, y1, y2, y3, y4⟩ := HT7.out.c8
            go_wp2_with fail
            refine (cGN.out _ HT7.out.v8.1).mono ?_
            rintro r w8 ⟨rfl, g8⟩
            have HT8 := Lib.hid (HT7.out.kept g8)
            clear g8 HT7 y0 y1 y2 y3 y4
            go_wp2_with fail
            go_ret
            exact ⟨rfl, grownBy_trans HG2.out.1 HT8.out.gr⟩
          case first =>
            obtain ⟨hGN, hGG⟩ := HGG.out
            obtain ⟨x0, x1, x2, x3, x4⟩ := HTe.out.c7
            obtain ⟨y0, y1, y2, y3, y4⟩ := HTe.out.c8
            by_cases hE : E = 0
            · subst hE
              have hY0 : Y.err = 0 := HE.out
              rw [HdrS.gen_ok hY0] at hGG
              rw [HdrS.next_ok hY0, HD2.out] at hGN
              have hfit := HdrS.fits hY0
              have hXe := HXs.out.e
              obtain ⟨ye, yp, yd, ya, yL⟩ := Y
              obtain ⟨xe, xp, xd, xa, xL⟩ := X
              have e1 : ((0 : Int) == 0) = true := rfl
              have hGN : (if ye = 0 ∨ ye - 1 ≠ xe then 14 else if yp ≠ D then 15 else if yd ≠ xd ∨ ya < xa then 22 else 0) = GN := hGN
              have hGG : (if ye ≠ 0 then 14 else if yp ≠ noughtsS then 15 else 0) = GG := hGG
              have hye : ye ≤ 4294967295 := hfit.1
              have hyp : yp.size = 16 := hfit.2.1
              have hxe : xe ≤ 18446744073709551615 := hXe
              have hnl := noughts_list
              have HTe : Hid (Two w1 b7 b8 ⟨xe, xp, xd, xa, xL⟩ ⟨ye, yp, yd, ya, yL⟩ (.slice av7 xL.length ac7) (.slice a2 yL.length c2) w6) := HTe
              simp only at x0 x1 x2 x3 x4 y0 y1 y2 y3 y4
              clear hXe hfit hY0 HE HGG HD2 HXs HYs cNX cGN
              by_cases he : ye = 0
              · rw [if_pos (Or.inl he)] at hGN
                rw [if_neg (not_not_intro he)] at hGG
                have r1 : ((ye : Int) != 0) = false := by simp [he]
                have r2 : ((ye : Int) == 0) = true := by simp [he]
                by_cases hp : yp = noughtsS
                · have p1 : (yp.toList == [0, 0, 0, 0, 0, 0, 0, 0, 0, 0, 0, 0, 0, 0, 0, 0]) = true := by rw [← hnl, eq_strE]; simpa using hp
                  have p2 : (yp.toList != [0, 0, 0, 0, 0, 0, 0, 0, 0, 0, 0, 0, 0, 0, 0, 0]) = false := by rw [bne, p1]; rfl
                  rw [if_neg (not_not_intro hp)] at hGG
                  clear he hp hnl
                  have HA := Lib.hid hGN
                  have HB := Lib.hid hGG
                  clear hGN hGG
                  go_wp2_with fail
                  go_meet
                  case rel => exact ⟨by rw [← HA.out], by rw [← HB.out], HTe⟩
                · have p1 : (yp.toList == [0, 0, 0, 0, 0, 0, 0, 0, 0, 0, 0, 0, 0, 0, 0, 0]) = false := by rw [← hnl, eq_strE]; simpa using hp
                  have p2 : (yp.toList != [0, 0, 0, 0, 0, 0, 0, 0, 0, 0, 0, 0, 0, 0, 0, 0]) = true := by rw [bne, p1]; rfl
                  rw [if_pos hp] at hGG
                  clear he hp hnl
                  have HA := Lib.hid hGN
                  have HB := Lib.hid hGG
                  clear hGN hGG
                  go_wp2_with fail
                  go_meet
                  case rel => exact ⟨by rw [← HA.out], by rw [← HB.out], HTe⟩
              · rw [if_pos he] at hGG
                have r1 : ((ye : Int) != 0) = true := by simp; omega
                have r2 : ((ye : Int) == 0) = false := by rw [beq_eq_false_iff_ne]; omega
                have hw : ((ye : Int) - 1) % 18446744073709551616 = (ye : Int) - 1 := by omega
                have hb1 : (1 : Int) ≤ (ye : Int) := by omega
                have hb2 : (0 : Int) ≤ (ye : Int) - 1 := by omega
                clear hnl
                by_cases hx : ye - 1 = xe
                · have s1 : (((ye : Int) - 1) != (xe : Int)) = false := by rw [bne_eq_false_iff_eq]; omega
                  rw [if_neg (show ¬ (ye = 0 ∨ ye - 1 ≠ xe) by omega)] at hGN
                  have hem := emp D
                  clear he hx
                  by_cases hD0 : D.size = 0
                  · rw [decide_eq_true hD0] at hem
                    rw [if_pos (show yp ≠ D by rintro rfl; omega)] at hGN
                    clear hD0
                    have HA := Lib.hid hGN
                    have HB := Lib.hid hGG
                    clear hGN hGG
                    go_wp2_with fail
                    go_meet
                    case rel => exact ⟨by rw [← HA.out], by rw [← HB.out], HTe⟩
                  · rw [decide_eq_false hD0] at hem
                    clear hD0
                    by_cases hp : yp = D
                    · have p1 : (yp.toList == D.toList) = true := by rw [eq_strE]; simpa using hp
                      have p2 : (yp.toList != D.toList) = false := by rw [bne, p1]; rfl
                      rw [if_neg (not_not_intro hp)] at hGN
                      clear hp
                      by_cases hd : yd = xd
                      · have d1 : (yd != xd) = false := by simp [hd]
                        by_cases ha : ya < xa
                        · rw [if_pos (Or.inr ha)] at hGN
                          clear hd
                          have HA := Lib.hid hGN
                          have HB := Lib.hid hGG
                          clear hGN hGG
                          go_wp2_with fail
                          go_meet
                          case rel => exact ⟨by rw [← HA.out], by rw [← HB.out], HTe⟩
                        · rw [if_neg (show ¬ (yd ≠ xd ∨ ya < xa) by rintro (h | h) <;> contradiction)] at hGN
                          clear hd
                          have HA := Lib.hid hGN
                          have HB := Lib.hid hGG
                          clear hGN hGG
                          go_wp2_with fail
                          go_meet
                          case rel => exact ⟨by rw [← HA.out], by rw [← HB.out], HTe⟩
                      · have d1 : (yd != xd) = true := by simp [hd]
                        rw [if_pos (Or.inl hd)] at hGN
                        clear hd
                        have HA := Lib.hid hGN
                        have HB := Lib.hid hGG
                        clear hGN hGG
                        go_wp2_with fail
                        go_meet
                        case rel => exact ⟨by rw [← HA.out], by rw [← HB.out], HTe⟩
                    · have p1 : (yp.toList == D.toList) = false := by rw [eq_strE]; simpa using hp
                      have p2 : (yp.toList != D.toList) = true := by rw [bne, p1]; rfl
                      rw [if_pos hp] at hGN
                      clear hp
                      have HA := Lib.hid hGN
                      have HB := Lib.hid hGG
                      clear hGN hGG
                      go_wp2_with fail
                      go_meet
                      case rel => exact ⟨by rw [← HA.out], by rw [← HB.out], HTe⟩
                · have s1 : (((ye : Int) - 1) != (xe : Int)) = true := by rw [bne_iff_ne]; omega
                  rw [if_pos (show ye = 0 ∨ ye - 1 ≠ xe by omega)] at hGN
                  clear he hx
                  have HA := Lib.hid hGN
                  have HB := Lib.hid hGG
                  clear hGN hGG
                  go_wp2_with fail
                  go_meet
                  case rel => exact ⟨by rw [← HA.out], by rw [← HB.out], HTe⟩
            · have hY0 : Y.err ≠ 0 := by rw [HE.out]; exact hE
              rw [HdrS.gen_err hY0, HE.out] at hGG
              rw [HdrS.next_err hY0, HE.out] at hGN
              have e1 : (E == 0) = false := by simp [hE]
              clear hE
              go_wp2_with fail
              go_meet
              case rel => exact ⟨by rw [hGN], by rw [hGG], HTe⟩
        case first =>
          obtain ⟨_, av7, ac7, hv7⟩ := HTb.out.v7
          subst hv7
          obtain ⟨x0, x1, x2, x3, x4⟩ := HTb.out.c7
          obtain ⟨y0, y1, y2, y3, y4⟩ := HTb.out.c8
          have f8 := free_of HTb.out.h8
          obtain ⟨q, hq⟩ : ∃ q, how &&& 4 = q := ⟨_, rfl⟩
          rw [hq]
          clear hq HU
          rcases Nat.eq_zero_or_pos q with hw | hw
          · have q2 : ((q : Int) == 0) = true := by simp [hw]
            clear hw
            go_upto_region 10 with fail
            go_region
            go_wp2_with fail
            go_meet
            case rel =>
              exact ⟨rfl, _, _, Lib.hid (Two.putD HTb.out.drew HBN.out.1 HBN.out.2.2 HXs.out _ _ rfl)⟩
          · have q2 : ((q : Int) == 0) = false := by rw [beq_eq_false_iff_ne]; omega
            clear hw
            go_wp2_with fail
            go_meet
            case rel => exact ⟨rfl, _, _, HTb⟩
      case first =>
        obtain ⟨x0, x1, x2, x3, x4⟩ := HTa.out.c7
        obtain ⟨y0, y1, y2, y3, y4⟩ := HTa.out.c8
        have f8 := free_of HTa.out.h8
        obtain ⟨q, hq⟩ : ∃ q, how &&& 2 = q := ⟨_, rfl⟩
        rw [hq]
        clear hq HU
        rcases Nat.eq_zero_or_pos q with hw | hw
        · have q2 : ((q : Int) == 0) = true := by simp [hw]
          clear hw
          go_wp2_with fail
          go_meet
          case rel =>
            have t := HTa.out.putE HBN.out.1 HBN.out.2.2 ((X.e + 1) % 18446744073709551616) (by omega)
            rw [show (((X.e + 1) % 18446744073709551616 : Nat) : Int) = ((X.e : Int) + 1) % 18446744073709551616 from by omega] at t
            exact ⟨rfl, _, _, Lib.hid t⟩
        · have q2 : ((q : Int) == 0) = false := by rw [beq_eq_false_iff_ne]; omega
          clear hw
          go_wp2_with fail
          go_meet
          case rel => exact ⟨rfl, _, _, HTa⟩
    case first =>
      obtain ⟨x0, x1, x2, x3, x4⟩ := HT.out.c7
      obtain ⟨y0, y1, y2, y3, y4⟩ := HT.out.c8
      have f8 := free_of HT.out.h8
      rcases Nat.mod_two_eq_zero_or_one how with hw | hw
      · rw [hw]
        go_wp2_with fail
        go_meet
        case rel => exact ⟨rfl, _, _, Lib.hid (HT.out.putP HBN.out.1 HBN.out.2.2 D (by have := HDs.out; omega))⟩
      · rw [hw]
        go_wp2_with fail
        go_meet
        case rel => exact ⟨rfl, _, _, HT⟩
  case first =>
    have HCK : Hid (∀ w' : World, w1.grownBy w' none → (w'.cell? ⟨m, 0, none⟩ = some (.int .u64 e) ∧ w'.cell? ⟨m, 1, none⟩ = some (.string p) ∧ w'.cell? ⟨m, 2, none⟩ = some (.int .i64 d) ∧ w'.cell? ⟨m, 3, none⟩ = some (.int .i64 a) ∧ w'.cell? ⟨m, 4, none⟩ = some (.string N)) ∧ w'.cell? ⟨m + 1, 0, none⟩ = some (.int .u64 e') ∧ w'.cell? ⟨m + 1, 1, none⟩ = some (.string p') ∧ w'.cell? ⟨m + 1, 2, none⟩ = some (.int .i64 d') ∧ w'.cell? ⟨m + 1, 3, none⟩ = some (.int .i64 a') ∧ w'.cell? ⟨m + 1, 4, none⟩ = some (.string N')) := Lib.hid (fun w' q => ⟨cells5 (q.heap HG2.out.2.1 (by simp)), cells5 (q.heap HG2.out.2.2 (by simp))⟩)
    clear hZ Z
    refine wp_region_held_drew (S := (fun w' => (w'.cell? ⟨m, 0, none⟩ = some (.int .u64 e) ∧ w'.cell? ⟨m, 1, none⟩ = some (.string p) ∧ w'.cell? ⟨m, 2, none⟩ = some (.int .i64 d) ∧ w'.cell? ⟨m, 3, none⟩ = some (.int .i64 a) ∧ w'.cell? ⟨m, 4, none⟩ = some (.string N)) ∧ w'.cell? ⟨m + 1, 0, none⟩ = some (.int .u64 e') ∧ w'.cell? ⟨m + 1, 1, none⟩ = some (.string p') ∧ w'.cell? ⟨m + 1, 2, none⟩ = some (.int .i64 d') ∧ w'.cell? ⟨m + 1, 3, none⟩ = some (.int .i64 a') ∧ w'.cell? ⟨m + 1, 4, none⟩ = some (.string N'))) (by kernel_rfl) ?hsk (fun hHeld => ?rgk)
    case hsk => exact HCK.out _ (grownBy_drew (World.grownBy.refl w1 none))
    case rgk =>
      refine wpAnyH_take (i := 0) (v := ?vk_0) rfl (by kernel_rfl) (by kernel_rfl) (by kernel_rfl) (fun _ _ _ h => h) (Or.inl ⟨by kernel_rfl, ?hk_0⟩) (by assumption) ?rk_0
      case hk_0 => (intro w0 hSw; (try dsimp only at hSw); go_simp; (try with_reducible rfl))
      try simp only [Act.put, List.setIfInBounds_toArray, List.set_cons_zero, List.set_cons_succ]
      refine wpAnyH_take (i := 2) (v := ?vk_1) rfl (by kernel_rfl) (by kernel_rfl) (by kernel_rfl) (fun _ _ _ h => h) (Or.inl ⟨by kernel_rfl, ?hk_1⟩) (by assumption) ?rk_1
      case hk_1 => (intro w0 hSw; (try dsimp only at hSw); go_simp; (try with_reducible rfl))
      try simp only [Act.put, List.setIfInBounds_toArray, List.set_cons_zero, List.set_cons_succ]
      have CK0 : w1.grownBy w1 none := World.grownBy.refl w1 none
      have CK : w1.grownBy w1.drew none := grownBy_drew CK0
      refine wpAnyH_ready (rs := [1, 4, 5]) (by kernel_rfl) (by simp) ?_
      refine AllReadyH.cons rfl (fun K hK => ?ahc_1) ?bhc_1
      case ahc_1 =>
        (go_simp; go_at_call 22; (with_reducible refine (HT1.out _).mono ?_); rintro r wa ⟨P, L, v1, rfl, hP1, hL1, hS1, O1, g1⟩; obtain ⟨av, cv, rfl⟩ := slice_own' O1; have HP1 := Lib.hid (And.intro hP1 (And.intro hL1 hS1)); clear hP1 hL1 hS1)
        have CKn : w1.grownBy wa none := grownBy_trans CK g1
        unfold HdrS.val
        refine hK.out _ _ ?shc_1 (fun hHeld => ?thc_1)
        case shc_1 => exact HCK.out _ CKn
        case thc_1 =>
          clear hK K
          clear CK g1
          have CK := CKn
          clear CKn
          try simp only [Act.put, List.setIfInBounds_toArray, List.set_cons_zero, List.set_cons_succ]
          refine wpAnyH_ready (rs := [3, 4, 5]) (by kernel_rfl) (by simp) ?_
          refine AllReadyH.cons rfl (fun K hK => ?ahc_2) ?bhc_2
          case ahc_2 =>
            (go_simp; go_at_call 22; (with_reducible refine (HT2.out _).mono ?_); rintro r wb ⟨P2, L2, v2, rfl, hP3, hL3, hS3, O3, g3⟩; obtain ⟨av2, cv2, rfl⟩ := slice_own' O3; have HP3 := Lib.hid (And.intro hP3 (And.intro hL3 hS3)); clear hP3 hL3 hS3)
            have CKn : w1.grownBy wb none := grownBy_trans CK g3
            have O1n := own_keep O1 g3 (fun _ _ e => by cases e)
            unfold HdrS.val
            refine hK.out _ _ ?shc_2 (fun hHeld => ?thc_2)
            case shc_2 => exact HCK.out _ CKn
            case thc_2 =>
              clear hK K
              clear CK O1 g3
              have CK := CKn
              have O1 := O1n
              clear CKn O1n
              try simp only [Act.put, List.setIfInBounds_toArray, List.set_cons_zero, List.set_cons_succ]
              refine wpAnyH_ready (rs := [4, 5]) (by kernel_rfl) (by simp) ?_
              refine AllReadyH.cons rfl (fun K hK => ?ahc_3) ?bhc_3
              case ahc_3 =>
                go_simp
                have ga : (wb).grownBy ((wb).alloc (.cells #[.int .u64 0, .string ⟨#[]⟩, .int .i64 0, .int .i64 0, .slice none 0 0] 63)) none := World.grownBy_alloc _ _ _
                have CKn : w1.grownBy ((wb.alloc (.cells #[.int .u64 0, .string ⟨#[]⟩, .int .i64 0, .int .i64 0, .slice none 0 0] 63))) none := grownBy_trans CK ga
                have F4n : ((wb.alloc (.cells #[.int .u64 0, .string ⟨#[]⟩, .int .i64 0, .int .i64 0, .slice none 0 0] 63))).heap[wb.heap.size]? = some (.cells #[.int .u64 0, .string ⟨#[]⟩, .int .i64 0, .int .i64 0, .slice none 0 0] 63 (0, 0)) := heap_alloc_at (wb) (.cells #[.int .u64 0, .string ⟨#[]⟩, .int .i64 0, .int .i64 0, .slice none 0 0] 63) _ (by simp)
                have l7 : w1.heap.size ≤ wb.heap.size := by have h := CK.size; first | omega | (simp at h; omega) | simp
                have O1n : ((wb.alloc (.cells #[.int .u64 0, .string ⟨#[]⟩, .int .i64 0, .int .i64 0, .slice none 0 0] 63))).ownsRow _ 9 1 _ _ _ := own_keep O1 ga (fun _ _ e => by cases e)
                have O3n : ((wb.alloc (.cells #[.int .u64 0, .string ⟨#[]⟩, .int .i64 0, .int .i64 0, .slice none 0 0] 63))).ownsRow _ 9 1 _ _ _ := own_keep O3 ga (fun _ _ e => by cases e)
                refine hK.out _ _ ?shc_3 (fun hHeld => ?thc_3)
                case shc_3 => exact HCK.out _ CKn
                case thc_3 =>
                  clear hK K
                  clear CK O1 O3 ga
                  have CK := CKn
                  have F4 := F4n
                  have O1 := O1n
                  have O3 := O3n
                  clear CKn F4n O1n O3n
                  try simp only [Act.put, List.setIfInBounds_toArray, List.set_cons_zero, List.set_cons_succ]
                  refine wpAnyH_ready (rs := [5]) (by kernel_rfl) (by simp) ?_
                  refine AllReadyH.cons rfl (fun K hK => ?ahc_4) ?bhc_4
                  case ahc_4 =>
                    go_simp
                    have ga : ((wb.alloc (.cells #[.int .u64 0, .string ⟨#[]⟩, .int .i64 0, .int .i64 0, .slice none 0 0] 63))).grownBy (((wb.alloc (.cells #[.int .u64 0, .string ⟨#[]⟩, .int .i64 0, .int .i64 0, .slice none 0 0] 63))).alloc (.cells #[.int .u64 0, .string ⟨#[]⟩, .int .i64 0, .int .i64 0, .slice none 0 0] 63)) none := World.grownBy_alloc _ _ _
                    have CKn : w1.grownBy (((wb.alloc (.cells #[.int .u64 0, .string ⟨#[]⟩, .int .i64 0, .int .i64 0, .slice none 0 0] 63)).alloc (.cells #[.int .u64 0, .string ⟨#[]⟩, .int .i64 0, .int .i64 0, .slice none 0 0] 63))) none := grownBy_trans CK ga
                    have F5n : (((wb.alloc (.cells #[.int .u64 0, .string ⟨#[]⟩, .int .i64 0, .int .i64 0, .slice none 0 0] 63)).alloc (.cells #[.int .u64 0, .string ⟨#[]⟩, .int .i64 0, .int .i64 0, .slice none 0 0] 63))).heap[wb.heap.size + 1]? = some (.cells #[.int .u64 0, .string ⟨#[]⟩, .int .i64 0, .int .i64 0, .slice none 0 0] 63 (0, 0)) := heap_alloc_at ((wb.alloc (.cells #[.int .u64 0, .string ⟨#[]⟩, .int .i64 0, .int .i64 0, .slice none 0 0] 63))) (.cells #[.int .u64 0, .string ⟨#[]⟩, .int .i64 0, .int .i64 0, .slice none 0 0] 63) _ (by simp)
                    have F4n : (((wb.alloc (.cells #[.int .u64 0, .string ⟨#[]⟩, .int .i64 0, .int .i64 0, .slice none 0 0] 63)).alloc (.cells #[.int .u64 0, .string ⟨#[]⟩, .int .i64 0, .int .i64 0, .slice none 0 0] 63))).heap[wb.heap.size]? = some (.cells #[.int .u64 0, .string ⟨#[]⟩, .int .i64 0, .int .i64 0, .slice none 0 0] 63 (0, 0)) := ga.heap F4 (by simp)
                    have hne : wb.heap.size ≠ wb.heap.size + 1 := by have h := (Array.getElem?_eq_some_iff.1 F4).1; first | omega | (simp at h; omega)
                    have l8 : w1.heap.size ≤ wb.heap.size + 1 := by have h := CK.size; first | omega | (simp at h; omega) | simp
                    have O1n : (((wb.alloc (.cells #[.int .u64 0, .string ⟨#[]⟩, .int .i64 0, .int .i64 0, .slice none 0 0] 63)).alloc (.cells #[.int .u64 0, .string ⟨#[]⟩, .int .i64 0, .int .i64 0, .slice none 0 0] 63))).ownsRow _ 9 1 _ _ _ := own_keep O1 ga (fun _ _ e => by cases e)
                    have O3n : (((wb.alloc (.cells #[.int .u64 0, .string ⟨#[]⟩, .int .i64 0, .int .i64 0, .slice none 0 0] 63)).alloc (.cells #[.int .u64 0, .string ⟨#[]⟩, .int .i64 0, .int .i64 0, .slice none 0 0] 63))).ownsRow _ 9 1 _ _ _ := own_keep O3 ga (fun _ _ e => by cases e)
                    refine hK.out _ _ ?shc_4 (fun hHeld => ?thc_4)
                    case shc_4 => exact HCK.out _ CKn
                    case thc_4 =>
                      clear hK K
                      clear CK F4 O1 O3 ga
                      have CK := CKn
                      have F5 := F5n
                      have F4 := F4n
                      have O1 := O1n
                      have O3 := O3n
                      clear CKn F5n F4n O1n O3n
                      try simp only [Act.put, List.setIfInBounds_toArray, List.set_cons_zero, List.set_cons_succ]
                      obtain ⟨WF, hWF⟩ : ∃ WF, ((wb.alloc (.cells #[.int .u64 0, .string ⟨#[]⟩, .int .i64 0, .int .i64 0, .slice none 0 0] 63)).alloc (.cells #[.int .u64 0, .string ⟨#[]⟩, .int .i64 0, .int .i64 0, .slice none 0 0] 63)) = WF := ⟨_, rfl⟩
                      rw [hWF] at F4 F5 O1 O3 CK
                      try simp only [hWF]
                      obtain ⟨b8, hb8⟩ : ∃ b, wb.heap.size + 1 = b := ⟨_, rfl⟩
                      have l8b : w1.heap.size ≤ b8 := by rw [← hb8]; exact l8
                      rw [hb8] at F5 hne
                      try simp only [hb8]
                      obtain ⟨b7, hb7⟩ : ∃ b, wb.heap.size = b := ⟨_, rfl⟩
                      have l7b : w1.heap.size ≤ b7 := by rw [← hb7]; exact l7
                      rw [hb7] at F4 hne
                      try simp only [hb7]
                      obtain ⟨c70, c71, c72, c73, c74⟩ := cells5 F4
                      have uf7 : ∀ j, WF.frozen? ⟨b7, j, none⟩ = false := fun j => free_of F4 j
                      have K6 : w1.grownBy (((((WF.setCell ⟨b7, 0, none⟩ (.int .u64 e)).setCell ⟨b7, 1, none⟩ (.string P)).setCell ⟨b7, 2, none⟩ (.int .i64 d)).setCell ⟨b7, 3, none⟩ (.int .i64 a)).setCell ⟨b7, 4, none⟩ (.slice av L.length cv)) none := grown_row CK (grown5 WF b7 _ _ _ _ _) (fun y q => by have e2 : b7 = y := Option.some.inj q; omega)
                      have F8a : (((((WF.setCell ⟨b7, 0, none⟩ (.int .u64 e)).setCell ⟨b7, 1, none⟩ (.string P)).setCell ⟨b7, 2, none⟩ (.int .i64 d)).setCell ⟨b7, 3, none⟩ (.int .i64 a)).setCell ⟨b7, 4, none⟩ (.slice av L.length cv)).heap[b8]? = some (.cells #[.int .u64 0, .string ⟨#[]⟩, .int .i64 0, .int .i64 0, .slice none 0 0] 63 (0, 0)) := (grown5 WF b7 _ _ _ _ _).heap F5 (fun q => hne (Option.some.inj q))
                      refine wpAnyH_ready (rs := [6]) (by kernel_rfl) (by simp) ?_
                      refine AllReadyH.cons rfl (fun K hK => ?ahc_5) ?bhc_5
                      case ahc_5 =>
                        go_simp
                        refine hK.out _ _ ?shc_5 (fun hHeld => ?thc_5)
                        case shc_5 => exact HCK.out _ K6
                        case thc_5 =>
                          clear hK K c70 c71 c72 c73 c74 uf7
                          try simp only [Act.put, List.setIfInBounds_toArray, List.set_cons_zero, List.set_cons_succ]
                          obtain ⟨c80, c81, c82, c83, c84⟩ := cells5 F8a
                          have uf8 : ∀ j, (((((WF.setCell ⟨b7, 0, none⟩ (.int .u64 e)).setCell ⟨b7, 1, none⟩ (.string P)).setCell ⟨b7, 2, none⟩ (.int .i64 d)).setCell ⟨b7, 3, none⟩ (.int .i64 a)).setCell ⟨b7, 4, none⟩ (.slice av L.length cv)).frozen? ⟨b8, j, none⟩ = false := fun j => free_of F8a j
                          have K7 : ∀ v0 v1 v2 v3 v4, w1.grownBy ((((((((((WF.setCell ⟨b7, 0, none⟩ (.int .u64 e)).setCell ⟨b7, 1, none⟩ (.string P)).setCell ⟨b7, 2, none⟩ (.int .i64 d)).setCell ⟨b7, 3, none⟩ (.int .i64 a)).setCell ⟨b7, 4, none⟩ (.slice av L.length cv)).setCell ⟨b8, 0, none⟩ v0).setCell ⟨b8, 1, none⟩ v1).setCell ⟨b8, 2, none⟩ v2).setCell ⟨b8, 3, none⟩ v3).setCell ⟨b8, 4, none⟩ v4) none := fun v0 v1 v2 v3 v4 => grown_row K6 (grown5 _ b8 _ _ _ _ _) (fun y q => by have e2 : b8 = y := Option.some.inj q; omega)
                          refine wpAnyH_ready (rs := [7]) (by kernel_rfl) (by simp) ?_
                          refine AllReadyH.cons rfl (fun K hK => ?ahc_6) ?bhc_6
                          case ahc_6 =>
                            go_simp
                            refine hK.out _ _ ?shc_6 (fun hHeld => ?thc_6)
                            case shc_6 => exact HCK.out _ (K7 _ _ _ _ _)
                            case thc_6 =>
                              clear hK K
                              try simp only [Act.put, List.setIfInBounds_toArray, List.set_cons_zero, List.set_cons_succ]
                              refine wpAnyH_done (by kernel_rfl) ?_ _
                              try dsimp only
                              go_wp2_with fail
                              go_meet
                              case rel => exact ⟨b7, b8, P, L, P2, L2, av, cv, av2, cv2, rfl, rfl, Lib.hid ⟨hne, l7b, l8b⟩, HP1, HP3, Lib.hid (chains_leaf F4 F5 hne l7b l8b CK O1 O3 _ _ _ _ _ _ _ _ _ _ _ rfl)⟩
                          case bhc_6 =>
                            exact AllReadyH.nil
                      case bhc_5 =>
                        exact AllReadyH.nil
                  case bhc_4 =>
                    exact AllReadyH.nil
              case bhc_3 =>
                refine AllReadyH.cons rfl (fun K hK => ?ahc_7) ?bhc_7
                case ahc_7 =>
                  go_simp
                  have ga : (wb).grownBy ((wb).alloc (.cells #[.int .u64 0, .string ⟨#[]⟩, .int .i64 0, .int .i64 0, .slice none 0 0] 63)) none := World.grownBy_alloc _ _ _
                  have CKn : w1.grownBy ((wb.alloc (.cells #[.int .u64 0, .string ⟨#[]⟩, .int .i64 0, .int .i64 0, .slice none 0 0] 63))) none := grownBy_trans CK ga
                  have F5n : ((wb.alloc (.cells #[.int .u64 0, .string ⟨#[]⟩, .int .i64 0, .int .i64 0, .slice none 0 0] 63))).heap[wb.heap.size]? = some (.cells #[.int .u64 0, .string ⟨#[]⟩, .int .i64 0, .int .i64 0, .slice none 0 0] 63 (0, 0)) := heap_alloc_at (wb) (.cells #[.int .u64 0, .string ⟨#[]⟩, .int .i64 0, .int .i64 0, .slice none 0 0] 63) _ (by simp)
                  have l8 : w1.heap.size ≤ wb.heap.size := by have h := CK.size; first | omega | (simp at h; omega) | simp
                  have O1n : ((wb.alloc (.cells #[.int .u64 0, .string ⟨#[]⟩, .int .i64 0, .int .i64 0, .slice none 0 0] 63))).ownsRow _ 9 1 _ _ _ := own_keep O1 ga (fun _ _ e => by cases e)
                  have O3n : ((wb.alloc (.cells #[.int .u64 0, .string ⟨#[]⟩, .int .i64 0, .int .i64 0, .slice none 0 0] 63))).ownsRow _ 9 1 _ _ _ := own_keep O3 ga (fun _ _ e => by cases e)
                  refine hK.out _ _ ?shc_7 (fun hHeld => ?thc_7)
                  case shc_7 => exact HCK.out _ CKn
                  case thc_7 =>
                    clear hK K
                    clear CK O1 O3 ga
                    have CK := CKn
                    have F5 := F5n
                    have O1 := O1n
                    have O3 := O3n
                    clear CKn F5n O1n O3n
                    try simp only [Act.put, List.setIfInBounds_toArray, List.set_cons_zero, List.set_cons_succ]
                    refine wpAnyH_ready (rs := [4]) (by kernel_rfl) (by simp) ?_
                    refine AllReadyH.cons rfl (fun K hK => ?ahc_8) ?bhc_8
                    case ahc_8 =>
                      go_simp
                      have ga : ((wb.alloc (.cells #[.int .u64 0, .string ⟨#[]⟩, .int .i64 0, .int .i64 0, .slice none 0 0] 63))).grownBy (((wb.alloc (.cells #[.int .u64 0, .string ⟨#[]⟩, .int .i64 0, .int .i64 0, .slice none 0 0] 63))).alloc (.cells #[.int .u64 0, .string ⟨#[]⟩, .int .i64 0, .int .i64 0, .slice none 0 0] 63)) none := World.grownBy_alloc _ _ _
                      have CKn : w1.grownBy (((wb.alloc (.cells #[.int .u64 0, .string ⟨#[]⟩, .int .i64 0, .int .i64 0, .slice none 0 0] 63)).alloc (.cells #[.int .u64 0, .string ⟨#[]⟩, .int .i64 0, .int .i64 0, .slice none 0 0] 63))) none := grownBy_trans CK ga
                      have F4n : (((wb.alloc (.cells #[.int .u64 0, .string ⟨#[]⟩, .int .i64 0, .int .i64 0, .slice none 0 0] 63)).alloc (.cells #[.int .u64 0, .string ⟨#[]⟩, .int .i64 0, .int .i64 0, .slice none 0 0] 63))).heap[wb.heap.size + 1]? = some (.cells #[.int .u64 0, .string ⟨#[]⟩, .int .i64 0, .int .i64 0, .slice none 0 0] 63 (0, 0)) := heap_alloc_at ((wb.alloc (.cells #[.int .u64 0, .string ⟨#[]⟩, .int .i64 0, .int .i64 0, .slice none 0 0] 63))) (.cells #[.int .u64 0, .string ⟨#[]⟩, .int .i64 0, .int .i64 0, .slice none 0 0] 63) _ (by simp)
                      have F5n : (((wb.alloc (.cells #[.int .u64 0, .string ⟨#[]⟩, .int .i64 0, .int .i64 0, .slice none 0 0] 63)).alloc (.cells #[.int .u64 0, .string ⟨#[]⟩, .int .i64 0, .int .i64 0, .slice none 0 0] 63))).heap[wb.heap.size]? = some (.cells #[.int .u64 0, .string ⟨#[]⟩, .int .i64 0, .int .i64 0, .slice none 0 0] 63 (0, 0)) := ga.heap F5 (by simp)
                      have hne : wb.heap.size + 1 ≠ wb.heap.size := by have h := (Array.getElem?_eq_some_iff.1 F5).1; first | omega | (simp at h; omega)
                      have l7 : w1.heap.size ≤ wb.heap.size + 1 := by have h := CK.size; first | omega | (simp at h; omega) | simp
                      have O1n : (((wb.alloc (.cells #[.int .u64 0, .string ⟨#[]⟩, .int .i64 0, .int .i64 0, .slice none 0 0] 63)).alloc (.cells #[.int .u64 0, .string ⟨#[]⟩, .int .i64 0, .int .i64 0, .slice none 0 0] 63))).ownsRow _ 9 1 _ _ _ := own_keep O1 ga (fun _ _ e => by cases e)
                      have O3n : (((wb.alloc (.cells #[.int .u64 0, .string ⟨#[]⟩, .int .i64 0, .int .i64 0, .slice none 0 0] 63)).alloc (.cells #[.int .u64 0, .string ⟨#[]⟩, .int .i64 0, .int .i64 0, .slice none 0 0] 63))).ownsRow _ 9 1 _ _ _ := own_keep O3 ga (fun _ _ e => by cases e)
                      refine hK.out _ _ ?shc_8 (fun hHeld => ?thc_8)
                      case shc_8 => exact HCK.out _ CKn
                      case thc_8 =>
                        clear hK K
                        clear CK F5 O1 O3 ga
                        have CK := CKn
                        have F4 := F4n
                        have F5 := F5n
                        have O1 := O1n
                        have O3 := O3n
                        clear CKn F4n F5n O1n O3n
                        try simp only [Act.put, List.setIfInBounds_toArray, List.set_cons_zero, List.set_cons_succ]
                        obtain ⟨WF, hWF⟩ : ∃ WF, ((wb.alloc (.cells #[.int .u64 0, .string ⟨#[]⟩, .int .i64 0, .int .i64 0, .slice none 0 0] 63)).alloc (.cells #[.int .u64 0, .string ⟨#[]⟩, .int .i64 0, .int .i64 0, .slice none 0 0] 63)) = WF := ⟨_, rfl⟩
                        rw [hWF] at F4 F5 O1 O3 CK
                        try simp only [hWF]
                        obtain ⟨b7, hb7⟩ : ∃ b, wb.heap.size + 1 = b := ⟨_, rfl⟩
                        have l7b : w1.heap.size ≤ b7 := by rw [← hb7]; exact l7
                        rw [hb7] at F4 hne
                        try simp only [hb7]
                        obtain ⟨b8, hb8⟩ : ∃ b, wb.heap.size = b := ⟨_, rfl⟩
                        have l8b : w1.heap.size ≤ b8 := by rw [← hb8]; exact l8
                        rw [hb8] at F5 hne
                        try simp only [hb8]
                        obtain ⟨c70, c71, c72, c73, c74⟩ := cells5 F4
                        have uf7 : ∀ j, WF.frozen? ⟨b7, j, none⟩ = false := fun j => free_of F4 j
                        have K6 : w1.grownBy (((((WF.setCell ⟨b7, 0, none⟩ (.int .u64 e)).setCell ⟨b7, 1, none⟩ (.string P)).setCell ⟨b7, 2, none⟩ (.int .i64 d)).setCell ⟨b7, 3, none⟩ (.int .i64 a)).setCell ⟨b7, 4, none⟩ (.slice av L.length cv)) none := grown_row CK (grown5 WF b7 _ _ _ _ _) (fun y q => by have e2 : b7 = y := Option.some.inj q; omega)
                        have F8a : (((((WF.setCell ⟨b7, 0, none⟩ (.int .u64 e)).setCell ⟨b7, 1, none⟩ (.string P)).setCell ⟨b7, 2, none⟩ (.int .i64 d)).setCell ⟨b7, 3, none⟩ (.int .i64 a)).setCell ⟨b7, 4, none⟩ (.slice av L.length cv)).heap[b8]? = some (.cells #[.int .u64 0, .string ⟨#[]⟩, .int .i64 0, .int .i64 0, .slice none 0 0] 63 (0, 0)) := (grown5 WF b7 _ _ _ _ _).heap F5 (fun q => hne (Option.some.inj q))
                        refine wpAnyH_ready (rs := [6]) (by kernel_rfl) (by simp) ?_
                        refine AllReadyH.cons rfl (fun K hK => ?ahc_9) ?bhc_9
                        case ahc_9 =>
                          go_simp
                          refine hK.out _ _ ?shc_9 (fun hHeld => ?thc_9)
                          case shc_9 => exact HCK.out _ K6
                          case thc_9 =>
                            clear hK K c70 c71 c72 c73 c74 uf7
                            try simp only [Act.put, List.setIfInBounds_toArray, List.set_cons_zero, List.set_cons_succ]
                            obtain ⟨c80, c81, c82, c83, c84⟩ := cells5 F8a
                            have uf8 : ∀ j, (((((WF.setCell ⟨b7, 0, none⟩ (.int .u64 e)).setCell ⟨b7, 1, none⟩ (.string P)).setCell ⟨b7, 2, none⟩ (.int .i64 d)).setCell ⟨b7, 3, none⟩ (.int .i64 a)).setCell ⟨b7, 4, none⟩ (.slice av L.length cv)).frozen? ⟨b8, j, none⟩ = false := fun j => free_of F8a j
                            have K7 : ∀ v0 v1 v2 v3 v4, w1.grownBy ((((((((((WF.setCell ⟨b7, 0, none⟩ (.int .u64 e)).setCell ⟨b7, 1, none⟩ (.string P)).setCell ⟨b7, 2, none⟩ (.int .i64 d)).setCell ⟨b7, 3, none⟩ (.int .i64 a)).setCell ⟨b7, 4, none⟩ (.slice av L.length cv)).setCell ⟨b8, 0, none⟩ v0).setCell ⟨b8, 1, none⟩ v1).setCell ⟨b8, 2, none⟩ v2).setCell ⟨b8, 3, none⟩ v3).setCell ⟨b8, 4, none⟩ v4) none := fun v0 v1 v2 v3 v4 => grown_row K6 (grown5 _ b8 _ _ _ _ _) (fun y q => by have e2 : b8 = y := Option.some.inj q; omega)
                            refine wpAnyH_ready (rs := [7]) (by kernel_rfl) (by simp) ?_
                            refine AllReadyH.cons rfl (fun K hK => ?ahc_10) ?bhc_10
                            case ahc_10 =>
                              go_simp
                              refine hK.out _ _ ?shc_10 (fun hHeld => ?thc_10)
                              case shc_10 => exact HCK.out _ (K7 _ _ _ _ _)
                              case thc_10 =>
                                clear hK K
                                try simp only [Act.put, List.setIfInBounds_toArray, List.set_cons_zero, List.set_cons_succ]
                                refine wpAnyH_done (by kernel_rfl) ?_ _
                                try dsimp only
                                go_wp2_with fail
                                go_meet
                                case rel => exact ⟨b7, b8, P, L, P2, L2, av, cv, av2, cv2, rfl, rfl, Lib.hid ⟨hne, l7b, l8b⟩, HP1, HP3, Lib.hid (chains_leaf F4 F5 hne l7b l8b CK O1 O3 _ _ _ _ _ _ _ _ _ _ _ rfl)⟩
                            case bhc_10 =>
                              exact AllReadyH.nil
                        case bhc_9 =>
                          exact AllReadyH.nil
                    case bhc_8 =>
                      exact AllReadyH.nil
                case bhc_7 =>
                  exact AllReadyH.nil
          case bhc_2 =>
            refine AllReadyH.cons rfl (fun K hK => ?ahc_11) ?bhc_11
            case ahc_11 =>
              go_simp
              have ga : (wa).grownBy ((wa).alloc (.cells #[.int .u64 0, .string ⟨#[]⟩, .int .i64 0, .int .i64 0, .slice none 0 0] 63)) none := World.grownBy_alloc _ _ _
              have CKn : w1.grownBy ((wa.alloc (.cells #[.int .u64 0, .string ⟨#[]⟩, .int .i64 0, .int .i64 0, .slice none 0 0] 63))) none := grownBy_trans CK ga
              have F4n : ((wa.alloc (.cells #[.int .u64 0, .string ⟨#[]⟩, .int .i64 0, .int .i64 0, .slice none 0 0] 63))).heap[wa.heap.size]? = some (.cells #[.int .u64 0, .string ⟨#[]⟩, .int .i64 0, .int .i64 0, .slice none 0 0] 63 (0, 0)) := heap_alloc_at (wa) (.cells #[.int .u64 0, .string ⟨#[]⟩, .int .i64 0, .int .i64 0, .slice none 0 0] 63) _ (by simp)
              have l7 : w1.heap.size ≤ wa.heap.size := by have h := CK.size; first | omega | (simp at h; omega) | simp
              have O1n : ((wa.alloc (.cells #[.int .u64 0, .string ⟨#[]⟩, .int .i64 0, .int .i64 0, .slice none 0 0] 63))).ownsRow _ 9 1 _ _ _ := own_keep O1 ga (fun _ _ e => by cases e)
              refine hK.out _ _ ?shc_11 (fun hHeld => ?thc_11)
              case shc_11 => exact HCK.out _ CKn
              case thc_11 =>
                clear hK K
                clear CK O1 ga
                have CK := CKn
                have F4 := F4n
                have O1 := O1n
                clear CKn F4n O1n
                try simp only [Act.put, List.setIfInBounds_toArray, List.set_cons_zero, List.set_cons_succ]
                refine wpAnyH_ready (rs := [3, 5]) (by kernel_rfl) (by simp) ?_
                refine AllReadyH.cons rfl (fun K hK => ?ahc_12) ?bhc_12
                case ahc_12 =>
                  (go_simp; go_at_call 22; (with_reducible refine (HT2.out _).mono ?_); rintro r wb ⟨P2, L2, v2, rfl, hP3, hL3, hS3, O3, g3⟩; obtain ⟨av2, cv2, rfl⟩ := slice_own' O3; have HP3 := Lib.hid (And.intro hP3 (And.intro hL3 hS3)); clear hP3 hL3 hS3)
                  have CKn : w1.grownBy wb none := grownBy_trans CK g3
                  have F4n := g3.heap F4 (by simp)
                  have O1n := own_keep O1 g3 (fun _ _ e => by cases e)
                  unfold HdrS.val
                  refine hK.out _ _ ?shc_12 (fun hHeld => ?thc_12)
                  case shc_12 => exact HCK.out _ CKn
                  case thc_12 =>
                    clear hK K
                    clear CK F4 O1 g3
                    have CK := CKn
                    have F4 := F4n
                    have O1 := O1n
                    clear CKn F4n O1n
                    try simp only [Act.put, List.setIfInBounds_toArray, List.set_cons_zero, List.set_cons_succ]
                    refine wpAnyH_ready (rs := [5]) (by kernel_rfl) (by simp) ?_
                    refine AllReadyH.cons rfl (fun K hK => ?ahc_13) ?bhc_13
                    case ahc_13 =>
                      go_simp
                      have ga : (wb).grownBy ((wb).alloc (.cells #[.int .u64 0, .string ⟨#[]⟩, .int .i64 0, .int .i64 0, .slice none 0 0] 63)) none := World.grownBy_alloc _ _ _
                      have CKn : w1.grownBy ((wb.alloc (.cells #[.int .u64 0, .string ⟨#[]⟩, .int .i64 0, .int .i64 0, .slice none 0 0] 63))) none := grownBy_trans CK ga
                      have F5n : ((wb.alloc (.cells #[.int .u64 0, .string ⟨#[]⟩, .int .i64 0, .int .i64 0, .slice none 0 0] 63))).heap[wb.heap.size]? = some (.cells #[.int .u64 0, .string ⟨#[]⟩, .int .i64 0, .int .i64 0, .slice none 0 0] 63 (0, 0)) := heap_alloc_at (wb) (.cells #[.int .u64 0, .string ⟨#[]⟩, .int .i64 0, .int .i64 0, .slice none 0 0] 63) _ (by simp)
                      have F4n : ((wb.alloc (.cells #[.int .u64 0, .string ⟨#[]⟩, .int .i64 0, .int .i64 0, .slice none 0 0] 63))).heap[wa.heap.size]? = some (.cells #[.int .u64 0, .string ⟨#[]⟩, .int .i64 0, .int .i64 0, .slice none 0 0] 63 (0, 0)) := ga.heap F4 (by simp)
                      have hne : wa.heap.size ≠ wb.heap.size := by have h := (Array.getElem?_eq_some_iff.1 F4).1; first | omega | (simp at h; omega)
                      have l8 : w1.heap.size ≤ wb.heap.size := by have h := CK.size; first | omega | (simp at h; omega) | simp
                      have O1n : ((wb.alloc (.cells #[.int .u64 0, .string ⟨#[]⟩, .int .i64 0, .int .i64 0, .slice none 0 0] 63))).ownsRow _ 9 1 _ _ _ := own_keep O1 ga (fun _ _ e => by cases e)
                      have O3n : ((wb.alloc (.cells #[.int .u64 0, .string ⟨#[]⟩, .int .i64 0, .int .i64 0, .slice none 0 0] 63))).ownsRow _ 9 1 _ _ _ := own_keep O3 ga (fun _ _ e => by cases e)
                      refine hK.out _ _ ?shc_13 (fun hHeld => ?thc_13)
                      case shc_13 => exact HCK.out _ CKn
                      case thc_13 =>
                        clear hK K
                        clear CK F4 O1 O3 ga
                        have CK := CKn
                        have F5 := F5n
                        have F4 := F4n
                        have O1 := O1n
                        have O3 := O3n
                        clear CKn F5n F4n O1n O3n
                        try simp only [Act.put, List.setIfInBounds_toArray, List.set_cons_zero, List.set_cons_succ]
                        obtain ⟨WF, hWF⟩ : ∃ WF, (wb.alloc (.cells #[.int .u64 0, .string ⟨#[]⟩, .int .i64 0, .int .i64 0, .slice none 0 0] 63)) = WF := ⟨_, rfl⟩
                        rw [hWF] at F4 F5 O1 O3 CK
                        try simp only [hWF]
                        obtain ⟨b7, hb7⟩ : ∃ b, wa.heap.size = b := ⟨_, rfl⟩
                        have l7b : w1.heap.size ≤ b7 := by rw [← hb7]; exact l7
                        rw [hb7] at F4 hne
                        try simp only [hb7]
                        obtain ⟨b8, hb8⟩ : ∃ b, wb.heap.size = b := ⟨_, rfl⟩
                        have l8b : w1.heap.size ≤ b8 := by rw [← hb8]; exact l8
                        rw [hb8] at F5 hne
                        try simp only [hb8]
                        obtain ⟨c70, c71, c72, c73, c74⟩ := cells5 F4
                        have uf7 : ∀ j, WF.frozen? ⟨b7, j, none⟩ = false := fun j => free_of F4 j
                        have K6 : w1.grownBy (((((WF.setCell ⟨b7, 0, none⟩ (.int .u64 e)).setCell ⟨b7, 1, none⟩ (.string P)).setCell ⟨b7, 2, none⟩ (.int .i64 d)).setCell ⟨b7, 3, none⟩ (.int .i64 a)).setCell ⟨b7, 4, none⟩ (.slice av L.length cv)) none := grown_row CK (grown5 WF b7 _ _ _ _ _) (fun y q => by have e2 : b7 = y := Option.some.inj q; omega)
                        have F8a : (((((WF.setCell ⟨b7, 0, none⟩ (.int .u64 e)).setCell ⟨b7, 1, none⟩ (.string P)).setCell ⟨b7, 2, none⟩ (.int .i64 d)).setCell ⟨b7, 3, none⟩ (.int .i64 a)).setCell ⟨b7, 4, none⟩ (.slice av L.length cv)).heap[b8]? = some (.cells #[.int .u64 0, .string ⟨#[]⟩, .int .i64 0, .int .i64 0, .slice none 0 0] 63 (0, 0)) := (grown5 WF b7 _ _ _ _ _).heap F5 (fun q => hne (Option.some.inj q))
                        refine wpAnyH_ready (rs := [6]) (by kernel_rfl) (by simp) ?_
                        refine AllReadyH.cons rfl (fun K hK => ?ahc_14) ?bhc_14
                        case ahc_14 =>
                          go_simp
                          refine hK.out _ _ ?shc_14 (fun hHeld => ?thc_14)
                          case shc_14 => exact HCK.out _ K6
                          case thc_14 =>
                            clear hK K c70 c71 c72 c73 c74 uf7
                            try simp only [Act.put, List.setIfInBounds_toArray, List.set_cons_zero, List.set_cons_succ]
                            obtain ⟨c80, c81, c82, c83, c84⟩ := cells5 F8a
                            have uf8 : ∀ j, (((((WF.setCell ⟨b7, 0, none⟩ (.int .u64 e)).setCell ⟨b7, 1, none⟩ (.string P)).setCell ⟨b7, 2, none⟩ (.int .i64 d)).setCell ⟨b7, 3, none⟩ (.int .i64 a)).setCell ⟨b7, 4, none⟩ (.slice av L.length cv)).frozen? ⟨b8, j, none⟩ = false := fun j => free_of F8a j
                            have K7 : ∀ v0 v1 v2 v3 v4, w1.grownBy ((((((((((WF.setCell ⟨b7, 0, none⟩ (.int .u64 e)).setCell ⟨b7, 1, none⟩ (.string P)).setCell ⟨b7, 2, none⟩ (.int .i64 d)).setCell ⟨b7, 3, none⟩ (.int .i64 a)).setCell ⟨b7, 4, none⟩ (.slice av L.length cv)).setCell ⟨b8, 0, none⟩ v0).setCell ⟨b8, 1, none⟩ v1).setCell ⟨b8, 2, none⟩ v2).setCell ⟨b8, 3, none⟩ v3).setCell ⟨b8, 4, none⟩ v4) none := fun v0 v1 v2 v3 v4 => grown_row K6 (grown5 _ b8 _ _ _ _ _) (fun y q => by have e2 : b8 = y := Option.some.inj q; omega)
                            refine wpAnyH_ready (rs := [7]) (by kernel_rfl) (by simp) ?_
                            refine AllReadyH.cons rfl (fun K hK => ?ahc_15) ?bhc_15
                            case ahc_15 =>
                              go_simp
                              refine hK.out _ _ ?shc_15 (fun hHeld => ?thc_15)
                              case shc_15 => exact HCK.out _ (K7 _ _ _ _ _)
                              case thc_15 =>
                                clear hK K
                                try simp only [Act.put, List.setIfInBounds_toArray, List.set_cons_zero, List.set_cons_succ]
                                refine wpAnyH_done (by kernel_rfl) ?_ _
                                try dsimp only
                                go_wp2_with fail
                                go_meet
                                case rel => exact ⟨b7, b8, P, L, P2, L2, av, cv, av2, cv2, rfl, rfl, Lib.hid ⟨hne, l7b, l8b⟩, HP1, HP3, Lib.hid (chains_leaf F4 F5 hne l7b l8b CK O1 O3 _ _ _ _ _ _ _ _ _ _ _ rfl)⟩
                            case bhc_15 =>
                              exact AllReadyH.nil
                        case bhc_14 =>
                          exact AllReadyH.nil
                    case bhc_13 =>
                      exact AllReadyH.nil
                case bhc_12 =>
                  refine AllReadyH.cons rfl (fun K hK => ?ahc_16) ?bhc_16
                  case ahc_16 =>
                    go_simp
                    have ga : ((wa.alloc (.cells #[.int .u64 0, .string ⟨#[]⟩, .int .i64 0, .int .i64 0, .slice none 0 0] 63))).grownBy (((wa.alloc (.cells #[.int .u64 0, .string ⟨#[]⟩, .int .i64 0, .int .i64 0, .slice none 0 0] 63))).alloc (.cells #[.int .u64 0, .string ⟨#[]⟩, .int .i64 0, .int .i64 0, .slice none 0 0] 63)) none := World.grownBy_alloc _ _ _
                    have CKn : w1.grownBy (((wa.alloc (.cells #[.int .u64 0, .string ⟨#[]⟩, .int .i64 0, .int .i64 0, .slice none 0 0] 63)).alloc (.cells #[.int .u64 0, .string ⟨#[]⟩, .int .i64 0, .int .i64 0, .slice none 0 0] 63))) none := grownBy_trans CK ga
                    have F5n : (((wa.alloc (.cells #[.int .u64 0, .string ⟨#[]⟩, .int .i64 0, .int .i64 0, .slice none 0 0] 63)).alloc (.cells #[.int .u64 0, .string ⟨#[]⟩, .int .i64 0, .int .i64 0, .slice none 0 0] 63))).heap[wa.heap.size + 1]? = some (.cells #[.int .u64 0, .string ⟨#[]⟩, .int .i64 0, .int .i64 0, .slice none 0 0] 63 (0, 0)) := heap_alloc_at ((wa.alloc (.cells #[.int .u64 0, .string ⟨#[]⟩, .int .i64 0, .int .i64 0, .slice none 0 0] 63))) (.cells #[.int .u64 0, .string ⟨#[]⟩, .int .i64 0, .int .i64 0, .slice none 0 0] 63) _ (by simp)
                    have F4n : (((wa.alloc (.cells #[.int .u64 0, .string ⟨#[]⟩, .int .i64 0, .int .i64 0, .slice none 0 0] 63)).alloc (.cells #[.int .u64 0, .string ⟨#[]⟩, .int .i64 0, .int .i64 0, .slice none 0 0] 63))).heap[wa.heap.size]? = some (.cells #[.int .u64 0, .string ⟨#[]⟩, .int .i64 0, .int .i64 0, .slice none 0 0] 63 (0, 0)) := ga.heap F4 (by simp)
                    have hne : wa.heap.size ≠ wa.heap.size + 1 := by have h := (Array.getElem?_eq_some_iff.1 F4).1; first | omega | (simp at h; omega)
                    have l8 : w1.heap.size ≤ wa.heap.size + 1 := by have h := CK.size; first | omega | (simp at h; omega) | simp
                    have O1n : (((wa.alloc (.cells #[.int .u64 0, .string ⟨#[]⟩, .int .i64 0, .int .i64 0, .slice none 0 0] 63)).alloc (.cells #[.int .u64 0, .string ⟨#[]⟩, .int .i64 0, .int .i64 0, .slice none 0 0] 63))).ownsRow _ 9 1 _ _ _ := own_keep O1 ga (fun _ _ e => by cases e)
                    refine hK.out _ _ ?shc_16 (fun hHeld => ?thc_16)
                    case shc_16 => exact HCK.out _ CKn
                    case thc_16 =>
                      clear hK K
                      clear CK F4 O1 ga
                      have CK := CKn
                      have F5 := F5n
                      have F4 := F4n
                      have O1 := O1n
                      clear CKn F5n F4n O1n
                      try simp only [Act.put, List.setIfInBounds_toArray, List.set_cons_zero, List.set_cons_succ]
                      refine wpAnyH_ready (rs := [3]) (by kernel_rfl) (by simp) ?_
                      refine AllReadyH.cons rfl (fun K hK => ?ahc_17) ?bhc_17
                      case ahc_17 =>
                        (go_simp; go_at_call 22; (with_reducible refine (HT2.out _).mono ?_); rintro r wb ⟨P2, L2, v2, rfl, hP3, hL3, hS3, O3, g3⟩; obtain ⟨av2, cv2, rfl⟩ := slice_own' O3; have HP3 := Lib.hid (And.intro hP3 (And.intro hL3 hS3)); clear hP3 hL3 hS3)
                        have CKn : w1.grownBy wb none := grownBy_trans CK g3
                        have F4n := g3.heap F4 (by simp)
                        have F5n := g3.heap F5 (by simp)
                        have O1n := own_keep O1 g3 (fun _ _ e => by cases e)
                        unfold HdrS.val
                        refine hK.out _ _ ?shc_17 (fun hHeld => ?thc_17)
                        case shc_17 => exact HCK.out _ CKn
                        case thc_17 =>
                          clear hK K
                          clear CK F4 F5 O1 g3
                          have CK := CKn
                          have F4 := F4n
                          have F5 := F5n
                          have O1 := O1n
                          clear CKn F4n F5n O1n
                          try simp only [Act.put, List.setIfInBounds_toArray, List.set_cons_zero, List.set_cons_succ]
                          obtain ⟨WF, hWF⟩ : ∃ WF, wb = WF := ⟨_, rfl⟩
                          rw [hWF] at F4 F5 O1 O3 CK
                          try simp only [hWF]
                          obtain ⟨b8, hb8⟩ : ∃ b, wa.heap.size + 1 = b := ⟨_, rfl⟩
                          have l8b : w1.heap.size ≤ b8 := by rw [← hb8]; exact l8
                          rw [hb8] at F5 hne
                          try simp only [hb8]
                          obtain ⟨b7, hb7⟩ : ∃ b, wa.heap.size = b := ⟨_, rfl⟩
                          have l7b : w1.heap.size ≤ b7 := by rw [← hb7]; exact l7
                          rw [hb7] at F4 hne
                          try simp only [hb7]
                          obtain ⟨c70, c71, c72, c73, c74⟩ := cells5 F4
                          have uf7 : ∀ j, WF.frozen? ⟨b7, j, none⟩ = false := fun j => free_of F4 j
                          have K6 : w1.grownBy (((((WF.setCell ⟨b7, 0, none⟩ (.int .u64 e)).setCell ⟨b7, 1, none⟩ (.string P)).setCell ⟨b7, 2, none⟩ (.int .i64 d)).setCell ⟨b7, 3, none⟩ (.int .i64 a)).setCell ⟨b7, 4, none⟩ (.slice av L.length cv)) none := grown_row CK (grown5 WF b7 _ _ _ _ _) (fun y q => by have e2 : b7 = y := Option.some.inj q; omega)
                          have F8a : (((((WF.setCell ⟨b7, 0, none⟩ (.int .u64 e)).setCell ⟨b7, 1, none⟩ (.string P)).setCell ⟨b7, 2, none⟩ (.int .i64 d)).setCell ⟨b7, 3, none⟩ (.int .i64 a)).setCell ⟨b7, 4, none⟩ (.slice av L.length cv)).heap[b8]? = some (.cells #[.int .u64 0, .string ⟨#[]⟩, .int .i64 0, .int .i64 0, .slice none 0 0] 63 (0, 0)) := (grown5 WF b7 _ _ _ _ _).heap F5 (fun q => hne (Option.some.inj q))
                          refine wpAnyH_ready (rs := [6]) (by kernel_rfl) (by simp) ?_
                          refine AllReadyH.cons rfl (fun K hK => ?ahc_18) ?bhc_18
                          case ahc_18 =>
                            go_simp
                            refine hK.out _ _ ?shc_18 (fun hHeld => ?thc_18)
                            case shc_18 => exact HCK.out _ K6
                            case thc_18 =>
                              clear hK K c70 c71 c72 c73 c74 uf7
                              try simp only [Act.put, List.setIfInBounds_toArray, List.set_cons_zero, List.set_cons_succ]
                              obtain ⟨c80, c81, c82, c83, c84⟩ := cells5 F8a
                              have uf8 : ∀ j, (((((WF.setCell ⟨b7, 0, none⟩ (.int .u64 e)).setCell ⟨b7, 1, none⟩ (.string P)).setCell ⟨b7, 2, none⟩ (.int .i64 d)).setCell ⟨b7, 3, none⟩ (.int .i64 a)).setCell ⟨b7, 4, none⟩ (.slice av L.length cv)).frozen? ⟨b8, j, none⟩ = false := fun j => free_of F8a j
                              have K7 : ∀ v0 v1 v2 v3 v4, w1.grownBy ((((((((((WF.setCell ⟨b7, 0, none⟩ (.int .u64 e)).setCell ⟨b7, 1, none⟩ (.string P)).setCell ⟨b7, 2, none⟩ (.int .i64 d)).setCell ⟨b7, 3, none⟩ (.int .i64 a)).setCell ⟨b7, 4, none⟩ (.slice av L.length cv)).setCell ⟨b8, 0, none⟩ v0).setCell ⟨b8, 1, none⟩ v1).setCell ⟨b8, 2, none⟩ v2).setCell ⟨b8, 3, none⟩ v3).setCell ⟨b8, 4, none⟩ v4) none := fun v0 v1 v2 v3 v4 => grown_row K6 (grown5 _ b8 _ _ _ _ _) (fun y q => by have e2 : b8 = y := Option.some.inj q; omega)
                              refine wpAnyH_ready (rs := [7]) (by kernel_rfl) (by simp) ?_
                              refine AllReadyH.cons rfl (fun K hK => ?ahc_19) ?bhc_19
                              case ahc_19 =>
                                go_simp
                                refine hK.out _ _ ?shc_19 (fun hHeld => ?thc_19)
                                case shc_19 => exact HCK.out _ (K7 _ _ _ _ _)
                                case thc_19 =>
                                  clear hK K
                                  try simp only [Act.put, List.setIfInBounds_toArray, List.set_cons_zero, List.set_cons_succ]
                                  refine wpAnyH_done (by kernel_rfl) ?_ _
                                  try dsimp only
                                  go_wp2_with fail
                                  go_meet
                                  case rel => exact ⟨b7, b8, P, L, P2, L2, av, cv, av2, cv2, rfl, rfl, Lib.hid ⟨hne, l7b, l8b⟩, HP1, HP3, Lib.hid (chains_leaf F4 F5 hne l7b l8b CK O1 O3 _ _ _ _ _ _ _ _ _ _ _ rfl)⟩
                              case bhc_19 =>
                                exact AllReadyH.nil
                          case bhc_18 =>
                            exact AllReadyH.nil
                      case bhc_17 =>
                        exact AllReadyH.nil
                  case bhc_16 =>
                    exact AllReadyH.nil
            case bhc_11 =>
              refine AllReadyH.cons rfl (fun K hK => ?ahc_20) ?bhc_20
              case ahc_20 =>
                go_simp
                have ga : (wa).grownBy ((wa).alloc (.cells #[.int .u64 0, .string ⟨#[]⟩, .int .i64 0, .int .i64 0, .slice none 0 0] 63)) none := World.grownBy_alloc _ _ _
                have CKn : w1.grownBy ((wa.alloc (.cells #[.int .u64 0, .string ⟨#[]⟩, .int .i64 0, .int .i64 0, .slice none 0 0] 63))) none := grownBy_trans CK ga
                have F5n : ((wa.alloc (.cells #[.int .u64 0, .string ⟨#[]⟩, .int .i64 0, .int .i64 0, .slice none 0 0] 63))).heap[wa.heap.size]? = some (.cells #[.int .u64 0, .string ⟨#[]⟩, .int .i64 0, .int .i64 0, .slice none 0 0] 63 (0, 0)) := heap_alloc_at (wa) (.cells #[.int .u64 0, .string ⟨#[]⟩, .int .i64 0, .int .i64 0, .slice none 0 0] 63) _ (by simp)
                have l8 : w1.heap.size ≤ wa.heap.size := by have h := CK.size; first | omega | (simp at h; omega) | simp
                have O1n : ((wa.alloc (.cells #[.int .u64 0, .string ⟨#[]⟩, .int .i64 0, .int .i64 0, .slice none 0 0] 63))).ownsRow _ 9 1 _ _ _ := own_keep O1 ga (fun _ _ e => by cases e)
                refine hK.out _ _ ?shc_20 (fun hHeld => ?thc_20)
                case shc_20 => exact HCK.out _ CKn
                case thc_20 =>
                  clear hK K
                  clear CK O1 ga
                  have CK := CKn
                  have F5 := F5n
                  have O1 := O1n
                  clear CKn F5n O1n
                  try simp only [Act.put, List.setIfInBounds_toArray, List.set_cons_zero, List.set_cons_succ]
                  refine wpAnyH_ready (rs := [3, 4]) (by kernel_rfl) (by simp) ?_
                  refine AllReadyH.cons rfl (fun K hK => ?ahc_21) ?bhc_21
                  case ahc_21 =>
                    (go_simp; go_at_call 22; (with_reducible refine (HT2.out _).mono ?_); rintro r wb ⟨P2, L2, v2, rfl, hP3, hL3, hS3, O3, g3⟩; obtain ⟨av2, cv2, rfl⟩ := slice_own' O3; have HP3 := Lib.hid (And.intro hP3 (And.intro hL3 hS3)); clear hP3 hL3 hS3)
                    have CKn : w1.grownBy wb none := grownBy_trans CK g3
                    have F5n := g3.heap F5 (by simp)
                    have O1n := own_keep O1 g3 (fun _ _ e => by cases e)
                    unfold HdrS.val
                    refine hK.out _ _ ?shc_21 (fun hHeld => ?thc_21)
                    case shc_21 => exact HCK.out _ CKn
                    case thc_21 =>
                      clear hK K
                      clear CK F5 O1 g3
                      have CK := CKn
                      have F5 := F5n
                      have O1 := O1n
                      clear CKn F5n O1n
                      try simp only [Act.put, List.setIfInBounds_toArray, List.set_cons_zero, List.set_cons_succ]
                      refine wpAnyH_ready (rs := [4]) (by kernel_rfl) (by simp) ?_
                      refine AllReadyH.cons rfl (fun K hK => ?ahc_22) ?bhc_22
                      case ahc_22 =>
                        go_simp
                        have ga : (wb).grownBy ((wb).alloc (.cells #[.int .u64 0, .string ⟨#[]⟩, .int .i64 0, .int .i64 0, .slice none 0 0] 63)) none := World.grownBy_alloc _ _ _
                        have CKn : w1.grownBy ((wb.alloc (.cells #[.int .u64 0, .string ⟨#[]⟩, .int .i64 0, .int .i64 0, .slice none 0 0] 63))) none := grownBy_trans CK ga
                        have F4n : ((wb.alloc (.cells #[.int .u64 0, .string ⟨#[]⟩, .int .i64 0, .int .i64 0, .slice none 0 0] 63))).heap[wb.heap.size]? = some (.cells #[.int .u64 0, .string ⟨#[]⟩, .int .i64 0, .int .i64 0, .slice none 0 0] 63 (0, 0)) := heap_alloc_at (wb) (.cells #[.int .u64 0, .string ⟨#[]⟩, .int .i64 0, .int .i64 0, .slice none 0 0] 63) _ (by simp)
                        have F5n : ((wb.alloc (.cells #[.int .u64 0, .string ⟨#[]⟩, .int .i64 0, .int .i64 0, .slice none 0 0] 63))).heap[wa.heap.size]? = some (.cells #[.int .u64 0, .string ⟨#[]⟩, .int .i64 0, .int .i64 0, .slice none 0 0] 63 (0, 0)) := ga.heap F5 (by simp)
                        have hne : wb.heap.size ≠ wa.heap.size := by have h := (Array.getElem?_eq_some_iff.1 F5).1; first | omega | (simp at h; omega)
                        have l7 : w1.heap.size ≤ wb.heap.size := by have h := CK.size; first | omega | (simp at h; omega) | simp
                        have O1n : ((wb.alloc (.cells #[.int .u64 0, .string ⟨#[]⟩, .int .i64 0, .int .i64 0, .slice none 0 0] 63))).ownsRow _ 9 1 _ _ _ := own_keep O1 ga (fun _ _ e => by cases e)
                        have O3n : ((wb.alloc (.cells #[.int .u64 0, .string ⟨#[]⟩, .int .i64 0, .int .i64 0, .slice none 0 0] 63))).ownsRow _ 9 1 _ _ _ := own_keep O3 ga (fun _ _ e => by cases e)
                        refine hK.out _ _ ?shc_22 (fun hHeld => ?thc_22)
                        case shc_22 => exact HCK.out _ CKn
                        case thc_22 =>
                          clear hK K
                          clear CK F5 O1 O3 ga
                          have CK := CKn
                          have F4 := F4n
                          have F5 := F5n
                          have O1 := O1n
                          have O3 := O3n
                          clear CKn F4n F5n O1n O3n
                          try simp only [Act.put, List.setIfInBounds_toArray, List.set_cons_zero, List.set_cons_succ]
                          obtain ⟨WF, hWF⟩ : ∃ WF, (wb.alloc (.cells #[.int .u64 0, .string ⟨#[]⟩, .int .i64 0, .int .i64 0, .slice none 0 0] 63)) = WF := ⟨_, rfl⟩
                          rw [hWF] at F4 F5 O1 O3 CK
                          try simp only [hWF]
                          obtain ⟨b7, hb7⟩ : ∃ b, wb.heap.size = b := ⟨_, rfl⟩
                          have l7b : w1.heap.size ≤ b7 := by rw [← hb7]; exact l7
                          rw [hb7] at F4 hne
                          try simp only [hb7]
                          obtain ⟨b8, hb8⟩ : ∃ b, wa.heap.size = b := ⟨_, rfl⟩
                          have l8b : w1.heap.size ≤ b8 := by rw [← hb8]; exact l8
                          rw [hb8] at F5 hne
                          try simp only [hb8]
                          obtain ⟨c70, c71, c72, c73, c74⟩ := cells5 F4
                          have uf7 : ∀ j, WF.frozen? ⟨b7, j, none⟩ = false := fun j => free_of F4 j
                          have K6 : w1.grownBy (((((WF.setCell ⟨b7, 0, none⟩ (.int .u64 e)).setCell ⟨b7, 1, none⟩ (.string P)).setCell ⟨b7, 2, none⟩ (.int .i64 d)).setCell ⟨b7, 3, none⟩ (.int .i64 a)).setCell ⟨b7, 4, none⟩ (.slice av L.length cv)) none := grown_row CK (grown5 WF b7 _ _ _ _ _) (fun y q => by have e2 : b7 = y := Option.some.inj q; omega)
                          have F8a : (((((WF.setCell ⟨b7, 0, none⟩ (.int .u64 e)).setCell ⟨b7, 1, none⟩ (.string P)).setCell ⟨b7, 2, none⟩ (.int .i64 d)).setCell ⟨b7, 3, none⟩ (.int .i64 a)).setCell ⟨b7, 4, none⟩ (.slice av L.length cv)).heap[b8]? = some (.cells #[.int .u64 0, .string ⟨#[]⟩, .int .i64 0, .int .i64 0, .slice none 0 0] 63 (0, 0)) := (grown5 WF b7 _ _ _ _ _).heap F5 (fun q => hne (Option.some.inj q))
                          refine wpAnyH_ready (rs := [6]) (by kernel_rfl) (by simp) ?_
                          refine AllReadyH.cons rfl (fun K hK => ?ahc_23) ?bhc_23
                          case ahc_23 =>
                            go_simp
                            refine hK.out _ _ ?shc_23 (fun hHeld => ?thc_23)
                            case shc_23 => exact HCK.out _ K6
                            case thc_23 =>
                              clear hK K c70 c71 c72 c73 c74 uf7
                              try simp only [Act.put, List.setIfInBounds_toArray, List.set_cons_zero, List.set_cons_succ]
                              obtain ⟨c80, c81, c82, c83, c84⟩ := cells5 F8a
                              have uf8 : ∀ j, (((((WF.setCell ⟨b7, 0, none⟩ (.int .u64 e)).setCell ⟨b7, 1, none⟩ (.string P)).setCell ⟨b7, 2, none⟩ (.int .i64 d)).setCell ⟨b7, 3, none⟩ (.int .i64 a)).setCell ⟨b7, 4, none⟩ (.slice av L.length cv)).frozen? ⟨b8, j, none⟩ = false := fun j => free_of F8a j
                              have K7 : ∀ v0 v1 v2 v3 v4, w1.grownBy ((((((((((WF.setCell ⟨b7, 0, none⟩ (.int .u64 e)).setCell ⟨b7, 1, none⟩ (.string P)).setCell ⟨b7, 2, none⟩ (.int .i64 d)).setCell ⟨b7, 3, none⟩ (.int .i64 a)).setCell ⟨b7, 4, none⟩ (.slice av L.length cv)).setCell ⟨b8, 0, none⟩ v0).setCell ⟨b8, 1, none⟩ v1).setCell ⟨b8, 2, none⟩ v2).setCell ⟨b8, 3, none⟩ v3).setCell ⟨b8, 4, none⟩ v4) none := fun v0 v1 v2 v3 v4 => grown_row K6 (grown5 _ b8 _ _ _ _ _) (fun y q => by have e2 : b8 = y := Option.some.inj q; omega)
                              refine wpAnyH_ready (rs := [7]) (by kernel_rfl) (by simp) ?_
                              refine AllReadyH.cons rfl (fun K hK => ?ahc_24) ?bhc_24
                              case ahc_24 =>
                                go_simp
                                refine hK.out _ _ ?shc_24 (fun hHeld => ?thc_24)
                                case shc_24 => exact HCK.out _ (K7 _ _ _ _ _)
                                case thc_24 =>
                                  clear hK K
                                  try simp only [Act.put, List.setIfInBounds_toArray, List.set_cons_zero, List.set_cons_succ]
                                  refine wpAnyH_done (by kernel_rfl) ?_ _
                                  try dsimp only
                                  go_wp2_with fail
                                  go_meet
                                  case rel => exact ⟨b7, b8, P, L, P2, L2, av, cv, av2, cv2, rfl, rfl, Lib.hid ⟨hne, l7b, l8b⟩, HP1, HP3, Lib.hid (chains_leaf F4 F5 hne l7b l8b CK O1 O3 _ _ _ _ _ _ _ _ _ _ _ rfl)⟩
                              case bhc_24 =>
                                exact AllReadyH.nil
                          case bhc_23 =>
                            exact AllReadyH.nil
                      case bhc_22 =>
                        exact AllReadyH.nil
                  case bhc_21 =>
                    refine AllReadyH.cons rfl (fun K hK => ?ahc_25) ?bhc_25
                    case ahc_25 =>
                      go_simp
                      have ga : ((wa.alloc (.cells #[.int .u64 0, .string ⟨#[]⟩, .int .i64 0, .int .i64 0, .slice none 0 0] 63))).grownBy (((wa.alloc (.cells #[.int .u64 0, .string ⟨#[]⟩, .int .i64 0, .int .i64 0, .slice none 0 0] 63))).alloc (.cells #[.int .u64 0, .string ⟨#[]⟩, .int .i64 0, .int .i64 0, .slice none 0 0] 63)) none := World.grownBy_alloc _ _ _
                      have CKn : w1.grownBy (((wa.alloc (.cells #[.int .u64 0, .string ⟨#[]⟩, .int .i64 0, .int .i64 0, .slice none 0 0] 63)).alloc (.cells #[.int .u64 0, .string ⟨#[]⟩, .int .i64 0, .int .i64 0, .slice none 0 0] 63))) none := grownBy_trans CK ga
                      have F4n : (((wa.alloc (.cells #[.int .u64 0, .string ⟨#[]⟩, .int .i64 0, .int .i64 0, .slice none 0 0] 63)).alloc (.cells #[.int .u64 0, .string ⟨#[]⟩, .int .i64 0, .int .i64 0, .slice none 0 0] 63))).heap[wa.heap.size + 1]? = some (.cells #[.int .u64 0, .string ⟨#[]⟩, .int .i64 0, .int .i64 0, .slice none 0 0] 63 (0, 0)) := heap_alloc_at ((wa.alloc (.cells #[.int .u64 0, .string ⟨#[]⟩, .int .i64 0, .int .i64 0, .slice none 0 0] 63))) (.cells #[.int .u64 0, .string ⟨#[]⟩, .int .i64 0, .int .i64 0, .slice none 0 0] 63) _ (by simp)
                      have F5n : (((wa.alloc (.cells #[.int .u64 0, .string ⟨#[]⟩, .int .i64 0, .int .i64 0, .slice none 0 0] 63)).alloc (.cells #[.int .u64 0, .string ⟨#[]⟩, .int .i64 0, .int .i64 0, .slice none 0 0] 63))).heap[wa.heap.size]? = some (.cells #[.int .u64 0, .string ⟨#[]⟩, .int .i64 0, .int .i64 0, .slice none 0 0] 63 (0, 0)) := ga.heap F5 (by simp)
                      have hne : wa.heap.size + 1 ≠ wa.heap.size := by have h := (Array.getElem?_eq_some_iff.1 F5).1; first | omega | (simp at h; omega)
                      have l7 : w1.heap.size ≤ wa.heap.size + 1 := by have h := CK.size; first | omega | (simp at h; omega) | simp
                      have O1n : (((wa.alloc (.cells #[.int .u64 0, .string ⟨#[]⟩, .int .i64 0, .int .i64 0, .slice none 0 0] 63)).alloc (.cells #[.int .u64 0, .string ⟨#[]⟩, .int .i64 0, .int .i64 0, .slice none 0 0] 63))).ownsRow _ 9 1 _ _ _ := own_keep O1 ga (fun _ _ e => by cases e)
                      refine hK.out _ _ ?shc_25 (fun hHeld => ?thc_25)
                      case shc_25 => exact HCK.out _ CKn
                      case thc_25 =>
                        clear hK K
                        clear CK F5 O1 ga
                        have CK := CKn
                        have F4 := F4n
                        have F5 := F5n
                        have O1 := O1n
                        clear CKn F4n F5n O1n
                        try simp only [Act.put, List.setIfInBounds_toArray, List.set_cons_zero, List.set_cons_succ]
                        refine wpAnyH_ready (rs := [3]) (by kernel_rfl) (by simp) ?_
                        refine AllReadyH.cons rfl (fun K hK => ?ahc_26) ?bhc_26
                        case ahc_26 =>
                          (go_simp; go_at_call 22; (with_reducible refine (HT2.out _).mono ?_); rintro r wb ⟨P2, L2, v2, rfl, hP3, hL3, hS3, O3, g3⟩; obtain ⟨av2, cv2, rfl⟩ := slice_own' O3; have HP3 := Lib.hid (And.intro hP3 (And.intro hL3 hS3)); clear hP3 hL3 hS3)
                          have CKn : w1.grownBy wb none := grownBy_trans CK g3
                          have F4n := g3.heap F4 (by simp)
                          have F5n := g3.heap F5 (by simp)
                          have O1n := own_keep O1 g3 (fun _ _ e => by cases e)
                          unfold HdrS.val
                          refine hK.out _ _ ?shc_26 (fun hHeld => ?thc_26)
                          case shc_26 => exact HCK.out _ CKn
                          case thc_26 =>
                            clear hK K
                            clear CK F4 F5 O1 g3
                            have CK := CKn
                            have F4 := F4n
                            have F5 := F5n
                            have O1 := O1n
                            clear CKn F4n F5n O1n
                            try simp only [Act.put, List.setIfInBounds_toArray, List.set_cons_zero, List.set_cons_succ]
                            obtain ⟨WF, hWF⟩ : ∃ WF, wb = WF := ⟨_, rfl⟩
                            rw [hWF] at F4 F5 O1 O3 CK
                            try simp only [hWF]
                            obtain ⟨b7, hb7⟩ : ∃ b, wa.heap.size + 1 = b := ⟨_, rfl⟩
                            have l7b : w1.heap.size ≤ b7 := by rw [← hb7]; exact l7
                            rw [hb7] at F4 hne
                            try simp only [hb7]
                            obtain ⟨b8, hb8⟩ : ∃ b, wa.heap.size = b := ⟨_, rfl⟩
                            have l8b : w1.heap.size ≤ b8 := by rw [← hb8]; exact l8
                            rw [hb8] at F5 hne
                            try simp only [hb8]
                            obtain ⟨c70, c71, c72, c73, c74⟩ := cells5 F4
                            have uf7 : ∀ j, WF.frozen? ⟨b7, j, none⟩ = false := fun j => free_of F4 j
                            have K6 : w1.grownBy (((((WF.setCell ⟨b7, 0, none⟩ (.int .u64 e)).setCell ⟨b7, 1, none⟩ (.string P)).setCell ⟨b7, 2, none⟩ (.int .i64 d)).setCell ⟨b7, 3, none⟩ (.int .i64 a)).setCell ⟨b7, 4, none⟩ (.slice av L.length cv)) none := grown_row CK (grown5 WF b7 _ _ _ _ _) (fun y q => by have e2 : b7 = y := Option.some.inj q; omega)
                            have F8a : (((((WF.setCell ⟨b7, 0, none⟩ (.int .u64 e)).setCell ⟨b7, 1, none⟩ (.string P)).setCell ⟨b7, 2, none⟩ (.int .i64 d)).setCell ⟨b7, 3, none⟩ (.int .i64 a)).setCell ⟨b7, 4, none⟩ (.slice av L.length cv)).heap[b8]? = some (.cells #[.int .u64 0, .string ⟨#[]⟩, .int .i64 0, .int .i64 0, .slice none 0 0] 63 (0, 0)) := (grown5 WF b7 _ _ _ _ _).heap F5 (fun q => hne (Option.some.inj q))
                            refine wpAnyH_ready (rs := [6]) (by kernel_rfl) (by simp) ?_
                            refine AllReadyH.cons rfl (fun K hK => ?ahc_27) ?bhc_27
                            case ahc_27 =>
                              go_simp
                              refine hK.out _ _ ?shc_27 (fun hHeld => ?thc_27)
                              case shc_27 => exact HCK.out _ K6
                              case thc_27 =>
                                clear hK K c70 c71 c72 c73 c74 uf7
                                try simp only [Act.put, List.setIfInBounds_toArray, List.set_cons_zero, List.set_cons_succ]
                                obtain ⟨c80, c81, c82, c83, c84⟩ := cells5 F8a
                                have uf8 : ∀ j, (((((WF.setCell ⟨b7, 0, none⟩ (.int .u64 e)).setCell ⟨b7, 1, none⟩ (.string P)).setCell ⟨b7, 2, none⟩ (.int .i64 d)).setCell ⟨b7, 3, none⟩ (.int .i64 a)).setCell ⟨b7, 4, none⟩ (.slice av L.length cv)).frozen? ⟨b8, j, none⟩ = false := fun j => free_of F8a j
                                have K7 : ∀ v0 v1 v2 v3 v4, w1.grownBy ((((((((((WF.setCell ⟨b7, 0, none⟩ (.int .u64 e)).setCell ⟨b7, 1, none⟩ (.string P)).setCell ⟨b7, 2, none⟩ (.int .i64 d)).setCell ⟨b7, 3, none⟩ (.int .i64 a)).setCell ⟨b7, 4, none⟩ (.slice av L.length cv)).setCell ⟨b8, 0, none⟩ v0).setCell ⟨b8, 1, none⟩ v1).setCell ⟨b8, 2, none⟩ v2).setCell ⟨b8, 3, none⟩ v3).setCell ⟨b8, 4, none⟩ v4) none := fun v0 v1 v2 v3 v4 => grown_row K6 (grown5 _ b8 _ _ _ _ _) (fun y q => by have e2 : b8 = y := Option.some.inj q; omega)
                                refine wpAnyH_ready (rs := [7]) (by kernel_rfl) (by simp) ?_
                                refine AllReadyH.cons rfl (fun K hK => ?ahc_28) ?bhc_28
                                case ahc_28 =>
                                  go_simp
                                  refine hK.out _ _ ?shc_28 (fun hHeld => ?thc_28)
                                  case shc_28 => exact HCK.out _ (K7 _ _ _ _ _)
                                  case thc_28 =>
                                    clear hK K
                                    try simp only [Act.put, List.setIfInBounds_toArray, List.set_cons_zero, List.set_cons_succ]
                                    refine wpAnyH_done (by kernel_rfl) ?_ _
                                    try dsimp only
                                    go_wp2_with fail
                                    go_meet
                                    case rel => exact ⟨b7, b8, P, L, P2, L2, av, cv, av2, cv2, rfl, rfl, Lib.hid ⟨hne, l7b, l8b⟩, HP1, HP3, Lib.hid (chains_leaf F4 F5 hne l7b l8b CK O1 O3 _ _ _ _ _ _ _ _ _ _ _ rfl)⟩
                                case bhc_28 =>
                                  exact AllReadyH.nil
                            case bhc_27 =>
                              exact AllReadyH.nil
                        case bhc_26 =>
                          exact AllReadyH.nil
                    case bhc_25 =>
                      exact AllReadyH.nil
              case bhc_20 =>
                exact AllReadyH.nil
      case bhc_1 =>
        refine AllReadyH.cons rfl (fun K hK => ?ahc_29) ?bhc_29
        case ahc_29 =>
          go_simp
          have ga : (w1).grownBy ((w1).alloc (.cells #[.int .u64 0, .string ⟨#[]⟩, .int .i64 0, .int .i64 0, .slice none 0 0] 63)) none := World.grownBy_alloc _ _ _
          have CKn : w1.grownBy ((w1.alloc (.cells #[.int .u64 0, .string ⟨#[]⟩, .int .i64 0, .int .i64 0, .slice none 0 0] 63)).drew) none := grownBy_drew (grownBy_trans (show w1.grownBy (w1) none from CK0) ga)
          have CK0n : w1.grownBy ((w1).alloc (.cells #[.int .u64 0, .string ⟨#[]⟩, .int .i64 0, .int .i64 0, .slice none 0 0] 63)) none := grownBy_trans (show w1.grownBy (w1) none from CK0) ga
          have F4n : ((w1.alloc (.cells #[.int .u64 0, .string ⟨#[]⟩, .int .i64 0, .int .i64 0, .slice none 0 0] 63)).drew).heap[w1.heap.size]? = some (.cells #[.int .u64 0, .string ⟨#[]⟩, .int .i64 0, .int .i64 0, .slice none 0 0] 63 (0, 0)) := heap_alloc_at (w1) (.cells #[.int .u64 0, .string ⟨#[]⟩, .int .i64 0, .int .i64 0, .slice none 0 0] 63) _ (by simp)
          have l7 : w1.heap.size ≤ w1.heap.size := by have h := CK.size; first | omega | (simp at h; omega) | simp
          refine hK.out _ _ ?shc_29 (fun hHeld => ?thc_29)
          case shc_29 => exact HCK.out _ CKn
          case thc_29 =>
            clear hK K
            clear CK CK0 ga
            have CK := CKn
            have CK0 := CK0n
            have F4 := F4n
            clear CKn CK0n F4n
            try simp only [Act.put, List.setIfInBounds_toArray, List.set_cons_zero, List.set_cons_succ]
            refine wpAnyH_ready (rs := [1, 5]) (by kernel_rfl) (by simp) ?_
            refine AllReadyH.cons rfl (fun K hK => ?ahc_30) ?bhc_30
            case ahc_30 =>
              (go_simp; go_at_call 22; (with_reducible refine (HT1.out _).mono ?_); rintro r wa ⟨P, L, v1, rfl, hP1, hL1, hS1, O1, g1⟩; obtain ⟨av, cv, rfl⟩ := slice_own' O1; have HP1 := Lib.hid (And.intro hP1 (And.intro hL1 hS1)); clear hP1 hL1 hS1)
              have CKn : w1.grownBy wa none := grownBy_trans CK g1
              have F4n := g1.heap F4 (by simp)
              unfold HdrS.val
              refine hK.out _ _ ?shc_30 (fun hHeld => ?thc_30)
              case shc_30 => exact HCK.out _ CKn
              case thc_30 =>
                clear hK K
                clear CK F4 g1
                have CK := CKn
                have F4 := F4n
                clear CKn F4n
                try simp only [Act.put, List.setIfInBounds_toArray, List.set_cons_zero, List.set_cons_succ]
                refine wpAnyH_ready (rs := [3, 5]) (by kernel_rfl) (by simp) ?_
                refine AllReadyH.cons rfl (fun K hK => ?ahc_31) ?bhc_31
                case ahc_31 =>
                  (go_simp; go_at_call 22; (with_reducible refine (HT2.out _).mono ?_); rintro r wb ⟨P2, L2, v2, rfl, hP3, hL3, hS3, O3, g3⟩; obtain ⟨av2, cv2, rfl⟩ := slice_own' O3; have HP3 := Lib.hid (And.intro hP3 (And.intro hL3 hS3)); clear hP3 hL3 hS3)
                  have CKn : w1.grownBy wb none := grownBy_trans CK g3
                  have F4n := g3.heap F4 (by simp)
                  have O1n := own_keep O1 g3 (fun _ _ e => by cases e)
                  unfold HdrS.val
                  refine hK.out _ _ ?shc_31 (fun hHeld => ?thc_31)
                  case shc_31 => exact HCK.out _ CKn
                  case thc_31 =>
                    clear hK K
                    clear CK F4 O1 g3
                    have CK := CKn
                    have F4 := F4n
                    have O1 := O1n
                    clear CKn F4n O1n
                    try simp only [Act.put, List.setIfInBounds_toArray, List.set_cons_zero, List.set_cons_succ]
                    refine wpAnyH_ready (rs := [5]) (by kernel_rfl) (by simp) ?_
                    refine AllReadyH.cons rfl (fun K hK => ?ahc_32) ?bhc_32
                    case ahc_32 =>
                      go_simp
                      have ga : (wb).grownBy ((wb).alloc (.cells #[.int .u64 0, .string ⟨#[]⟩, .int .i64 0, .int .i64 0, .slice none 0 0] 63)) none := World.grownBy_alloc _ _ _
                      have CKn : w1.grownBy ((wb.alloc (.cells #[.int .u64 0, .string ⟨#[]⟩, .int .i64 0, .int .i64 0, .slice none 0 0] 63))) none := grownBy_trans CK ga
                      have F5n : ((wb.alloc (.cells #[.int .u64 0, .string ⟨#[]⟩, .int .i64 0, .int .i64 0, .slice none 0 0] 63))).heap[wb.heap.size]? = some (.cells #[.int .u64 0, .string ⟨#[]⟩, .int .i64 0, .int .i64 0, .slice none 0 0] 63 (0, 0)) := heap_alloc_at (wb) (.cells #[.int .u64 0, .string ⟨#[]⟩, .int .i64 0, .int .i64 0, .slice none 0 0] 63) _ (by simp)
                      have F4n : ((wb.alloc (.cells #[.int .u64 0, .string ⟨#[]⟩, .int .i64 0, .int .i64 0, .slice none 0 0] 63))).heap[w1.heap.size]? = some (.cells #[.int .u64 0, .string ⟨#[]⟩, .int .i64 0, .int .i64 0, .slice none 0 0] 63 (0, 0)) := ga.heap F4 (by simp)
                      have hne : w1.heap.size ≠ wb.heap.size := by have h := (Array.getElem?_eq_some_iff.1 F4).1; first | omega | (simp at h; omega)
                      have l8 : w1.heap.size ≤ wb.heap.size := by have h := CK.size; first | omega | (simp at h; omega) | simp
                      have O1n : ((wb.alloc (.cells #[.int .u64 0, .string ⟨#[]⟩, .int .i64 0, .int .i64 0, .slice none 0 0] 63))).ownsRow _ 9 1 _ _ _ := own_keep O1 ga (fun _ _ e => by cases e)
                      have O3n : ((wb.alloc (.cells #[.int .u64 0, .string ⟨#[]⟩, .int .i64 0, .int .i64 0, .slice none 0 0] 63))).ownsRow _ 9 1 _ _ _ := own_keep O3 ga (fun _ _ e => by cases e)
                      refine hK.out _ _ ?shc_32 (fun hHeld => ?thc_32)
                      case shc_32 => exact HCK.out _ CKn
                      case thc_32 =>
                        clear hK K
                        clear CK F4 O1 O3 ga
                        have CK := CKn
                        have F5 := F5n
                        have F4 := F4n
                        have O1 := O1n
                        have O3 := O3n
                        clear CKn F5n F4n O1n O3n
                        try simp only [Act.put, List.setIfInBounds_toArray, List.set_cons_zero, List.set_cons_succ]
                        obtain ⟨WF, hWF⟩ : ∃ WF, (wb.alloc (.cells #[.int .u64 0, .string ⟨#[]⟩, .int .i64 0, .int .i64 0, .slice none 0 0] 63)) = WF := ⟨_, rfl⟩
                        rw [hWF] at F4 F5 O1 O3 CK
                        try simp only [hWF]
                        obtain ⟨b7, hb7⟩ : ∃ b, w1.heap.size = b := ⟨_, rfl⟩
                        have l7b : w1.heap.size ≤ b7 := by rw [← hb7]; exact l7
                        rw [hb7] at F4 hne
                        try simp only [hb7]
                        obtain ⟨b8, hb8⟩ : ∃ b, wb.heap.size = b := ⟨_, rfl⟩
                        have l8b : w1.heap.size ≤ b8 := by rw [← hb8]; exact l8
                        rw [hb8] at F5 hne
                        try simp only [hb8]
                        obtain ⟨c70, c71, c72, c73, c74⟩ := cells5 F4
                        have uf7 : ∀ j, WF.frozen? ⟨b7, j, none⟩ = false := fun j => free_of F4 j
                        have K6 : w1.grownBy (((((WF.setCell ⟨b7, 0, none⟩ (.int .u64 e)).setCell ⟨b7, 1, none⟩ (.string P)).setCell ⟨b7, 2, none⟩ (.int .i64 d)).setCell ⟨b7, 3, none⟩ (.int .i64 a)).setCell ⟨b7, 4, none⟩ (.slice av L.length cv)) none := grown_row CK (grown5 WF b7 _ _ _ _ _) (fun y q => by have e2 : b7 = y := Option.some.inj q; omega)
                        have F8a : (((((WF.setCell ⟨b7, 0, none⟩ (.int .u64 e)).setCell ⟨b7, 1, none⟩ (.string P)).setCell ⟨b7, 2, none⟩ (.int .i64 d)).setCell ⟨b7, 3, none⟩ (.int .i64 a)).setCell ⟨b7, 4, none⟩ (.slice av L.length cv)).heap[b8]? = some (.cells #[.int .u64 0, .string ⟨#[]⟩, .int .i64 0, .int .i64 0, .slice none 0 0] 63 (0, 0)) := (grown5 WF b7 _ _ _ _ _).heap F5 (fun q => hne (Option.some.inj q))
                        refine wpAnyH_ready (rs := [6]) (by kernel_rfl) (by simp) ?_
                        refine AllReadyH.cons rfl (fun K hK => ?ahc_33) ?bhc_33
                        case ahc_33 =>
                          go_simp
                          refine hK.out _ _ ?shc_33 (fun hHeld => ?thc_33)
                          case shc_33 => exact HCK.out _ K6
                          case thc_33 =>
                            clear hK K c70 c71 c72 c73 c74 uf7
                            try simp only [Act.put, List.setIfInBounds_toArray, List.set_cons_zero, List.set_cons_succ]
                            obtain ⟨c80, c81, c82, c83, c84⟩ := cells5 F8a
                            have uf8 : ∀ j, (((((WF.setCell ⟨b7, 0, none⟩ (.int .u64 e)).setCell ⟨b7, 1, none⟩ (.string P)).setCell ⟨b7, 2, none⟩ (.int .i64 d)).setCell ⟨b7, 3, none⟩ (.int .i64 a)).setCell ⟨b7, 4, none⟩ (.slice av L.length cv)).frozen? ⟨b8, j, none⟩ = false := fun j => free_of F8a j
                            have K7 : ∀ v0 v1 v2 v3 v4, w1.grownBy ((((((((((WF.setCell ⟨b7, 0, none⟩ (.int .u64 e)).setCell ⟨b7, 1, none⟩ (.string P)).setCell ⟨b7, 2, none⟩ (.int .i64 d)).setCell ⟨b7, 3, none⟩ (.int .i64 a)).setCell ⟨b7, 4, none⟩ (.slice av L.length cv)).setCell ⟨b8, 0, none⟩ v0).setCell ⟨b8, 1, none⟩ v1).setCell ⟨b8, 2, none⟩ v2).setCell ⟨b8, 3, none⟩ v3).setCell ⟨b8, 4, none⟩ v4) none := fun v0 v1 v2 v3 v4 => grown_row K6 (grown5 _ b8 _ _ _ _ _) (fun y q => by have e2 : b8 = y := Option.some.inj q; omega)
                            refine wpAnyH_ready (rs := [7]) (by kernel_rfl) (by simp) ?_
                            refine AllReadyH.cons rfl (fun K hK => ?ahc_34) ?bhc_34
                            case ahc_34 =>
                              go_simp
                              refine hK.out _ _ ?shc_34 (fun hHeld => ?thc_34)
                              case shc_34 => exact HCK.out _ (K7 _ _ _ _ _)
                              case thc_34 =>
                                clear hK K
                                try simp only [Act.put, List.setIfInBounds_toArray, List.set_cons_zero, List.set_cons_succ]
                                refine wpAnyH_done (by kernel_rfl) ?_ _
                                try dsimp only
                                go_wp2_with fail
                                go_meet
                                case rel => exact ⟨b7, b8, P, L, P2, L2, av, cv, av2, cv2, rfl, rfl, Lib.hid ⟨hne, l7b, l8b⟩, HP1, HP3, Lib.hid (chains_leaf F4 F5 hne l7b l8b CK O1 O3 _ _ _ _ _ _ _ _ _ _ _ rfl)⟩
                            case bhc_34 =>
                              exact AllReadyH.nil
                        case bhc_33 =>
                          exact AllReadyH.nil
                    case bhc_32 =>
                      exact AllReadyH.nil
                case bhc_31 =>
                  refine AllReadyH.cons rfl (fun K hK => ?ahc_35) ?bhc_35
                  case ahc_35 =>
                    go_simp
                    have ga : (wa).grownBy ((wa).alloc (.cells #[.int .u64 0, .string ⟨#[]⟩, .int .i64 0, .int .i64 0, .slice none 0 0] 63)) none := World.grownBy_alloc _ _ _
                    have CKn : w1.grownBy ((wa.alloc (.cells #[.int .u64 0, .string ⟨#[]⟩, .int .i64 0, .int .i64 0, .slice none 0 0] 63))) none := grownBy_trans CK ga
                    have F5n : ((wa.alloc (.cells #[.int .u64 0, .string ⟨#[]⟩, .int .i64 0, .int .i64 0, .slice none 0 0] 63))).heap[wa.heap.size]? = some (.cells #[.int .u64 0, .string ⟨#[]⟩, .int .i64 0, .int .i64 0, .slice none 0 0] 63 (0, 0)) := heap_alloc_at (wa) (.cells #[.int .u64 0, .string ⟨#[]⟩, .int .i64 0, .int .i64 0, .slice none 0 0] 63) _ (by simp)
                    have F4n : ((wa.alloc (.cells #[.int .u64 0, .string ⟨#[]⟩, .int .i64 0, .int .i64 0, .slice none 0 0] 63))).heap[w1.heap.size]? = some (.cells #[.int .u64 0, .string ⟨#[]⟩, .int .i64 0, .int .i64 0, .slice none 0 0] 63 (0, 0)) := ga.heap F4 (by simp)
                    have hne : w1.heap.size ≠ wa.heap.size := by have h := (Array.getElem?_eq_some_iff.1 F4).1; first | omega | (simp at h; omega)
                    have l8 : w1.heap.size ≤ wa.heap.size := by have h := CK.size; first | omega | (simp at h; omega) | simp
                    have O1n : ((wa.alloc (.cells #[.int .u64 0, .string ⟨#[]⟩, .int .i64 0, .int .i64 0, .slice none 0 0] 63))).ownsRow _ 9 1 _ _ _ := own_keep O1 ga (fun _ _ e => by cases e)
                    refine hK.out _ _ ?shc_35 (fun hHeld => ?thc_35)
                    case shc_35 => exact HCK.out _ CKn
                    case thc_35 =>
                      clear hK K
                      clear CK F4 O1 ga
                      have CK := CKn
                      have F5 := F5n
                      have F4 := F4n
                      have O1 := O1n
                      clear CKn F5n F4n O1n
                      try simp only [Act.put, List.setIfInBounds_toArray, List.set_cons_zero, List.set_cons_succ]
                      refine wpAnyH_ready (rs := [3]) (by kernel_rfl) (by simp) ?_
                      refine AllReadyH.cons rfl (fun K hK => ?ahc_36) ?bhc_36
                      case ahc_36 =>
                        (go_simp; go_at_call 22; (with_reducible refine (HT2.out _).mono ?_); rintro r wb ⟨P2, L2, v2, rfl, hP3, hL3, hS3, O3, g3⟩; obtain ⟨av2, cv2, rfl⟩ := slice_own' O3; have HP3 := Lib.hid (And.intro hP3 (And.intro hL3 hS3)); clear hP3 hL3 hS3)
                        have CKn : w1.grownBy wb none := grownBy_trans CK g3
                        have F4n := g3.heap F4 (by simp)
                        have F5n := g3.heap F5 (by simp)
                        have O1n := own_keep O1 g3 (fun _ _ e => by cases e)
                        unfold HdrS.val
                        refine hK.out _ _ ?shc_36 (fun hHeld => ?thc_36)
                        case shc_36 => exact HCK.out _ CKn
                        case thc_36 =>
                          clear hK K
                          clear CK F4 F5 O1 g3
                          have CK := CKn
                          have F4 := F4n
                          have F5 := F5n
                          have O1 := O1n
                          clear CKn F4n F5n O1n
                          try simp only [Act.put, List.setIfInBounds_toArray, List.set_cons_zero, List.set_cons_succ]
                          obtain ⟨WF, hWF⟩ : ∃ WF, wb = WF := ⟨_, rfl⟩
                          rw [hWF] at F4 F5 O1 O3 CK
                          try simp only [hWF]
                          obtain ⟨b7, hb7⟩ : ∃ b, w1.heap.size = b := ⟨_, rfl⟩
                          have l7b : w1.heap.size ≤ b7 := by rw [← hb7]; exact l7
                          rw [hb7] at F4 hne
                          try simp only [hb7]
                          obtain ⟨b8, hb8⟩ : ∃ b, wa.heap.size = b := ⟨_, rfl⟩
                          have l8b : w1.heap.size ≤ b8 := by rw [← hb8]; exact l8
                          rw [hb8] at F5 hne
                          try simp only [hb8]
                          obtain ⟨c70, c71, c72, c73, c74⟩ := cells5 F4
                          have uf7 : ∀ j, WF.frozen? ⟨b7, j, none⟩ = false := fun j => free_of F4 j
                          have K6 : w1.grownBy (((((WF.setCell ⟨b7, 0, none⟩ (.int .u64 e)).setCell ⟨b7, 1, none⟩ (.string P)).setCell ⟨b7, 2, none⟩ (.int .i64 d)).setCell ⟨b7, 3, none⟩ (.int .i64 a)).setCell ⟨b7, 4, none⟩ (.slice av L.length cv)) none := grown_row CK (grown5 WF b7 _ _ _ _ _) (fun y q => by have e2 : b7 = y := Option.some.inj q; omega)
                          have F8a : (((((WF.setCell ⟨b7, 0, none⟩ (.int .u64 e)).setCell ⟨b7, 1, none⟩ (.string P)).setCell ⟨b7, 2, none⟩ (.int .i64 d)).setCell ⟨b7, 3, none⟩ (.int .i64 a)).setCell ⟨b7, 4, none⟩ (.slice av L.length cv)).heap[b8]? = some (.cells #[.int .u64 0, .string ⟨#[]⟩, .int .i64 0, .int .i64 0, .slice none 0 0] 63 (0, 0)) := (grown5 WF b7 _ _ _ _ _).heap F5 (fun q => hne (Option.some.inj q))
                          refine wpAnyH_ready (rs := [6]) (by kernel_rfl) (by simp) ?_
                          refine AllReadyH.cons rfl (fun K hK => ?ahc_37) ?bhc_37
                          case ahc_37 =>
                            go_simp
                            refine hK.out _ _ ?shc_37 (fun hHeld => ?thc_37)
                            case shc_37 => exact HCK.out _ K6
                            case thc_37 =>
                              clear hK K c70 c71 c72 c73 c74 uf7
                              try simp only [Act.put, List.setIfInBounds_toArray, List.set_cons_zero, List.set_cons_succ]
                              obtain ⟨c80, c81, c82, c83, c84⟩ := cells5 F8a
                              have uf8 : ∀ j, (((((WF.setCell ⟨b7, 0, none⟩ (.int .u64 e)).setCell ⟨b7, 1, none⟩ (.string P)).setCell ⟨b7, 2, none⟩ (.int .i64 d)).setCell ⟨b7, 3, none⟩ (.int .i64 a)).setCell ⟨b7, 4, none⟩ (.slice av L.length cv)).frozen? ⟨b8, j, none⟩ = false := fun j => free_of F8a j
                              have K7 : ∀ v0 v1 v2 v3 v4, w1.grownBy ((((((((((WF.setCell ⟨b7, 0, none⟩ (.int .u64 e)).setCell ⟨b7, 1, none⟩ (.string P)).setCell ⟨b7, 2, none⟩ (.int .i64 d)).setCell ⟨b7, 3, none⟩ (.int .i64 a)).setCell ⟨b7, 4, none⟩ (.slice av L.length cv)).setCell ⟨b8, 0, none⟩ v0).setCell ⟨b8, 1, none⟩ v1).setCell ⟨b8, 2, none⟩ v2).setCell ⟨b8, 3, none⟩ v3).setCell ⟨b8, 4, none⟩ v4) none := fun v0 v1 v2 v3 v4 => grown_row K6 (grown5 _ b8 _ _ _ _ _) (fun y q => by have e2 : b8 = y := Option.some.inj q; omega)
                              refine wpAnyH_ready (rs := [7]) (by kernel_rfl) (by simp) ?_
                              refine AllReadyH.cons rfl (fun K hK => ?ahc_38) ?bhc_38
                              case ahc_38 =>
                                go_simp
                                refine hK.out _ _ ?shc_38 (fun hHeld => ?thc_38)
                                case shc_38 => exact HCK.out _ (K7 _ _ _ _ _)
                                case thc_38 =>
                                  clear hK K
                                  try simp only [Act.put, List.setIfInBounds_toArray, List.set_cons_zero, List.set_cons_succ]
                                  refine wpAnyH_done (by kernel_rfl) ?_ _
                                  try dsimp only
                                  go_wp2_with fail
                                  go_meet
                                  case rel => exact ⟨b7, b8, P, L, P2, L2, av, cv, av2, cv2, rfl, rfl, Lib.hid ⟨hne, l7b, l8b⟩, HP1, HP3, Lib.hid (chains_leaf F4 F5 hne l7b l8b CK O1 O3 _ _ _ _ _ _ _ _ _ _ _ rfl)⟩
                              case bhc_38 =>
                                exact AllReadyH.nil
                          case bhc_37 =>
                            exact AllReadyH.nil
                      case bhc_36 =>
                        exact AllReadyH.nil
                  case bhc_35 =>
                    exact AllReadyH.nil
            case bhc_30 =>
              refine AllReadyH.cons rfl (fun K hK => ?ahc_39) ?bhc_39
              case ahc_39 =>
                go_simp
                have ga : ((w1.alloc (.cells #[.int .u64 0, .string ⟨#[]⟩, .int .i64 0, .int .i64 0, .slice none 0 0] 63))).grownBy (((w1.alloc (.cells #[.int .u64 0, .string ⟨#[]⟩, .int .i64 0, .int .i64 0, .slice none 0 0] 63))).alloc (.cells #[.int .u64 0, .string ⟨#[]⟩, .int .i64 0, .int .i64 0, .slice none 0 0] 63)) none := World.grownBy_alloc _ _ _
                have CKn : w1.grownBy (((w1.alloc (.cells #[.int .u64 0, .string ⟨#[]⟩, .int .i64 0, .int .i64 0, .slice none 0 0] 63)).alloc (.cells #[.int .u64 0, .string ⟨#[]⟩, .int .i64 0, .int .i64 0, .slice none 0 0] 63)).drew) none := grownBy_drew (grownBy_trans (show w1.grownBy ((w1.alloc (.cells #[.int .u64 0, .string ⟨#[]⟩, .int .i64 0, .int .i64 0, .slice none 0 0] 63))) none from CK0) ga)
                have CK0n : w1.grownBy (((w1.alloc (.cells #[.int .u64 0, .string ⟨#[]⟩, .int .i64 0, .int .i64 0, .slice none 0 0] 63))).alloc (.cells #[.int .u64 0, .string ⟨#[]⟩, .int .i64 0, .int .i64 0, .slice none 0 0] 63)) none := grownBy_trans (show w1.grownBy ((w1.alloc (.cells #[.int .u64 0, .string ⟨#[]⟩, .int .i64 0, .int .i64 0, .slice none 0 0] 63))) none from CK0) ga
                have F5n : (((w1.alloc (.cells #[.int .u64 0, .string ⟨#[]⟩, .int .i64 0, .int .i64 0, .slice none 0 0] 63)).alloc (.cells #[.int .u64 0, .string ⟨#[]⟩, .int .i64 0, .int .i64 0, .slice none 0 0] 63)).drew).heap[w1.heap.size + 1]? = some (.cells #[.int .u64 0, .string ⟨#[]⟩, .int .i64 0, .int .i64 0, .slice none 0 0] 63 (0, 0)) := heap_alloc_at ((w1.alloc (.cells #[.int .u64 0, .string ⟨#[]⟩, .int .i64 0, .int .i64 0, .slice none 0 0] 63))) (.cells #[.int .u64 0, .string ⟨#[]⟩, .int .i64 0, .int .i64 0, .slice none 0 0] 63) _ (by simp)
                have F4n : (((w1.alloc (.cells #[.int .u64 0, .string ⟨#[]⟩, .int .i64 0, .int .i64 0, .slice none 0 0] 63)).alloc (.cells #[.int .u64 0, .string ⟨#[]⟩, .int .i64 0, .int .i64 0, .slice none 0 0] 63)).drew).heap[w1.heap.size]? = some (.cells #[.int .u64 0, .string ⟨#[]⟩, .int .i64 0, .int .i64 0, .slice none 0 0] 63 (0, 0)) := ga.heap F4 (by simp)
                have hne : w1.heap.size ≠ w1.heap.size + 1 := by have h := (Array.getElem?_eq_some_iff.1 F4).1; first | omega | (simp at h; omega)
                have l8 : w1.heap.size ≤ w1.heap.size + 1 := by have h := CK.size; first | omega | (simp at h; omega) | simp
                refine hK.out _ _ ?shc_39 (fun hHeld => ?thc_39)
                case shc_39 => exact HCK.out _ CKn
                case thc_39 =>
                  clear hK K
                  clear CK CK0 F4 ga
                  have CK := CKn
                  have CK0 := CK0n
                  have F5 := F5n
                  have F4 := F4n
                  clear CKn CK0n F5n F4n
                  try simp only [Act.put, List.setIfInBounds_toArray, List.set_cons_zero, List.set_cons_succ]
                  refine wpAnyH_ready (rs := [1]) (by kernel_rfl) (by simp) ?_
                  refine AllReadyH.cons rfl (fun K hK => ?ahc_40) ?bhc_40
                  case ahc_40 =>
                    (go_simp; go_at_call 22; (with_reducible refine (HT1.out _).mono ?_); rintro r wa ⟨P, L, v1, rfl, hP1, hL1, hS1, O1, g1⟩; obtain ⟨av, cv, rfl⟩ := slice_own' O1; have HP1 := Lib.hid (And.intro hP1 (And.intro hL1 hS1)); clear hP1 hL1 hS1)
                    have CKn : w1.grownBy wa none := grownBy_trans CK g1
                    have F4n := g1.heap F4 (by simp)
                    have F5n := g1.heap F5 (by simp)
                    unfold HdrS.val
                    refine hK.out _ _ ?shc_40 (fun hHeld => ?thc_40)
                    case shc_40 => exact HCK.out _ CKn
                    case thc_40 =>
                      clear hK K
                      clear CK F4 F5 g1
                      have CK := CKn
                      have F4 := F4n
                      have F5 := F5n
                      clear CKn F4n F5n
                      try simp only [Act.put, List.setIfInBounds_toArray, List.set_cons_zero, List.set_cons_succ]
                      refine wpAnyH_ready (rs := [3]) (by kernel_rfl) (by simp) ?_
                      refine AllReadyH.cons rfl (fun K hK => ?ahc_41) ?bhc_41
                      case ahc_41 =>
                        (go_simp; go_at_call 22; (with_reducible refine (HT2.out _).mono ?_); rintro r wb ⟨P2, L2, v2, rfl, hP3, hL3, hS3, O3, g3⟩; obtain ⟨av2, cv2, rfl⟩ := slice_own' O3; have HP3 := Lib.hid (And.intro hP3 (And.intro hL3 hS3)); clear hP3 hL3 hS3)
                        have CKn : w1.grownBy wb none := grownBy_trans CK g3
                        have F4n := g3.heap F4 (by simp)
                        have F5n := g3.heap F5 (by simp)
                        have O1n := own_keep O1 g3 (fun _ _ e => by cases e)
                        unfold HdrS.val
                        refine hK.out _ _ ?shc_41 (fun hHeld => ?thc_41)
                        case shc_41 => exact HCK.out _ CKn
                        case thc_41 =>
                          clear hK K
                          clear CK F4 F5 O1 g3
                          have CK := CKn
                          have F4 := F4n
                          have F5 := F5n
                          have O1 := O1n
                          clear CKn F4n F5n O1n
                          try simp only [Act.put, List.setIfInBounds_toArray, List.set_cons_zero, List.set_cons_succ]
                          obtain ⟨WF, hWF⟩ : ∃ WF, wb = WF := ⟨_, rfl⟩
                          rw [hWF] at F4 F5 O1 O3 CK
                          try simp only [hWF]
                          obtain ⟨b8, hb8⟩ : ∃ b, w1.heap.size + 1 = b := ⟨_, rfl⟩
                          have l8b : w1.heap.size ≤ b8 := by rw [← hb8]; exact l8
                          rw [hb8] at F5 hne
                          try simp only [hb8]
                          obtain ⟨b7, hb7⟩ : ∃ b, w1.heap.size = b := ⟨_, rfl⟩
                          have l7b : w1.heap.size ≤ b7 := by rw [← hb7]; exact l7
                          rw [hb7] at F4 hne
                          try simp only [hb7]
                          obtain ⟨c70, c71, c72, c73, c74⟩ := cells5 F4
                          have uf7 : ∀ j, WF.frozen? ⟨b7, j, none⟩ = false := fun j => free_of F4 j
                          have K6 : w1.grownBy (((((WF.setCell ⟨b7, 0, none⟩ (.int .u64 e)).setCell ⟨b7, 1, none⟩ (.string P)).setCell ⟨b7, 2, none⟩ (.int .i64 d)).setCell ⟨b7, 3, none⟩ (.int .i64 a)).setCell ⟨b7, 4, none⟩ (.slice av L.length cv)) none := grown_row CK (grown5 WF b7 _ _ _ _ _) (fun y q => by have e2 : b7 = y := Option.some.inj q; omega)
                          have F8a : (((((WF.setCell ⟨b7, 0, none⟩ (.int .u64 e)).setCell ⟨b7, 1, none⟩ (.string P)).setCell ⟨b7, 2, none⟩ (.int .i64 d)).setCell ⟨b7, 3, none⟩ (.int .i64 a)).setCell ⟨b7, 4, none⟩ (.slice av L.length cv)).heap[b8]? = some (.cells #[.int .u64 0, .string ⟨#[]⟩, .int .i64 0, .int .i64 0, .slice none 0 0] 63 (0, 0)) := (grown5 WF b7 _ _ _ _ _).heap F5 (fun q => hne (Option.some.inj q))
                          refine wpAnyH_ready (rs := [6]) (by kernel_rfl) (by simp) ?_
                          refine AllReadyH.cons rfl (fun K hK => ?ahc_42) ?bhc_42
                          case ahc_42 =>
                            go_simp
                            refine hK.out _ _ ?shc_42 (fun hHeld => ?thc_42)
                            case shc_42 => exact HCK.out _ K6
                            case thc_42 =>
                              clear hK K c70 c71 c72 c73 c74 uf7
                              try simp only [Act.put, List.setIfInBounds_toArray, List.set_cons_zero, List.set_cons_succ]
                              obtain ⟨c80, c81, c82, c83, c84⟩ := cells5 F8a
                              have uf8 : ∀ j, (((((WF.setCell ⟨b7, 0, none⟩ (.int .u64 e)).setCell ⟨b7, 1, none⟩ (.string P)).setCell ⟨b7, 2, none⟩ (.int .i64 d)).setCell ⟨b7, 3, none⟩ (.int .i64 a)).setCell ⟨b7, 4, none⟩ (.slice av L.length cv)).frozen? ⟨b8, j, none⟩ = false := fun j => free_of F8a j
                              have K7 : ∀ v0 v1 v2 v3 v4, w1.grownBy ((((((((((WF.setCell ⟨b7, 0, none⟩ (.int .u64 e)).setCell ⟨b7, 1, none⟩ (.string P)).setCell ⟨b7, 2, none⟩ (.int .i64 d)).setCell ⟨b7, 3, none⟩ (.int .i64 a)).setCell ⟨b7, 4, none⟩ (.slice av L.length cv)).setCell ⟨b8, 0, none⟩ v0).setCell ⟨b8, 1, none⟩ v1).setCell ⟨b8, 2, none⟩ v2).setCell ⟨b8, 3, none⟩ v3).setCell ⟨b8, 4, none⟩ v4) none := fun v0 v1 v2 v3 v4 => grown_row K6 (grown5 _ b8 _ _ _ _ _) (fun y q => by have e2 : b8 = y := Option.some.inj q; omega)
                              refine wpAnyH_ready (rs := [7]) (by kernel_rfl) (by simp) ?_
                              refine AllReadyH.cons rfl (fun K hK => ?ahc_43) ?bhc_43
                              case ahc_43 =>
                                go_simp
                                refine hK.out _ _ ?shc_43 (fun hHeld => ?thc_43)
                                case shc_43 => exact HCK.out _ (K7 _ _ _ _ _)
                                case thc_43 =>
                                  clear hK K
                                  try simp only [Act.put, List.setIfInBounds_toArray, List.set_cons_zero, List.set_cons_succ]
                                  refine wpAnyH_done (by kernel_rfl) ?_ _
                                  try dsimp only
                                  go_wp2_with fail
                                  go_meet
                                  case rel => exact ⟨b7, b8, P, L, P2, L2, av, cv, av2, cv2, rfl, rfl, Lib.hid ⟨hne, l7b, l8b⟩, HP1, HP3, Lib.hid (chains_leaf F4 F5 hne l7b l8b CK O1 O3 _ _ _ _ _ _ _ _ _ _ _ rfl)⟩
                              case bhc_43 =>
                                exact AllReadyH.nil
                          case bhc_42 =>
                            exact AllReadyH.nil
                      case bhc_41 =>
                        exact AllReadyH.nil
                  case bhc_40 =>
                    exact AllReadyH.nil
              case bhc_39 =>
                exact AllReadyH.nil
        case bhc_29 =>
          refine AllReadyH.cons rfl (fun K hK => ?ahc_44) ?bhc_44
          case ahc_44 =>
            go_simp
            have ga : (w1).grownBy ((w1).alloc (.cells #[.int .u64 0, .string ⟨#[]⟩, .int .i64 0, .int .i64 0, .slice none 0 0] 63)) none := World.grownBy_alloc _ _ _
            have CKn : w1.grownBy ((w1.alloc (.cells #[.int .u64 0, .string ⟨#[]⟩, .int .i64 0, .int .i64 0, .slice none 0 0] 63)).drew) none := grownBy_drew (grownBy_trans (show w1.grownBy (w1) none from CK0) ga)
            have CK0n : w1.grownBy ((w1).alloc (.cells #[.int .u64 0, .string ⟨#[]⟩, .int .i64 0, .int .i64 0, .slice none 0 0] 63)) none := grownBy_trans (show w1.grownBy (w1) none from CK0) ga
            have F5n : ((w1.alloc (.cells #[.int .u64 0, .string ⟨#[]⟩, .int .i64 0, .int .i64 0, .slice none 0 0] 63)).drew).heap[w1.heap.size]? = some (.cells #[.int .u64 0, .string ⟨#[]⟩, .int .i64 0, .int .i64 0, .slice none 0 0] 63 (0, 0)) := heap_alloc_at (w1) (.cells #[.int .u64 0, .string ⟨#[]⟩, .int .i64 0, .int .i64 0, .slice none 0 0] 63) _ (by simp)
            have l8 : w1.heap.size ≤ w1.heap.size := by have h := CK.size; first | omega | (simp at h; omega) | simp
            refine hK.out _ _ ?shc_44 (fun hHeld => ?thc_44)
            case shc_44 => exact HCK.out _ CKn
            case thc_44 =>
              clear hK K
              clear CK CK0 ga
              have CK := CKn
              have CK0 := CK0n
              have F5 := F5n
              clear CKn CK0n F5n
              try simp only [Act.put, List.setIfInBounds_toArray, List.set_cons_zero, List.set_cons_succ]
              refine wpAnyH_ready (rs := [1, 4]) (by kernel_rfl) (by simp) ?_
              refine AllReadyH.cons rfl (fun K hK => ?ahc_45) ?bhc_45
              case ahc_45 =>
                (go_simp; go_at_call 22; (with_reducible refine (HT1.out _).mono ?_); rintro r wa ⟨P, L, v1, rfl, hP1, hL1, hS1, O1, g1⟩; obtain ⟨av, cv, rfl⟩ := slice_own' O1; have HP1 := Lib.hid (And.intro hP1 (And.intro hL1 hS1)); clear hP1 hL1 hS1)
                have CKn : w1.grownBy wa none := grownBy_trans CK g1
                have F5n := g1.heap F5 (by simp)
                unfold HdrS.val
                refine hK.out _ _ ?shc_45 (fun hHeld => ?thc_45)
                case shc_45 => exact HCK.out _ CKn
                case thc_45 =>
                  clear hK K
                  clear CK F5 g1
                  have CK := CKn
                  have F5 := F5n
                  clear CKn F5n
                  try simp only [Act.put, List.setIfInBounds_toArray, List.set_cons_zero, List.set_cons_succ]
                  refine wpAnyH_ready (rs := [3, 4]) (by kernel_rfl) (by simp) ?_
                  refine AllReadyH.cons rfl (fun K hK => ?ahc_46) ?bhc_46
                  case ahc_46 =>
                    (go_simp; go_at_call 22; (with_reducible refine (HT2.out _).mono ?_); rintro r wb ⟨P2, L2, v2, rfl, hP3, hL3, hS3, O3, g3⟩; obtain ⟨av2, cv2, rfl⟩ := slice_own' O3; have HP3 := Lib.hid (And.intro hP3 (And.intro hL3 hS3)); clear hP3 hL3 hS3)
                    have CKn : w1.grownBy wb none := grownBy_trans CK g3
                    have F5n := g3.heap F5 (by simp)
                    have O1n := own_keep O1 g3 (fun _ _ e => by cases e)
                    unfold HdrS.val
                    refine hK.out _ _ ?shc_46 (fun hHeld => ?thc_46)
                    case shc_46 => exact HCK.out _ CKn
                    case thc_46 =>
                      clear hK K
                      clear CK F5 O1 g3
                      have CK := CKn
                      have F5 := F5n
                      have O1 := O1n
                      clear CKn F5n O1n
                      try simp only [Act.put, List.setIfInBounds_toArray, List.set_cons_zero, List.set_cons_succ]
                      refine wpAnyH_ready (rs := [4]) (by kernel_rfl) (by simp) ?_
                      refine AllReadyH.cons rfl (fun K hK => ?ahc_47) ?bhc_47
                      case ahc_47 =>
                        go_simp
                        have ga : (wb).grownBy ((wb).alloc (.cells #[.int .u64 0, .string ⟨#[]⟩, .int .i64 0, .int .i64 0, .slice none 0 0] 63)) none := World.grownBy_alloc _ _ _
                        have CKn : w1.grownBy ((wb.alloc (.cells #[.int .u64 0, .string ⟨#[]⟩, .int .i64 0, .int .i64 0, .slice none 0 0] 63))) none := grownBy_trans CK ga
                        have F4n : ((wb.alloc (.cells #[.int .u64 0, .string ⟨#[]⟩, .int .i64 0, .int .i64 0, .slice none 0 0] 63))).heap[wb.heap.size]? = some (.cells #[.int .u64 0, .string ⟨#[]⟩, .int .i64 0, .int .i64 0, .slice none 0 0] 63 (0, 0)) := heap_alloc_at (wb) (.cells #[.int .u64 0, .string ⟨#[]⟩, .int .i64 0, .int .i64 0, .slice none 0 0] 63) _ (by simp)
                        have F5n : ((wb.alloc (.cells #[.int .u64 0, .string ⟨#[]⟩, .int .i64 0, .int .i64 0, .slice none 0 0] 63))).heap[w1.heap.size]? = some (.cells #[.int .u64 0, .string ⟨#[]⟩, .int .i64 0, .int .i64 0, .slice none 0 0] 63 (0, 0)) := ga.heap F5 (by simp)
                        have hne : wb.heap.size ≠ w1.heap.size := by have h := (Array.getElem?_eq_some_iff.1 F5).1; first | omega | (simp at h; omega)
                        have l7 : w1.heap.size ≤ wb.heap.size := by have h := CK.size; first | omega | (simp at h; omega) | simp
                        have O1n : ((wb.alloc (.cells #[.int .u64 0, .string ⟨#[]⟩, .int .i64 0, .int .i64 0, .slice none 0 0] 63))).ownsRow _ 9 1 _ _ _ := own_keep O1 ga (fun _ _ e => by cases e)
                        have O3n : ((wb.alloc (.cells #[.int .u64 0, .string ⟨#[]⟩, .int .i64 0, .int .i64 0, .slice none 0 0] 63))).ownsRow _ 9 1 _ _ _ := own_keep O3 ga (fun _ _ e => by cases e)
                        refine hK.out _ _ ?shc_47 (fun hHeld => ?thc_47)
                        case shc_47 => exact HCK.out _ CKn
                        case thc_47 =>
                          clear hK K
                          clear CK F5 O1 O3 ga
                          have CK := CKn
                          have F4 := F4n
                          have F5 := F5n
                          have O1 := O1n
                          have O3 := O3n
                          clear CKn F4n F5n O1n O3n
                          try simp only [Act.put, List.setIfInBounds_toArray, List.set_cons_zero, List.set_cons_succ]
                          obtain ⟨WF, hWF⟩ : ∃ WF, (wb.alloc (.cells #[.int .u64 0, .string ⟨#[]⟩, .int .i64 0, .int .i64 0, .slice none 0 0] 63)) = WF := ⟨_, rfl⟩
                          rw [hWF] at F4 F5 O1 O3 CK
                          try simp only [hWF]
                          obtain ⟨b7, hb7⟩ : ∃ b, wb.heap.size = b := ⟨_, rfl⟩
                          have l7b : w1.heap.size ≤ b7 := by rw [← hb7]; exact l7
                          rw [hb7] at F4 hne
                          try simp only [hb7]
                          obtain ⟨b8, hb8⟩ : ∃ b, w1.heap.size = b := ⟨_, rfl⟩
                          have l8b : w1.heap.size ≤ b8 := by rw [← hb8]; exact l8
                          rw [hb8] at F5 hne
                          try simp only [hb8]
                          obtain ⟨c70, c71, c72, c73, c74⟩ := cells5 F4
                          have uf7 : ∀ j, WF.frozen? ⟨b7, j, none⟩ = false := fun j => free_of F4 j
                          have K6 : w1.grownBy (((((WF.setCell ⟨b7, 0, none⟩ (.int .u64 e)).setCell ⟨b7, 1, none⟩ (.string P)).setCell ⟨b7, 2, none⟩ (.int .i64 d)).setCell ⟨b7, 3, none⟩ (.int .i64 a)).setCell ⟨b7, 4, none⟩ (.slice av L.length cv)) none := grown_row CK (grown5 WF b7 _ _ _ _ _) (fun y q => by have e2 : b7 = y := Option.some.inj q; omega)
                          have F8a : (((((WF.setCell ⟨b7, 0, none⟩ (.int .u64 e)).setCell ⟨b7, 1, none⟩ (.string P)).setCell ⟨b7, 2, none⟩ (.int .i64 d)).setCell ⟨b7, 3, none⟩ (.int .i64 a)).setCell ⟨b7, 4, none⟩ (.slice av L.length cv)).heap[b8]? = some (.cells #[.int .u64 0, .string ⟨#[]⟩, .int .i64 0, .int .i64 0, .slice none 0 0] 63 (0, 0)) := (grown5 WF b7 _ _ _ _ _).heap F5 (fun q => hne (Option.some.inj q))
                          refine wpAnyH_ready (rs := [6]) (by kernel_rfl) (by simp) ?_
                          refine AllReadyH.cons rfl (fun K hK => ?ahc_48) ?bhc_48
                          case ahc_48 =>
                            go_simp
                            refine hK.out _ _ ?shc_48 (fun hHeld => ?thc_48)
                            case shc_48 => exact HCK.out _ K6
                            case thc_48 =>
                              clear hK K c70 c71 c72 c73 c74 uf7
                              try simp only [Act.put, List.setIfInBounds_toArray, List.set_cons_zero, List.set_cons_succ]
                              obtain ⟨c80, c81, c82, c83, c84⟩ := cells5 F8a
                              have uf8 : ∀ j, (((((WF.setCell ⟨b7, 0, none⟩ (.int .u64 e)).setCell ⟨b7, 1, none⟩ (.string P)).setCell ⟨b7, 2, none⟩ (.int .i64 d)).setCell ⟨b7, 3, none⟩ (.int .i64 a)).setCell ⟨b7, 4, none⟩ (.slice av L.length cv)).frozen? ⟨b8, j, none⟩ = false := fun j => free_of F8a j
                              have K7 : ∀ v0 v1 v2 v3 v4, w1.grownBy ((((((((((WF.setCell ⟨b7, 0, none⟩ (.int .u64 e)).setCell ⟨b7, 1, none⟩ (.string P)).setCell ⟨b7, 2, none⟩ (.int .i64 d)).setCell ⟨b7, 3, none⟩ (.int .i64 a)).setCell ⟨b7, 4, none⟩ (.slice av L.length cv)).setCell ⟨b8, 0, none⟩ v0).setCell ⟨b8, 1, none⟩ v1).setCell ⟨b8, 2, none⟩ v2).setCell ⟨b8, 3, none⟩ v3).setCell ⟨b8, 4, none⟩ v4) none := fun v0 v1 v2 v3 v4 => grown_row K6 (grown5 _ b8 _ _ _ _ _) (fun y q => by have e2 : b8 = y := Option.some.inj q; omega)
                              refine wpAnyH_ready (rs := [7]) (by kernel_rfl) (by simp) ?_
                              refine AllReadyH.cons rfl (fun K hK => ?ahc_49) ?bhc_49
                              case ahc_49 =>
                                go_simp
                                refine hK.out _ _ ?shc_49 (fun hHeld => ?thc_49)
                                case shc_49 => exact HCK.out _ (K7 _ _ _ _ _)
                                case thc_49 =>
                                  clear hK K
                                  try simp only [Act.put, List.setIfInBounds_toArray, List.set_cons_zero, List.set_cons_succ]
                                  refine wpAnyH_done (by kernel_rfl) ?_ _
                                  try dsimp only
                                  go_wp2_with fail
                                  go_meet
                                  case rel => exact ⟨b7, b8, P, L, P2, L2, av, cv, av2, cv2, rfl, rfl, Lib.hid ⟨hne, l7b, l8b⟩, HP1, HP3, Lib.hid (chains_leaf F4 F5 hne l7b l8b CK O1 O3 _ _ _ _ _ _ _ _ _ _ _ rfl)⟩
                              case bhc_49 =>
                                exact AllReadyH.nil
                          case bhc_48 =>
                            exact AllReadyH.nil
                      case bhc_47 =>
                        exact AllReadyH.nil
                  case bhc_46 =>
                    refine AllReadyH.cons rfl (fun K hK => ?ahc_50) ?bhc_50
                    case ahc_50 =>
                      go_simp
                      have ga : (wa).grownBy ((wa).alloc (.cells #[.int .u64 0, .string ⟨#[]⟩, .int .i64 0, .int .i64 0, .slice none 0 0] 63)) none := World.grownBy_alloc _ _ _
                      have CKn : w1.grownBy ((wa.alloc (.cells #[.int .u64 0, .string ⟨#[]⟩, .int .i64 0, .int .i64 0, .slice none 0 0] 63))) none := grownBy_trans CK ga
                      have F4n : ((wa.alloc (.cells #[.int .u64 0, .string ⟨#[]⟩, .int .i64 0, .int .i64 0, .slice none 0 0] 63))).heap[wa.heap.size]? = some (.cells #[.int .u64 0, .string ⟨#[]⟩, .int .i64 0, .int .i64 0, .slice none 0 0] 63 (0, 0)) := heap_alloc_at (wa) (.cells #[.int .u64 0, .string ⟨#[]⟩, .int .i64 0, .int .i64 0, .slice none 0 0] 63) _ (by simp)
                      have F5n : ((wa.alloc (.cells #[.int .u64 0, .string ⟨#[]⟩, .int .i64 0, .int .i64 0, .slice none 0 0] 63))).heap[w1.heap.size]? = some (.cells #[.int .u64 0, .string ⟨#[]⟩, .int .i64 0, .int .i64 0, .slice none 0 0] 63 (0, 0)) := ga.heap F5 (by simp)
                      have hne : wa.heap.size ≠ w1.heap.size := by have h := (Array.getElem?_eq_some_iff.1 F5).1; first | omega | (simp at h; omega)
                      have l7 : w1.heap.size ≤ wa.heap.size := by have h := CK.size; first | omega | (simp at h; omega) | simp
                      have O1n : ((wa.alloc (.cells #[.int .u64 0, .string ⟨#[]⟩, .int .i64 0, .int .i64 0, .slice none 0 0] 63))).ownsRow _ 9 1 _ _ _ := own_keep O1 ga (fun _ _ e => by cases e)
                      refine hK.out _ _ ?shc_50 (fun hHeld => ?thc_50)
                      case shc_50 => exact HCK.out _ CKn
                      case thc_50 =>
                        clear hK K
                        clear CK F5 O1 ga
                        have CK := CKn
                        have F4 := F4n
                        have F5 := F5n
                        have O1 := O1n
                        clear CKn F4n F5n O1n
                        try simp only [Act.put, List.setIfInBounds_toArray, List.set_cons_zero, List.set_cons_succ]
                        refine wpAnyH_ready (rs := [3]) (by kernel_rfl) (by simp) ?_
                        refine AllReadyH.cons rfl (fun K hK => ?ahc_51) ?bhc_51
                        case ahc_51 =>
                          (go_simp; go_at_call 22; (with_reducible refine (HT2.out _).mono ?_); rintro r wb ⟨P2, L2, v2, rfl, hP3, hL3, hS3, O3, g3⟩; obtain ⟨av2, cv2, rfl⟩ := slice_own' O3; have HP3 := Lib.hid (And.intro hP3 (And.intro hL3 hS3)); clear hP3 hL3 hS3)
                          have CKn : w1.grownBy wb none := grownBy_trans CK g3
                          have F4n := g3.heap F4 (by simp)
                          have F5n := g3.heap F5 (by simp)
                          have O1n := own_keep O1 g3 (fun _ _ e => by cases e)
                          unfold HdrS.val
                          refine hK.out _ _ ?shc_51 (fun hHeld => ?thc_51)
                          case shc_51 => exact HCK.out _ CKn
                          case thc_51 =>
                            clear hK K
                            clear CK F4 F5 O1 g3
                            have CK := CKn
                            have F4 := F4n
                            have F5 := F5n
                            have O1 := O1n
                            clear CKn F4n F5n O1n
                            try simp only [Act.put, List.setIfInBounds_toArray, List.set_cons_zero, List.set_cons_succ]
                            obtain ⟨WF, hWF⟩ : ∃ WF, wb = WF := ⟨_, rfl⟩
                            rw [hWF] at F4 F5 O1 O3 CK
                            try simp only [hWF]
                            obtain ⟨b7, hb7⟩ : ∃ b, wa.heap.size = b := ⟨_, rfl⟩
                            have l7b : w1.heap.size ≤ b7 := by rw [← hb7]; exact l7
                            rw [hb7] at F4 hne
                            try simp only [hb7]
                            obtain ⟨b8, hb8⟩ : ∃ b, w1.heap.size = b := ⟨_, rfl⟩
                            have l8b : w1.heap.size ≤ b8 := by rw [← hb8]; exact l8
                            rw [hb8] at F5 hne
                            try simp only [hb8]
                            obtain ⟨c70, c71, c72, c73, c74⟩ := cells5 F4
                            have uf7 : ∀ j, WF.frozen? ⟨b7, j, none⟩ = false := fun j => free_of F4 j
                            have K6 : w1.grownBy (((((WF.setCell ⟨b7, 0, none⟩ (.int .u64 e)).setCell ⟨b7, 1, none⟩ (.string P)).setCell ⟨b7, 2, none⟩ (.int .i64 d)).setCell ⟨b7, 3, none⟩ (.int .i64 a)).setCell ⟨b7, 4, none⟩ (.slice av L.length cv)) none := grown_row CK (grown5 WF b7 _ _ _ _ _) (fun y q => by have e2 : b7 = y := Option.some.inj q; omega)
                            have F8a : (((((WF.setCell ⟨b7, 0, none⟩ (.int .u64 e)).setCell ⟨b7, 1, none⟩ (.string P)).setCell ⟨b7, 2, none⟩ (.int .i64 d)).setCell ⟨b7, 3, none⟩ (.int .i64 a)).setCell ⟨b7, 4, none⟩ (.slice av L.length cv)).heap[b8]? = some (.cells #[.int .u64 0, .string ⟨#[]⟩, .int .i64 0, .int .i64 0, .slice none 0 0] 63 (0, 0)) := (grown5 WF b7 _ _ _ _ _).heap F5 (fun q => hne (Option.some.inj q))
                            refine wpAnyH_ready (rs := [6]) (by kernel_rfl) (by simp) ?_
                            refine AllReadyH.cons rfl (fun K hK => ?ahc_52) ?bhc_52
                            case ahc_52 =>
                              go_simp
                              refine hK.out _ _ ?shc_52 (fun hHeld => ?thc_52)
                              case shc_52 => exact HCK.out _ K6
                              case thc_52 =>
                                clear hK K c70 c71 c72 c73 c74 uf7
                                try simp only [Act.put, List.setIfInBounds_toArray, List.set_cons_zero, List.set_cons_succ]
                                obtain ⟨c80, c81, c82, c83, c84⟩ := cells5 F8a
                                have uf8 : ∀ j, (((((WF.setCell ⟨b7, 0, none⟩ (.int .u64 e)).setCell ⟨b7, 1, none⟩ (.string P)).setCell ⟨b7, 2, none⟩ (.int .i64 d)).setCell ⟨b7, 3, none⟩ (.int .i64 a)).setCell ⟨b7, 4, none⟩ (.slice av L.length cv)).frozen? ⟨b8, j, none⟩ = false := fun j => free_of F8a j
                                have K7 : ∀ v0 v1 v2 v3 v4, w1.grownBy ((((((((((WF.setCell ⟨b7, 0, none⟩ (.int .u64 e)).setCell ⟨b7, 1, none⟩ (.string P)).setCell ⟨b7, 2, none⟩ (.int .i64 d)).setCell ⟨b7, 3, none⟩ (.int .i64 a)).setCell ⟨b7, 4, none⟩ (.slice av L.length cv)).setCell ⟨b8, 0, none⟩ v0).setCell ⟨b8, 1, none⟩ v1).setCell ⟨b8, 2, none⟩ v2).setCell ⟨b8, 3, none⟩ v3).setCell ⟨b8, 4, none⟩ v4) none := fun v0 v1 v2 v3 v4 => grown_row K6 (grown5 _ b8 _ _ _ _ _) (fun y q => by have e2 : b8 = y := Option.some.inj q; omega)
                                refine wpAnyH_ready (rs := [7]) (by kernel_rfl) (by simp) ?_
                                refine AllReadyH.cons rfl (fun K hK => ?ahc_53) ?bhc_53
                                case ahc_53 =>
                                  go_simp
                                  refine hK.out _ _ ?shc_53 (fun hHeld => ?thc_53)
                                  case shc_53 => exact HCK.out _ (K7 _ _ _ _ _)
                                  case thc_53 =>
                                    clear hK K
                                    try simp only [Act.put, List.setIfInBounds_toArray, List.set_cons_zero, List.set_cons_succ]
                                    refine wpAnyH_done (by kernel_rfl) ?_ _
                                    try dsimp only
                                    go_wp2_with fail
                                    go_meet
                                    case rel => exact ⟨b7, b8, P, L, P2, L2, av, cv, av2, cv2, rfl, rfl, Lib.hid ⟨hne, l7b, l8b⟩, HP1, HP3, Lib.hid (chains_leaf F4 F5 hne l7b l8b CK O1 O3 _ _ _ _ _ _ _ _ _ _ _ rfl)⟩
                                case bhc_53 =>
                                  exact AllReadyH.nil
                            case bhc_52 =>
                              exact AllReadyH.nil
                        case bhc_51 =>
                          exact AllReadyH.nil
                    case bhc_50 =>
                      exact AllReadyH.nil
              case bhc_45 =>
                refine AllReadyH.cons rfl (fun K hK => ?ahc_54) ?bhc_54
                case ahc_54 =>
                  go_simp
                  have ga : ((w1.alloc (.cells #[.int .u64 0, .string ⟨#[]⟩, .int .i64 0, .int .i64 0, .slice none 0 0] 63))).grownBy (((w1.alloc (.cells #[.int .u64 0, .string ⟨#[]⟩, .int .i64 0, .int .i64 0, .slice none 0 0] 63))).alloc (.cells #[.int .u64 0, .string ⟨#[]⟩, .int .i64 0, .int .i64 0, .slice none 0 0] 63)) none := World.grownBy_alloc _ _ _
                  have CKn : w1.grownBy (((w1.alloc (.cells #[.int .u64 0, .string ⟨#[]⟩, .int .i64 0, .int .i64 0, .slice none 0 0] 63)).alloc (.cells #[.int .u64 0, .string ⟨#[]⟩, .int .i64 0, .int .i64 0, .slice none 0 0] 63)).drew) none := grownBy_drew (grownBy_trans (show w1.grownBy ((w1.alloc (.cells #[.int .u64 0, .string ⟨#[]⟩, .int .i64 0, .int .i64 0, .slice none 0 0] 63))) none from CK0) ga)
                  have CK0n : w1.grownBy (((w1.alloc (.cells #[.int .u64 0, .string ⟨#[]⟩, .int .i64 0, .int .i64 0, .slice none 0 0] 63))).alloc (.cells #[.int .u64 0, .string ⟨#[]⟩, .int .i64 0, .int .i64 0, .slice none 0 0] 63)) none := grownBy_trans (show w1.grownBy ((w1.alloc (.cells #[.int .u64 0, .string ⟨#[]⟩, .int .i64 0, .int .i64 0, .slice none 0 0] 63))) none from CK0) ga
                  have F4n : (((w1.alloc (.cells #[.int .u64 0, .string ⟨#[]⟩, .int .i64 0, .int .i64 0, .slice none 0 0] 63)).alloc (.cells #[.int .u64 0, .string ⟨#[]⟩, .int .i64 0, .int .i64 0, .slice none 0 0] 63)).drew).heap[w1.heap.size + 1]? = some (.cells #[.int .u64 0, .string ⟨#[]⟩, .int .i64 0, .int .i64 0, .slice none 0 0] 63 (0, 0)) := heap_alloc_at ((w1.alloc (.cells #[.int .u64 0, .string ⟨#[]⟩, .int .i64 0, .int .i64 0, .slice none 0 0] 63))) (.cells #[.int .u64 0, .string ⟨#[]⟩, .int .i64 0, .int .i64 0, .slice none 0 0] 63) _ (by simp)
                  have F5n : (((w1.alloc (.cells #[.int .u64 0, .string ⟨#[]⟩, .int .i64 0, .int .i64 0, .slice none 0 0] 63)).alloc (.cells #[.int .u64 0, .string ⟨#[]⟩, .int .i64 0, .int .i64 0, .slice none 0 0] 63)).drew).heap[w1.heap.size]? = some (.cells #[.int .u64 0, .string ⟨#[]⟩, .int .i64 0, .int .i64 0, .slice none 0 0] 63 (0, 0)) := ga.heap F5 (by simp)
                  have hne : w1.heap.size + 1 ≠ w1.heap.size := by have h := (Array.getElem?_eq_some_iff.1 F5).1; first | omega | (simp at h; omega)
                  have l7 : w1.heap.size ≤ w1.heap.size + 1 := by have h := CK.size; first | omega | (simp at h; omega) | simp
                  refine hK.out _ _ ?shc_54 (fun hHeld => ?thc_54)
                  case shc_54 => exact HCK.out _ CKn
                  case thc_54 =>
                    clear hK K
                    clear CK CK0 F5 ga
                    have CK := CKn
                    have CK0 := CK0n
                    have F4 := F4n
                    have F5 := F5n
                    clear CKn CK0n F4n F5n
                    try simp only [Act.put, List.setIfInBounds_toArray, List.set_cons_zero, List.set_cons_succ]
                    refine wpAnyH_ready (rs := [1]) (by kernel_rfl) (by simp) ?_
                    refine AllReadyH.cons rfl (fun K hK => ?ahc_55) ?bhc_55
                    case ahc_55 =>
                      (go_simp; go_at_call 22; (with_reducible refine (HT1.out _).mono ?_); rintro r wa ⟨P, L, v1, rfl, hP1, hL1, hS1, O1, g1⟩; obtain ⟨av, cv, rfl⟩ := slice_own' O1; have HP1 := Lib.hid (And.intro hP1 (And.intro hL1 hS1)); clear hP1 hL1 hS1)
                      have CKn : w1.grownBy wa none := grownBy_trans CK g1
                      have F4n := g1.heap F4 (by simp)
                      have F5n := g1.heap F5 (by simp)
                      unfold HdrS.val
                      refine hK.out _ _ ?shc_55 (fun hHeld => ?thc_55)
                      case shc_55 => exact HCK.out _ CKn
                      case thc_55 =>
                        clear hK K
                        clear CK F4 F5 g1
                        have CK := CKn
                        have F4 := F4n
                        have F5 := F5n
                        clear CKn F4n F5n
                        try simp only [Act.put, List.setIfInBounds_toArray, List.set_cons_zero, List.set_cons_succ]
                        refine wpAnyH_ready (rs := [3]) (by kernel_rfl) (by simp) ?_
                        refine AllReadyH.cons rfl (fun K hK => ?ahc_56) ?bhc_56
                        case ahc_56 =>
                          (go_simp; go_at_call 22; (with_reducible refine (HT2.out _).mono ?_); rintro r wb ⟨P2, L2, v2, rfl, hP3, hL3, hS3, O3, g3⟩; obtain ⟨av2, cv2, rfl⟩ := slice_own' O3; have HP3 := Lib.hid (And.intro hP3 (And.intro hL3 hS3)); clear hP3 hL3 hS3)
                          have CKn : w1.grownBy wb none := grownBy_trans CK g3
                          have F4n := g3.heap F4 (by simp)
                          have F5n := g3.heap F5 (by simp)
                          have O1n := own_keep O1 g3 (fun _ _ e => by cases e)
                          unfold HdrS.val
                          refine hK.out _ _ ?shc_56 (fun hHeld => ?thc_56)
                          case shc_56 => exact HCK.out _ CKn
                          case thc_56 =>
                            clear hK K
                            clear CK F4 F5 O1 g3
                            have CK := CKn
                            have F4 := F4n
                            have F5 := F5n
                            have O1 := O1n
                            clear CKn F4n F5n O1n
                            try simp only [Act.put, List.setIfInBounds_toArray, List.set_cons_zero, List.set_cons_succ]
                            obtain ⟨WF, hWF⟩ : ∃ WF, wb = WF := ⟨_, rfl⟩
                            rw [hWF] at F4 F5 O1 O3 CK
                            try simp only [hWF]
                            obtain ⟨b7, hb7⟩ : ∃ b, w1.heap.size + 1 = b := ⟨_, rfl⟩
                            have l7b : w1.heap.size ≤ b7 := by rw [← hb7]; exact l7
                            rw [hb7] at F4 hne
                            try simp only [hb7]
                            obtain ⟨b8, hb8⟩ : ∃ b, w1.heap.size = b := ⟨_, rfl⟩
                            have l8b : w1.heap.size ≤ b8 := by rw [← hb8]; exact l8
                            rw [hb8] at F5 hne
                            try simp only [hb8]
                            obtain ⟨c70, c71, c72, c73, c74⟩ := cells5 F4
                            have uf7 : ∀ j, WF.frozen? ⟨b7, j, none⟩ = false := fun j => free_of F4 j
                            have K6 : w1.grownBy (((((WF.setCell ⟨b7, 0, none⟩ (.int .u64 e)).setCell ⟨b7, 1, none⟩ (.string P)).setCell ⟨b7, 2, none⟩ (.int .i64 d)).setCell ⟨b7, 3, none⟩ (.int .i64 a)).setCell ⟨b7, 4, none⟩ (.slice av L.length cv)) none := grown_row CK (grown5 WF b7 _ _ _ _ _) (fun y q => by have e2 : b7 = y := Option.some.inj q; omega)
                            have F8a : (((((WF.setCell ⟨b7, 0, none⟩ (.int .u64 e)).setCell ⟨b7, 1, none⟩ (.string P)).setCell ⟨b7, 2, none⟩ (.int .i64 d)).setCell ⟨b7, 3, none⟩ (.int .i64 a)).setCell ⟨b7, 4, none⟩ (.slice av L.length cv)).heap[b8]? = some (.cells #[.int .u64 0, .string ⟨#[]⟩, .int .i64 0, .int .i64 0, .slice none 0 0] 63 (0, 0)) := (grown5 WF b7 _ _ _ _ _).heap F5 (fun q => hne (Option.some.inj q))
                            refine wpAnyH_ready (rs := [6]) (by kernel_rfl) (by simp) ?_
                            refine AllReadyH.cons rfl (fun K hK => ?ahc_57) ?bhc_57
                            case ahc_57 =>
                              go_simp
                              refine hK.out _ _ ?shc_57 (fun hHeld => ?thc_57)
                              case shc_57 => exact HCK.out _ K6
                              case thc_57 =>
                                clear hK K c70 c71 c72 c73 c74 uf7
                                try simp only [Act.put, List.setIfInBounds_toArray, List.set_cons_zero, List.set_cons_succ]
                                obtain ⟨c80, c81, c82, c83, c84⟩ := cells5 F8a
                                have uf8 : ∀ j, (((((WF.setCell ⟨b7, 0, none⟩ (.int .u64 e)).setCell ⟨b7, 1, none⟩ (.string P)).setCell ⟨b7, 2, none⟩ (.int .i64 d)).setCell ⟨b7, 3, none⟩ (.int .i64 a)).setCell ⟨b7, 4, none⟩ (.slice av L.length cv)).frozen? ⟨b8, j, none⟩ = false := fun j => free_of F8a j
                                have K7 : ∀ v0 v1 v2 v3 v4, w1.grownBy ((((((((((WF.setCell ⟨b7, 0, none⟩ (.int .u64 e)).setCell ⟨b7, 1, none⟩ (.string P)).setCell ⟨b7, 2, none⟩ (.int .i64 d)).setCell ⟨b7, 3, none⟩ (.int .i64 a)).setCell ⟨b7, 4, none⟩ (.slice av L.length cv)).setCell ⟨b8, 0, none⟩ v0).setCell ⟨b8, 1, none⟩ v1).setCell ⟨b8, 2, none⟩ v2).setCell ⟨b8, 3, none⟩ v3).setCell ⟨b8, 4, none⟩ v4) none := fun v0 v1 v2 v3 v4 => grown_row K6 (grown5 _ b8 _ _ _ _ _) (fun y q => by have e2 : b8 = y := Option.some.inj q; omega)
                                refine wpAnyH_ready (rs := [7]) (by kernel_rfl) (by simp) ?_
                                refine AllReadyH.cons rfl (fun K hK => ?ahc_58) ?bhc_58
                                case ahc_58 =>
                                  go_simp
                                  refine hK.out _ _ ?shc_58 (fun hHeld => ?thc_58)
                                  case shc_58 => exact HCK.out _ (K7 _ _ _ _ _)
                                  case thc_58 =>
                                    clear hK K
                                    try simp only [Act.put, List.setIfInBounds_toArray, List.set_cons_zero, List.set_cons_succ]
                                    refine wpAnyH_done (by kernel_rfl) ?_ _
                                    try dsimp only
                                    go_wp2_with fail
                                    go_meet
                                    case rel => exact ⟨b7, b8, P, L, P2, L2, av, cv, av2, cv2, rfl, rfl, Lib.hid ⟨hne, l7b, l8b⟩, HP1, HP3, Lib.hid (chains_leaf F4 F5 hne l7b l8b CK O1 O3 _ _ _ _ _ _ _ _ _ _ _ rfl)⟩
                                case bhc_58 =>
                                  exact AllReadyH.nil
                            case bhc_57 =>
                              exact AllReadyH.nil
                        case bhc_56 =>
                          exact AllReadyH.nil
                    case bhc_55 =>
                      exact AllReadyH.nil
                case bhc_54 =>
                  exact AllReadyH.nil
          case bhc_44 =>
            exact AllReadyH.nil
theorem headerChains_below (e : Int) (p : ByteArray) (d a : Int) (N : ByteArray) (he : 0 ≤ e ∧ e ≤ 18446744073709551615) (hp : p.size ≤ maxLen) (hN : N.size ≤ maxLen) (e' : Int) (p' : ByteArray) (d' a' : Int) (N' : ByteArray) (he' : 0 ≤ e' ∧ e' ≤ 18446744073709551615) (hp' : p'.size ≤ maxLen) (hN' : N'.size ≤ maxLen) (how : Int) (hh : 0 ≤ how ∧ how ≤ 255) (w : World) (hr : ShaReady w) :
    Calls Tryd.prog 7 #[.agg #[.int .u64 e, .string p, .int .i64 d, .int .i64 a, .string N], .agg #[.int .u64 e', .string p', .int .i64 d', .int .i64 a', .string N'], .int .u8 how] w fun r w' => r = .returned (.bool true) ∧ Below w.heap.size w w' := by
  obtain ⟨e, rfl⟩ := Int.eq_ofNat_of_zero_le he.1
  obtain ⟨e', rfl⟩ := Int.eq_ofNat_of_zero_le he'.1
  obtain ⟨how, rfl⟩ := Int.eq_ofNat_of_zero_le hh.1
  exact (headerChains_walk e p d a N e' p' d' a' N' how (by omega) hp hN (by omega) hp' hN' (by omega) w hr).mono fun _ _ h => ⟨h.1, below_grownBy h.2⟩
end Go.Proofs.YtioahjdojgcfdaaDoor
