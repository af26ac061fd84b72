/- The walk of the law WotsWalks. -/
import Derived.Test.YteabmmockdjhaaaDoorWotsSpeaks
import Derived.Test.YteabmmockdjhaaaDoorWotsRefS
import Derived.Deep.DeepCutAuto
import Derived.Deep.CutBlock
namespace Go.Proofs.YteabmmockdjhaaaDoor
open Go.RowKit
attribute [local irreducible] shaL

/-- a text's first bytes -/
def cut20 (s : ByteArray) : ByteArray := if s.size ≤ 20 then s else s.extract 0 20
theorem cut20_size (s : ByteArray) : (cut20 s).size ≤ 20 := by
  unfold cut20
  split
  · assumption
  · rw [ByteArray.size_extract]; omega
theorem cut20_le (s : ByteArray) (h : s.size ≤ 20) : cut20 s = s := if_pos h
theorem cut20_gt (s : ByteArray) (h : ¬ s.size ≤ 20) : cut20 s = s.extract 0 20 := if_neg h

theorem and127_all : ((List.range 256).all fun k => bits .and .i64 ((k : Int) - 128) 127 == ((k : Int) - 128) % 128) = true := by decide +kernel
theorem and63_all : ((List.range 256).all fun k => bits .and .i64 ((k : Int) - 128) 63 == ((k : Int) - 128) % 64) = true := by decide +kernel
theorem and127 (n : Int) (h : -128 ≤ n ∧ n ≤ 127) : bits .and .i64 n 127 = n % 128 := by
  have := List.all_eq_true.1 and127_all (n + 128).toNat (List.mem_range.2 (by omega))
  rw [beq_iff_eq, show (((n + 128).toNat : Nat) : Int) - 128 = n from by omega] at this
  exact this
theorem and63 (n : Int) (h : -128 ≤ n ∧ n ≤ 127) : bits .and .i64 n 63 = n % 64 := by
  have := List.all_eq_true.1 and63_all (n + 128).toNat (List.mem_range.2 (by omega))
  rw [beq_iff_eq, show (((n + 128).toNat : Nat) : Int) - 128 = n from by omega] at this
  exact this
theorem walks_meet (o : ByteArray) (leaf chain : Nat) (a b : Int) (x : ByteArray) : walkZ o leaf chain (max a 0 + 4) b (walkZ o leaf chain a (min b (max a 0 + 4)) x) = walkZ o leaf chain a b x := by
  unfold walkZ
  by_cases h : max a 0 + 4 ≤ min b 15
  · have e := walkS_add o leaf chain (max a 0).toNat 4 (min b 15 - (max a 0 + 4)).toNat x
    rw [show (min (min b (max a 0 + 4)) 15 - max a 0).toNat = 4 from by omega, show (max (max a 0 + 4) 0).toNat = (max a 0).toNat + 4 from by omega,
      show (min b 15 - max (max a 0 + 4) 0).toNat = (min b 15 - (max a 0 + 4)).toNat from by omega, e,
      show 4 + (min b 15 - (max a 0 + 4)).toNat = (min b 15 - max a 0).toNat from by omega]
  · rw [show (min b 15 - max (max a 0 + 4) 0).toNat = 0 from by omega, walkS_zero, show (min (min b (max a 0 + 4)) 15 - max a 0).toNat = (min b 15 - max a 0).toNat from by omega]

set_option maxRecDepth 100000 in
set_option maxHeartbeats 1600000 in
theorem wotsWalks_walk (seed x : ByteArray) (l : List Int) (hs : seed.size ≤ maxLen) (hx : x.size ≤ maxLen) (hl : l.length = 4) (hz : ∀ y ∈ l, (Lit.int .i8 y).wf = true) (w : World) (hr : ShaReady w) :
    Calls Tryd.prog 3 #[.string seed, .string x, .agg (l.map (Value.int .i8)).toArray] w fun e w' => e = .returned (.bool true) ∧ Below w.heap.size w w' := by
  unfold maxLen at hs hx
  obtain ⟨n0, n1, n2, n3, rfl⟩ : ∃ n0 n1 n2 n3, l = [n0, n1, n2, n3] := by
    match l, hl with
    | [a, b, c, d], _ => exact ⟨a, b, c, d, rfl⟩
  have h0 := hz n0 (by simp)
  have h1 := hz n1 (by simp)
  have h2 := hz n2 (by simp)
  have h3 := hz n3 (by simp)
  simp [Lit.wf, IntKind.min, IntKind.max, IntKind.signed, IntKind.bits] at h0 h1 h2 h3
  have HR := Lib.hid hr
  clear hr hz hl
  go_enter Tryd.func3, Tryd.ntmps3
  go_wp2_with fail
  have hR0 : ShaReady (w.alloc (.cells #[.int .i8 n0, .int .i8 n1, .int .i8 n2, .int .i8 n3] 23)) := HR.out.grown (World.grownBy_alloc _ _ _)
  have HSP := Lib.hid (wots_speaks _ hR0)
  clear hR0
  have c0 : (w.alloc (.cells #[.int .i8 n0, .int .i8 n1, .int .i8 n2, .int .i8 n3] 23)).heap[w.heap.size]? = some (.cells #[.int .i8 n0, .int .i8 n1, .int .i8 n2, .int .i8 n3] 23 (0, 0)) := heap_alloc_at _ _ _ rfl
  have HC := Lib.hid c0
  have hG0 : w.grownBy (w.alloc (.cells #[.int .i8 n0, .int .i8 n1, .int .i8 n2, .int .i8 n3] 23)) none := World.grownBy_alloc _ _ _
  have G0 := Lib.hid hG0
  clear c0 hG0
  refine HSP.out.mono ?_
  rintro e w1 ⟨rfl, g1⟩
  have G1 := Lib.hid (grownBy_trans G0.out g1)
  have hb : w1.heap[w.heap.size]? = some (.cells #[.int .i8 n0, .int .i8 n1, .int .i8 n2, .int .i8 n3] 23 (0, 0)) := by
    rw [g1.block w.heap.size (by simp) (by simp)]
    exact HC.out
  have HB := Lib.hid hb
  clear g1 hb HC HSP G0
  go_upto_region 3 with (fail)
  go_cut [0, 1] (fun sv xv wx => sv = .string (cut20 seed) ∧ xv = .string (cut20 x) ∧ Hid (∃ n, wx = w1.drewN n))
  case first =>
    by_cases q1 : seed.size ≤ 20
    · by_cases q2 : x.size ≤ 20
      · have z1 := cut20_le seed q1
        have z2 := cut20_le x q2
        go_region
        all_goals
          go_wp2_with fail
          go_meet
          case rel => exact ⟨by rw [z1], by rw [z2], ⟨1, rfl⟩⟩
      · have z1 := cut20_le seed q1
        have z2 := cut20_gt x q2
        go_region
        all_goals
          go_wp2_with fail
          go_meet
          case rel => exact ⟨by rw [z1], by rw [z2], ⟨1, rfl⟩⟩
    · by_cases q2 : x.size ≤ 20
      · have z1 := cut20_gt seed q1
        have z2 := cut20_le x q2
        go_region
        all_goals
          go_wp2_with fail
          go_meet
          case rel => exact ⟨by rw [z1], by rw [z2], ⟨1, rfl⟩⟩
      · have z1 := cut20_gt seed q1
        have z2 := cut20_gt x q2
        go_region
        all_goals
          go_wp2_with fail
          go_meet
          case rel => exact ⟨by rw [z1], by rw [z2], ⟨1, rfl⟩⟩
  case rest =>
    obtain ⟨rfl, rfl, HW⟩ := hcut
    obtain ⟨n, rfl⟩ := HW
    have hss := cut20_size seed
    have hxs := cut20_size x
    generalize cut20 seed = s at hss ⊢
    generalize cut20 x = y at hxs ⊢
    have G2 := Lib.hid (grownBy_drewN G1.out n)
    have HB2 : Hid ((w1.drewN n).heap[w.heap.size]? = some (.cells #[.int .i8 n0, .int .i8 n1, .int .i8 n2, .int .i8 n3] 23 (0, 0))) := HB.out
    clear G1 HB
    generalize w1.drewN n = w2 at G2 HB2 ⊢
    have c0 := cell_of HB2.out 0
    have c1 := cell_of HB2.out 1
    have c2 := cell_of HB2.out 2
    have c3 := cell_of HB2.out 3
    simp at c0 c1 c2 c3
    have e0 := and127 n0 h0
    have e1 := and63 n1 h1
    go_wp2_with fail
    go_quiet (fail)
    go_wp2_with fail
    go_quiet (fail)
    have f0 : 0 ≤ n0 % 128 ∧ n0 % 128 < 128 := by omega
    have f1 : 0 ≤ n1 % 64 ∧ n1 % 64 < 64 := by omega
    clear e0 e1 c0 c1 c2 c3
    generalize n0 % 128 = A at f0 ⊢
    generalize n1 % 64 = C at f1 ⊢
    obtain ⟨leaf, rfl⟩ := Int.eq_ofNat_of_zero_le f0.1
    obtain ⟨chain, rfl⟩ := Int.eq_ofNat_of_zero_le f1.1
    have hleaf : leaf ≤ 127 := by omega
    have hchain : chain < 64 := by omega
    clear f0 f1
    go_wp2_with fail
    refine (wopen_any s (by omega) _ (HR.out.grown (grownBy_drewN G2.out _))).mono ?_
    rintro e w3 ⟨rfl, g3⟩
    have G3 := Lib.hid (grownBy_trans (grownBy_drewN G2.out _) g3)
    have hosz := openS_size s
    obtain ⟨o, hO⟩ : ∃ o, openS s = o := ⟨_, rfl⟩
    rw [hO] at hosz ⊢
    have HO := Lib.hid hO
    clear hO g3 G2 HB2
    go_upto_region 8 with (fail)
    go_cut [13, 14] (fun av bv wx => ∃ p q : Int, Hid (p = max n2 0) ∧ Hid (q = min n3 15) ∧ av = .int .i64 p ∧ bv = .int .i64 q ∧ w3 = wx)
    case first =>
      by_cases q1 : 0 ≤ n2
      · by_cases q2 : n3 ≤ 15
        · go_wp2
          all_goals
            go_meet
            case rel => exact ⟨n2, n3, (by show _ = _; omega), (by show _ = _; omega), by first | rfl | (congr 1; omega), by first | rfl | (congr 1; omega), rfl⟩
        · go_wp2
          all_goals
            go_meet
            case rel => exact ⟨n2, 15, (by show _ = _; omega), (by show _ = _; omega), by first | rfl | (congr 1; omega), by first | rfl | (congr 1; omega), rfl⟩
      · by_cases q2 : n3 ≤ 15
        · go_wp2
          all_goals
            go_meet
            case rel => exact ⟨0, n3, (by show _ = _; omega), (by show _ = _; omega), by first | rfl | (congr 1; omega), by first | rfl | (congr 1; omega), rfl⟩
        · go_wp2
          all_goals
            go_meet
            case rel => exact ⟨0, 15, (by show _ = _; omega), (by show _ = _; omega), by first | rfl | (congr 1; omega), by first | rfl | (congr 1; omega), rfl⟩
    case rest =>
      obtain ⟨p, q, HP, HQ, rfl, rfl, rfl⟩ := hcut
      have hp0 : 0 ≤ p := by have := HP.out; omega
      have hp1 : p ≤ 127 := by have := HP.out; omega
      have hq0 : -128 ≤ q := by have := HQ.out; omega
      have hq1 : q ≤ 15 := by have := HQ.out; omega
      obtain ⟨pn, rfl⟩ := Int.eq_ofNat_of_zero_le hp0
      have HM : Hid (∀ m : Nat, (walkS o leaf chain pn m y).size ≤ 20) := fun m => walkS_size o leaf chain pn m y 20 hxs (by decide)
      go_wp2_with fail
      go_loopw [12, 15] (fun xv kv wr => ∃ k : Nat, ∃ z : ByteArray, pn ≤ k ∧ (k = pn ∨ ((k : Int) ≤ q ∧ k ≤ pn + 4)) ∧ kv = .int .i64 k ∧ xv = .string z ∧ Hid (z = walkS o leaf chain pn (k - pn) y) ∧ Hid (w.grownBy wr none)) (fun _ kv _ => (200 - intOf kv).toNat)
      case atStart => exact ⟨pn, y, Nat.le_refl _, .inl rfl, rfl, rfl, by show _ = _; rw [Nat.sub_self]; rfl, G3.out⟩
      case round =>
        obtain ⟨k, z, hk, hk2, rfl, rfl, HZ, HG⟩ := hrel
        by_cases hlt : (k : Int) < q ∧ k < pn + 4
        · obtain ⟨t1, t2⟩ := hlt
          have t2' : (k : Int) < pn + 4 := by omega
          have hzs : z.size ≤ 20 := by rw [HZ.out]; exact HM.out _
          have hst := Lib.hid (refStep_any wr o z leaf chain k (by omega) (by omega) (by omega) (by omega) (by omega))
          clear hk2
          go_wp2_with fail
          refine hst.out.mono ?_
          rintro e w4 ⟨rfl, g4⟩
          have G4 := Lib.hid (grownBy_trans HG.out g4)
          clear g4 hst
          go_wp2_with fail
          go_roundw
          case rel =>
            refine ⟨k + 1, _, by omega, by omega, by go_num, rfl, ?_, G4.out⟩
            show _ = _
            rw [show k + 1 - pn = (k - pn) + 1 from by omega, walkS_succ, ← HZ.out, show pn + (k - pn) = k from by omega]
          case measure => simp [intOf]; omega
        · have hz1 : z = walkZ o leaf chain n2 (min n3 (pn + 4)) y := by
            rw [HZ.out]
            unfold walkZ
            have e1 := HP.out
            have e2 := HQ.out
            rw [← e1, show ((pn : Nat) : Int).toNat = pn from by omega]
            congr 1
            omega
          have hw2 : walkZ o leaf chain (pn + 4) n3 z = walkZ o leaf chain n2 n3 y := by
            rw [hz1, HP.out]
            exact walks_meet o leaf chain n2 n3 y
          have HZ1 := Lib.hid hz1
          have HW2 := Lib.hid hw2
          have hzs : z.size ≤ 20 := by rw [HZ.out]; exact HM.out _
          clear hz1 hw2 hk2
          have t3 : (k : Int) < q → ¬ (k : Int) < pn + 4 := fun a b => hlt ⟨a, by omega⟩
          clear hlt
          have hfin : ∀ wx : World, Hid (w.grownBy wx none) → True := fun _ _ => trivial
          clear hfin
          by_cases t1 : (k : Int) < q
          · have t2 := t3 t1
            clear t3
            go_upto_region 13 with (fail)
            go_cut [16] (fun v wx => v = .string z ∧ Hid (w.grownBy wx none))
            case first =>
              by_cases q3 : n3 ≤ (pn : Int) + 4
              · have hw := wwalk_any o y leaf chain n2 n3 (by omega) (by omega) (by omega) (by omega) (by omega) (by omega) wr (HR.out.grown HG.out)
                rw [show walkZ o leaf chain n2 n3 y = z from by rw [HZ1.out, Int.min_eq_left q3]] at hw
                have HWK := Lib.hid hw
                clear hw
                go_wp2_with fail
                refine HWK.out.mono ?_
                rintro e w4 ⟨rfl, g4⟩
                have G4 := Lib.hid (grownBy_trans HG.out g4)
                clear g4 HWK
                go_wp2_with fail
                go_meet
                case rel => exact ⟨rfl, G4.out⟩
              · have hw := wwalk_any o y leaf chain n2 ((pn : Int) + 4) (by omega) (by omega) (by omega) (by omega) (by omega) (by omega) wr (HR.out.grown HG.out)
                rw [show walkZ o leaf chain n2 ((pn : Int) + 4) y = z from by rw [HZ1.out, Int.min_eq_right (by omega)]] at hw
                have HWK := Lib.hid hw
                clear hw
                go_wp2_with fail
                refine HWK.out.mono ?_
                rintro e w4 ⟨rfl, g4⟩
                have G4 := Lib.hid (grownBy_trans HG.out g4)
                clear g4 HWK
                go_wp2_with fail
                go_meet
                case rel => exact ⟨rfl, G4.out⟩
            case rest =>
              obtain ⟨rfl, HG4⟩ := hcut
              rename_i wc
              have HA := Lib.hid (wwalk_any o y leaf chain n2 n3 (by omega) (by omega) (by omega) (by omega) (by omega) (by omega) wc (HR.out.grown HG4.out))
              go_wp2_with fail
              refine HA.out.mono ?_
              rintro e w5 ⟨rfl, g5⟩
              have G5 := Lib.hid (grownBy_trans HG4.out g5)
              clear g5 HA HG4
              have hB := wwalk_any o z leaf chain ((pn : Int) + 4) n3 (by omega) (by omega) (by omega) (by omega) (by omega) (by omega) w5 (HR.out.grown G5.out)
              rw [HW2.out] at hB
              have HB := Lib.hid hB
              clear hB
              go_wp2_with fail
              refine HB.out.mono ?_
              rintro e w6 ⟨rfl, g6⟩
              have G6 := Lib.hid (grownBy_trans G5.out g6)
              clear g6 HB G5
              have hT := refTagged_new w6 w6.heap.size rfl 3 [s] _ 1 3 rfl rfl rfl (by simp) (by intro s' h; simp at h; subst h; omega)
              rw [show tagS 3 [s] = o from HO.out] at hT
              have HT := Lib.hid hT
              clear hT
              generalize walkZ o leaf chain n2 n3 y = W
              go_wp2_with fail
              refine HT.out.mono ?_
              rintro e w7 ⟨rfl, g7⟩
              have G7 := Lib.hid (grownBy_trans G6.out g7)
              clear g7 HT
              go_wp2_with fail
              go_ret
              exact ⟨rfl, below_grownBy G7.out⟩
          · clear t3
            go_upto_region 13 with (fail)
            go_cut [16] (fun v wx => v = .string z ∧ Hid (w.grownBy wx none))
            case first =>
              by_cases q3 : n3 ≤ (pn : Int) + 4
              · have hw := wwalk_any o y leaf chain n2 n3 (by omega) (by omega) (by omega) (by omega) (by omega) (by omega) wr (HR.out.grown HG.out)
                rw [show walkZ o leaf chain n2 n3 y = z from by rw [HZ1.out, Int.min_eq_left q3]] at hw
                have HWK := Lib.hid hw
                clear hw
                go_wp2_with fail
                refine HWK.out.mono ?_
                rintro e w4 ⟨rfl, g4⟩
                have G4 := Lib.hid (grownBy_trans HG.out g4)
                clear g4 HWK
                go_wp2_with fail
                go_meet
                case rel => exact ⟨rfl, G4.out⟩
              · have hw := wwalk_any o y leaf chain n2 ((pn : Int) + 4) (by omega) (by omega) (by omega) (by omega) (by omega) (by omega) wr (HR.out.grown HG.out)
                rw [show walkZ o leaf chain n2 ((pn : Int) + 4) y = z from by rw [HZ1.out, Int.min_eq_right (by omega)]] at hw
                have HWK := Lib.hid hw
                clear hw
                go_wp2_with fail
                refine HWK.out.mono ?_
                rintro e w4 ⟨rfl, g4⟩
                have G4 := Lib.hid (grownBy_trans HG.out g4)
                clear g4 HWK
                go_wp2_with fail
                go_meet
                case rel => exact ⟨rfl, G4.out⟩
            case rest =>
              obtain ⟨rfl, HG4⟩ := hcut
              rename_i wc
              have HA := Lib.hid (wwalk_any o y leaf chain n2 n3 (by omega) (by omega) (by omega) (by omega) (by omega) (by omega) wc (HR.out.grown HG4.out))
              go_wp2_with fail
              refine HA.out.mono ?_
              rintro e w5 ⟨rfl, g5⟩
              have G5 := Lib.hid (grownBy_trans HG4.out g5)
              clear g5 HA HG4
              have hB := wwalk_any o z leaf chain ((pn : Int) + 4) n3 (by omega) (by omega) (by omega) (by omega) (by omega) (by omega) w5 (HR.out.grown G5.out)
              rw [HW2.out] at hB
              have HB := Lib.hid hB
              clear hB
              go_wp2_with fail
              refine HB.out.mono ?_
              rintro e w6 ⟨rfl, g6⟩
              have G6 := Lib.hid (grownBy_trans G5.out g6)
              clear g6 HB G5
              have hT := refTagged_new w6 w6.heap.size rfl 3 [s] _ 1 3 rfl rfl rfl (by simp) (by intro s' h; simp at h; subst h; omega)
              rw [show tagS 3 [s] = o from HO.out] at hT
              have HT := Lib.hid hT
              clear hT
              generalize walkZ o leaf chain n2 n3 y = W
              go_wp2_with fail
              refine HT.out.mono ?_
              rintro e w7 ⟨rfl, g7⟩
              have G7 := Lib.hid (grownBy_trans G6.out g7)
              clear g7 HT
              go_wp2_with fail
              go_ret
              exact ⟨rfl, below_grownBy G7.out⟩
end Go.Proofs.YteabmmockdjhaaaDoor
