/- The walk of the law RosterAdds. -/
import Derived.Test.YtioahjdojgcfdaaDoorRosterAddsB7
import Derived.Deep.DeepCutAuto
import Derived.Deep.CutBlock
import Derived.Deep.RegionHeld3
namespace Go.Proofs.YtioahjdojgcfdaaDoor
open Go.RowKit
attribute [local irreducible] shaL

def cut70 (s : ByteArray) : ByteArray := s.extract 0 (min s.size 70)
theorem cut70_size (s : ByteArray) : (cut70 s).size ≤ 70 := by unfold cut70; rw [ByteArray.size_extract]; omega
theorem cut70_eq (s : ByteArray) : s.extract 0 (min (s.size : Int) 70).toNat = cut70 s := by
  unfold cut70
  congr 1
  omega
theorem own_formR {w : World} {B n s : Nat} {t : TypeId} {v : Value} {xs : List Value} (h : w.ownsRow B t s v n xs) : ∃ a cap, v = .slice a n cap := by
  rcases h.2 with ⟨rfl, rfl⟩ | ⟨g, cap, cur, rfl, _⟩
  · exact ⟨none, 0, rfl⟩
  · exact ⟨_, cap, rfl⟩
/-- behind an Add -/
structure RB (w : World) (n0 rb XB : Nat) (M : List LA) (X : LA) (er : Int) (v mv : Value) (wr : World) : Prop where
  ros : RosAt n0 rb ((if er = 0 then M ++ [X] else M).map LA.aud) v wr
  row : wr.ownsRow n0 77 3 mv M.length (lasV M)
  ne : ∀ y, mv.ownBlock = some y → y ≠ rb ∧ v.ownBlock ≠ some y
  x : wr.heap[XB]? = some (.cells X.cells.toArray 77 (0, 0))
  gr : w.grownBy wr none
  l : M.length ≤ 64
  l0 : w.heap.size ≤ n0
theorem RB.go {w : World} {n0 rb XB : Nat} {M : List LA} {X : LA} {er : Int} {v mv : Value} {wr wr' : World} (h : RB w n0 rb XB M X er v mv wr) (g : wr.grownBy wr' none) : RB w n0 rb XB M X er v mv wr' :=
  ⟨h.ros.go g, own_keepR h.row g (fun _ _ e => by cases e), h.ne, g.heap h.x (by simp), grownBy_trans h.gr g, h.l, h.l0⟩
theorem RB.cx {w : World} {n0 rb XB : Nat} {M : List LA} {nm : ByteArray} {c : UInt8} {h : Int} {er : Int} {v mv : Value} {wr : World} (k : RB w n0 rb XB M ⟨nm, c, h⟩ er v mv wr) : wr.cell? ⟨XB, 0, none⟩ = some (.string nm) ∧ wr.cell? ⟨XB, 1, none⟩ = some (.int .u8 c.toNat) ∧ wr.cell? ⟨XB, 2, none⟩ = some (.int .i64 h) := by
  refine ⟨?_, ?_, ?_⟩ <;> rw [cell_of k.x] <;> rfl
def numR (M : List LA) (er : Int) : Int := if er = 0 then (M.length : Int) else 0
def wantR (M : List LA) (X : LA) : Int := if X.aud.err ≠ 0 then X.aud.err else if hasL (M.map LA.aud) X.aud then 19 else 0
theorem addE_want (M : List LA) (X : LA) : addE (M.map LA.aud) X.aud = if wantR M X ≠ 0 then wantR M X else if 64 ≤ M.length then 9 else 0 := by
  unfold addE wantR
  rw [List.length_map]
  by_cases h : X.aud.err = 0
  · rw [if_neg (not_not_intro h), if_neg (not_not_intro h)]
    cases hasL (M.map LA.aud) X.aud <;> simp
  · rw [if_pos h, if_pos h, if_pos h]
theorem ra_next {w : World} {rb XB : Nat} {M : List LA} {X : LA} {v mv : Value} {wq w9 : World} {BB g9 c9 : Nat} (h : RB w rb rb XB M X 0 v mv wq) (h64 : M.length < 64) (hBB : wq.heap.size = BB) (g : wq.grownBy w9 none)
    (ho : w9.ownsRow BB 77 3 (.slice (some ⟨g9, 0, none⟩) (M.length + 1) c9) (M.length + 1) (lasV M ++ X.cells)) : RA w rb rb (M ++ [X]) v (.slice (some ⟨g9, 0, none⟩) (M.length + 1) c9) w9 := by
  have hr := h.ros
  rw [if_pos rfl] at hr
  have hlt := hr.lt
  have hb : BB ≤ g9 := (ho.lt g9 rfl).1
  refine ⟨hr.go g, ?_, fun y q => ?_, grownBy_trans h.gr g, by rw [List.length_append, List.length_singleton]; omega, h.l0⟩
  · rw [List.length_append, List.length_singleton, lasV_append, lasV_one]
    exact own_lowL ho (by omega)
  · have e : g9 = y := by simpa [Value.ownBlock] using q
    subst e
    refine ⟨by omega, fun k => ?_⟩
    have := (hr.o.lt g9 k).2
    omega
set_option maxRecDepth 100000 in
set_option maxHeartbeats 6400000 in
theorem rosterAdds_walk (la : Option Addr) (ln lc : Nat) (LIN : List LA) (at_ : Int) (w : World) (hl : LAsAt w (.slice la ln lc) LIN) (hs : ∀ x ∈ LIN, x.n.size ≤ maxLen) (hln : ln ≤ maxLen) (hat : -9223372036854775808 ≤ at_ ∧ at_ ≤ 9223372036854775807) (hN : NormAt w) :
    Calls Tryd.prog 8 #[.slice la ln lc, .int .i64 at_] w fun e w' => e = .returned (.bool true) ∧ w.grownBy w' none := by
  have HN := Lib.hid hN
  have HL := Lib.hid hl
  have HS := Lib.hid hs
  have HSP := Lib.hid (ros_speaks w hN)
  have HLL := Lib.hid hl.len
  unfold maxLen at hln
  clear hN hl hs
  go_enter Tryd.func8, Tryd.ntmps8
  go_wp2_with fail
  refine HSP.out.mono ?_
  rintro e w1 ⟨rfl, g1⟩
  have HG1 := Lib.hid g1
  clear g1 HSP
  go_wp2_with fail
  refine (rnew_any w1).mono ?_
  rintro e w2 ⟨rfl, hr2, g2⟩
  obtain ⟨rb, hrb⟩ : ∃ rb, w1.heap.size = rb := ⟨_, rfl⟩
  rw [hrb] at hr2 ⊢
  have R2 : Hid (RA w rb rb [] (.slice none 0 0) (.slice none 0 0) w2) := Lib.hid ⟨⟨hr2, World.ownsRow_nil _ _ _ _, by simp [Value.ownBlock], Nat.le_refl _⟩, World.ownsRow_nil _ _ _ _, fun y q => (by simp [Value.ownBlock] at q), grownBy_trans HG1.out g2, Nat.zero_le _, by rw [← hrb]; exact HG1.out.size⟩
  clear hr2 g2 hrb
  go_wp2_with fail
  go_loopg [6, 7, 8, 9, 10, 11, 12] 80 (fun gn mv iv _ _ _ _ _ wr => ∃ (i : Nat) (M : List LA) (v mv' : Value), i + gn ≥ 80 ∧ i ≤ ln ∧ i ≤ 80 ∧ iv = .int .i64 i ∧ mv = mv' ∧ Hid (RA w rb rb M v mv' wr))
  case atStart => exact ⟨0, [], _, _, by omega, Nat.zero_le _, Nat.zero_le _, rfl, rfl, R2⟩
  case round =>
    clear R2
    obtain ⟨i, M, v, mv, hgn, hi, hi80, rfl, hmv, HR⟩ := hrel
    subst hmv
    obtain ⟨ma, mc, hmv⟩ := own_formR HR.out.row
    subst hmv
    by_cases hlt : i < ln
    · by_cases hlt8 : i < 80
      · have b0 : (0 : Int) ≤ (i : Int) := by omega
        have b1 : (i : Int) < (ln : Int) := by omega
        have b2 : (i : Int) < 80 := by omega
        have hil : i < LIN.length := by have := HLL.out; omega
        obtain ⟨x, hx⟩ : ∃ x, LIN[i]? = some x := ⟨_, List.getElem?_eq_getElem hil⟩
        obtain ⟨lg, lo, rfl, c0, c1, c2⟩ := HL.out.at_ i x hx
        have c0 := HR.out.gr.cell c0 (by simp)
        have c1 := HR.out.gr.cell c1 (by simp)
        have c2 := HR.out.gr.cell c2 (by simp)
        have hxs := HS.out x (List.mem_of_getElem? hx)
        unfold maxLen at hxs
        obtain ⟨xn, xc, xh⟩ := x
        simp only at c0 c1 c2 hxs
        have he70 := cut70_eq xn
        clear hx hil
        go_upto_region 10 with fail
        obtain ⟨XB, hXB⟩ : ∃ XB, wr.heap.size = XB := ⟨_, rfl⟩
        have hg1 := World.grownBy_alloc wr (.cells #[.string (cut70 xn), .int .u8 xc.toNat, .int .i64 xh] 77) none
        have hb1 := heap_alloc_at wr (.cells #[.string (cut70 xn), .int .u8 xc.toNat, .int .i64 xh] 77) XB hXB
        obtain ⟨W1, hW1⟩ : ∃ W1, wr.alloc (.cells #[.string (cut70 xn), .int .u8 xc.toNat, .int .i64 xh] 77) = W1 := ⟨_, rfl⟩
        rw [hW1] at hg1 hb1
        rw [hW1, hXB]
        have hxr : rb < XB := by rw [← hXB]; exact HR.out.ros.lt
        have hx70 := cut70_size xn
        obtain ⟨X, hX⟩ : ∃ X : LA, X = ⟨cut70 xn, xc, xh⟩ := ⟨_, rfl⟩
        have hXn : X.n.size ≤ 70 := by rw [hX]; exact hx70
        have HR1 := Lib.hid (HR.out.go hg1)
        have hmX : ∀ y, (Value.slice ma M.length mc).ownBlock = some y → y < XB := by
          intro y q
          rw [← hXB]
          exact (HR.out.row.lt y q).2
        have hvX : ∀ y, v.ownBlock = some y → y < XB := by
          intro y q
          rw [← hXB]
          exact (HR.out.ros.o.lt y q).2
        obtain ⟨er, her⟩ : ∃ er, addE (M.map LA.aud) X.aud = er := ⟨_, rfl⟩
        have hb1' : W1.heap[XB]? = some (.cells X.cells.toArray 77 (0, 0)) := by rw [hX]; exact hb1
        have HK := Lib.hid (fun w' => key20_any xc xh w')
        go_cut [9, 10] (fun v9 v10 wx => v9 = .int .i64 (numR M er) ∧ v10 = .int .i64 er ∧ ∃ v', Hid (RB w rb rb XB M X er v' (.slice ma M.length mc) wx))
        case rest =>
          as_aux_lemma =>
          rename World => wx
          obtain ⟨rfl, rfl, v', HB⟩ := hcut
          subst hX
          have hEE : (⟨cut70 xn, xc, xh⟩ : LA).aud.err = if nameE (cut70 xn).data.toList ≠ 0 then nameE (cut70 xn).data.toList else if 0 ≤ xh ∧ xh ≤ 6 then 0 else 10 := by
            unfold AudS.err
            show (if nameE (cut70 xn).data.toList ≠ 0 then nameE (cut70 xn).data.toList else pubErr (keyO xc) noughts20 xh) = _
            rw [pubErr_key]
          have HNM := Lib.hid (fun w' => ref18norm_any (cut70 xn) w' (by omega))
          have hW := addE_want M ⟨cut70 xn, xc, xh⟩
          rw [her] at hW
          have hWR : wantR M ⟨cut70 xn, xc, xh⟩ = if (⟨cut70 xn, xc, xh⟩ : LA).aud.err ≠ 0 then (⟨cut70 xn, xc, xh⟩ : LA).aud.err else if hasL (M.map LA.aud) (⟨cut70 xn, xc, xh⟩ : LA).aud then 19 else 0 := rfl
          obtain ⟨EE, hEe⟩ : ∃ EE, (⟨cut70 xn, xc, xh⟩ : LA).aud.err = EE := ⟨_, rfl⟩
          obtain ⟨WR, hWr⟩ : ∃ WR, wantR M ⟨cut70 xn, xc, xh⟩ = WR := ⟨_, rfl⟩
          rw [hEe] at hEE hWR
          rw [hWr] at hW hWR
          have HWW := Lib.hid (And.intro hW hWR)
          obtain ⟨NE, hNE⟩ : ∃ NE, nameE (cut70 xn).data.toList = NE := ⟨_, rfl⟩
          rw [hNE] at hEE HNM
          have HEE := Lib.hid hEE
          clear hEE hNE hW hWR hEe hWr her hg1 hb1 hb1' HR1 HR hmX hvX hW1 HK hXn he70 c0 c1 c2 hxs hx70 hXB
          obtain ⟨x0, x1, x2⟩ := HB.out.cx
          go_wp2_with fail
          refine (HNM.out _).mono ?_
          rintro e wy ⟨rfl, gy⟩
          have HB1 := Lib.hid (HB.out.go gy)
          clear gy HB x0 x1 x2 HNM
          obtain ⟨x0, x1, x2⟩ := HB1.out.cx
          obtain ⟨tb, htb⟩ : ∃ tb : Bool, (decide (NE = 0) && (decide (xh < 0) || decide (6 < xh))) = tb := ⟨_, rfl⟩
          have HTB := Lib.hid htb
          clear htb
          go_upto_region 12 with fail
          go_cut [67] (fun v67 wz => v67 = .bool tb ∧ Hid (RB w rb rb XB M ⟨cut70 xn, xc, xh⟩ er v' (.slice ma M.length mc) wz))
          case first =>
            have hT := HTB.out
            by_cases h0 : NE = 0
            · have q1 : (NE == 0) = true := by simp [h0]
              rw [decide_eq_true h0, Bool.true_and] at hT
              by_cases h1 : xh < 0
              · rw [decide_eq_true h1, Bool.true_or] at hT
                subst hT
                clear h0
                go_wp2_with fail
                go_meet
                case rel => exact ⟨rfl, HB1⟩
              · by_cases h2 : 6 < xh
                · rw [decide_eq_true h2, Bool.or_true] at hT
                  subst hT
                  clear h0
                  go_wp2_with fail
                  go_meet
                  case rel => exact ⟨rfl, HB1⟩
                · rw [decide_eq_false h1, decide_eq_false h2] at hT
                  subst hT
                  clear h0
                  go_wp2_with fail
                  go_meet
                  case rel => exact ⟨rfl, HB1⟩
            · have q1 : (NE == 0) = false := by simp [h0]
              rw [decide_eq_false h0, Bool.false_and] at hT
              subst hT
              clear h0
              go_wp2_with fail
              go_meet
              case rel => exact ⟨rfl, HB1⟩
          case rest =>
           as_aux_lemma =>
           rename World => wz
           obtain ⟨rfl, HB2⟩ := hcut
           clear HB1 x0 x1 x2
           go_upto_if 67 with fail
           go_cut [11] (fun v11 wz => v11 = .int .i64 EE ∧ Hid (RB w rb rb XB M ⟨cut70 xn, xc, xh⟩ er v' (.slice ma M.length mc) wz))
           case first =>
            have hT := HTB.out
            have hE := HEE.out
            cases tb
            · have hq : NE ≠ 0 ∨ (0 ≤ xh ∧ xh ≤ 6) := by
                by_cases h0 : NE = 0
                · refine Or.inr ?_
                  rw [decide_eq_true h0, Bool.true_and, Bool.or_eq_false_iff, decide_eq_false_iff_not, decide_eq_false_iff_not] at hT
                  omega
                · exact Or.inl h0
              have hEN : EE = NE := by
                rw [hE]
                by_cases h0 : NE = 0
                · rw [if_neg (not_not_intro h0), if_pos (hq.resolve_left (not_not_intro h0))]
                  exact h0.symm
                · rw [if_pos h0]
              clear hE hT hq
              go_wp2_with fail
              go_meet
              case rel => exact ⟨by rw [hEN], HB2⟩
            · rw [Bool.and_eq_true, Bool.or_eq_true, decide_eq_true_eq, decide_eq_true_eq, decide_eq_true_eq] at hT
              have hEN : EE = 10 := by rw [hE, if_neg (not_not_intro hT.1), if_neg (by omega)]
              clear hE hT
              go_wp2_with fail
              go_meet
              case rel => exact ⟨by rw [hEN], HB2⟩
           case rest =>
            as_aux_lemma =>
            rename World => wz
            obtain ⟨rfl, HB1⟩ := hcut
            clear HB2 HEE HTB
            go_upto_block 2 with fail
            go_cut [11, 12] (fun v11 _ wq => v11 = .int .i64 WR ∧ Hid (RB w rb rb XB M ⟨cut70 xn, xc, xh⟩ er v' (.slice ma M.length mc) wq))
            case first =>
              go_wp2_with fail
              go_loopw [11, 12] (fun wv kv wr => ∃ k : Nat, k ≤ M.length ∧ kv = .int .i64 k ∧ wv = .int .i64 (if EE ≠ 0 then EE else if hasL ((M.take k).map LA.aud) (⟨cut70 xn, xc, xh⟩ : LA).aud then 19 else 0) ∧ Hid (RB w rb rb XB M ⟨cut70 xn, xc, xh⟩ er v' (.slice ma M.length mc) wr)) (fun _ kv _ => M.length - (intOf kv).toNat)
              case atStart =>
                refine ⟨0, Nat.zero_le _, rfl, ?_, HB1⟩
                by_cases h0 : EE = 0
                · rw [if_neg (not_not_intro h0), h0]
                  rfl
                · rw [if_pos h0]
              case round =>
                obtain ⟨k, hk, rfl, hwv, HBk⟩ := hrel
                obtain ⟨Cw, hCw⟩ : ∃ Cw : Int, (if EE ≠ 0 then EE else if hasL ((M.take k).map LA.aud) (⟨cut70 xn, xc, xh⟩ : LA).aud then 19 else 0) = Cw := ⟨_, rfl⟩
                rw [hCw] at hwv
                subst hwv
                have HCW := Lib.hid hCw
                clear hCw
                by_cases hlt : k < M.length
                · have b1 : (k : Int) < (M.length : Int) := by omega
                  have b0 : (0 : Int) ≤ (k : Int) := by omega
                  have b3 : (k : Int) < 64 := by have := HBk.out.l; omega
                  by_cases hC0 : Cw = 0
                  · have hEE0 : EE = 0 := by
                      have h := HCW.out
                      by_cases h0 : EE = 0
                      · exact h0
                      · rw [if_pos h0] at h; omega
                    have hno : hasL ((M.take k).map LA.aud) (⟨cut70 xn, xc, xh⟩ : LA).aud = false := by
                      have h := HCW.out
                      rw [if_neg (not_not_intro hEE0), hC0] at h
                      cases hq : hasL ((M.take k).map LA.aud) (⟨cut70 xn, xc, xh⟩ : LA).aud
                      · rfl
                      · rw [hq, if_pos rfl] at h; omega
                    obtain ⟨y, hy⟩ : ∃ y, M[k]? = some y := ⟨_, List.getElem?_eq_getElem hlt⟩
                    have hye : M[k] = y := (List.getElem?_eq_some_iff.1 hy).2
                    have hst := hasL_take (M.map LA.aud) (⟨cut70 xn, xc, xh⟩ : LA).aud k (by rw [List.length_map]; exact hlt)
                    rw [← List.map_take, ← List.map_take, hno, Bool.false_or, List.getElem_map, hye, like_key] at hst
                    obtain ⟨yn, yc, yh⟩ := y
                    simp only at hst
                    obtain ⟨mg, mo, rfl, c0, c1, c2⟩ := (las_own HBk.out.row).at_ k _ hy
                    simp only at c0 c1 c2
                    obtain ⟨x0, x1, x2⟩ := HBk.out.cx
                    have q0 : (Cw == 0) = true := by simp [hC0]
                    have HNX : Hid ((if EE ≠ 0 then EE else if hasL ((M.take (k + 1)).map LA.aud) (⟨cut70 xn, xc, xh⟩ : LA).aud then 19 else 0) = if (decide (yn = cut70 xn) || (decide (yc = xc) && decide (yh = xh))) = true then (19 : Int) else 0) := Lib.hid (by rw [if_neg (not_not_intro hEE0), hst])
                    clear hst hy hye hno hEE0
                    subst hC0
                    by_cases e1 : yn = cut70 xn
                    · have q1 : (yn.toList == (cut70 xn).toList) = true := by rw [eq_strE]; simpa using e1
                      have HST := Lib.hid (HNX.out.trans (by rw [decide_eq_true e1, Bool.true_or]; rfl : _ = (19 : Int)))
                      clear e1 HNX
                      go_upto_region 17 with fail
                      go_region
                      all_goals (go_wp2_with fail)
                      all_goals go_roundw
                      all_goals first
                        | exact ⟨k + 1, by omega, by go_num, by rw [HST.out], Lib.hid (HBk.out.go (grownBy_drew (World.grownBy.refl _ none)))⟩
                        | (simp [intOf]; omega)
                    · have q1 : (yn.toList == (cut70 xn).toList) = false := by rw [eq_strE]; simpa using e1
                      by_cases e2 : yc = xc
                      · have q2 : ((yc.toNat : Int) == (xc.toNat : Int)) = true := by rw [e2]; simp
                        by_cases e3 : yh = xh
                        · have q3 : (yh == xh) = true := by simpa using e3
                          have HST := Lib.hid (HNX.out.trans (by rw [decide_eq_false e1, decide_eq_true e2, decide_eq_true e3]; rfl : _ = (19 : Int)))
                          clear e1 e2 e3 HNX
                          go_upto_region 17 with fail
                          go_region
                          all_goals (go_wp2_with fail)
                          all_goals go_roundw
                          all_goals first
                            | exact ⟨k + 1, by omega, by go_num, by rw [HST.out], Lib.hid (HBk.out.go (grownBy_drew (World.grownBy.refl _ none)))⟩
                            | (simp [intOf]; omega)
                        · have q3 : (yh == xh) = false := by simpa using e3
                          have HST := Lib.hid (HNX.out.trans (by rw [decide_eq_false e1, decide_eq_true e2, decide_eq_false e3]; rfl : _ = (0 : Int)))
                          clear e1 e2 e3 HNX
                          go_upto_region 17 with fail
                          go_region
                          all_goals (go_wp2_with fail)
                          all_goals go_roundw
                          all_goals first
                            | exact ⟨k + 1, by omega, by go_num, by rw [HST.out], Lib.hid (HBk.out.go (grownBy_drew (World.grownBy.refl _ none)))⟩
                            | (simp [intOf]; omega)
                      · have q2 : ((yc.toNat : Int) == (xc.toNat : Int)) = false := by
                          rw [beq_eq_false_iff_ne]
                          exact fun h => e2 (UInt8.toNat_inj.1 (by omega))
                        have HST := Lib.hid (HNX.out.trans (by rw [decide_eq_false e1, decide_eq_false e2]; rfl : _ = (0 : Int)))
                        clear e1 e2 HNX
                        go_upto_region 17 with fail
                        go_region
                        all_goals (go_wp2_with fail)
                        all_goals go_roundw
                        all_goals first
                          | exact ⟨k + 1, by omega, by go_num, by rw [HST.out], Lib.hid (HBk.out.go (grownBy_drew (World.grownBy.refl _ none)))⟩
                          | (simp [intOf]; omega)
                  · have q0 : (Cw == 0) = false := by simp [hC0]
                    have hWC : WR = Cw := by
                      have h := HCW.out
                      rw [HWW.out.2]
                      by_cases h0 : EE = 0
                      · rw [if_neg (not_not_intro h0)] at h ⊢
                        cases hq : hasL ((M.take k).map LA.aud) (⟨cut70 xn, xc, xh⟩ : LA).aud
                        · rw [hq, if_neg (by decide)] at h
                          exact absurd h.symm hC0
                        · rw [hq, if_pos rfl] at h
                          rw [List.map_take] at hq
                          rw [hasL_more _ _ _ hq, if_pos rfl]
                          exact h
                      · rw [if_pos h0] at h ⊢
                        exact h
                    have HWC := Lib.hid hWC
                    clear hWC hC0
                    go_wp2_with fail
                    go_meet
                    case rel => exact ⟨by rw [HWC.out], HBk⟩
                · have hkm : k = M.length := by omega
                  have b1 : ¬ (k : Int) < (M.length : Int) := by omega
                  have hWC : WR = Cw := by
                    have h := HCW.out
                    rw [List.take_of_length_le (by omega)] at h
                    rw [HWW.out.2]
                    exact h
                  have HWC := Lib.hid hWC
                  clear hWC hkm
                  go_wp2_with fail
                  go_meet
                  case rel => exact ⟨by rw [HWC.out], HBk⟩
            case rest =>
              as_aux_lemma =>
              rename World => wq
              obtain ⟨rfl, HBq⟩ := hcut
              clear HB1
              go_upto_region 19 with fail
              obtain ⟨tb2, htb2⟩ : ∃ tb : Bool, (decide (WR = 0) && decide (M.length = 64)) = tb := ⟨_, rfl⟩
              have HTB2 := Lib.hid htb2
              clear htb2
              go_cut [112] (fun v112 wz => v112 = .bool tb2 ∧ Hid (RB w rb rb XB M ⟨cut70 xn, xc, xh⟩ er v' (.slice ma M.length mc) wz))
              case first =>
                have hT := HTB2.out
                by_cases h0 : WR = 0
                · have q1 : (WR == 0) = true := by simp [h0]
                  rw [decide_eq_true h0, Bool.true_and] at hT
                  by_cases h1 : M.length = 64
                  · have q2 : ((M.length : Int) == 64) = true := by simp [h1]
                    rw [decide_eq_true h1] at hT
                    subst hT
                    clear h0 h1
                    go_wp2_with fail
                    go_meet
                    case rel => exact ⟨rfl, HBq⟩
                  · have q2 : ((M.length : Int) == 64) = false := by rw [beq_eq_false_iff_ne]; omega
                    rw [decide_eq_false h1] at hT
                    subst hT
                    clear h0 h1
                    go_wp2_with fail
                    go_meet
                    case rel => exact ⟨rfl, HBq⟩
                · have q1 : (WR == 0) = false := by simp [h0]
                  rw [decide_eq_false h0, Bool.false_and] at hT
                  subst hT
                  clear h0
                  go_wp2_with fail
                  go_meet
                  case rel => exact ⟨rfl, HBq⟩
              case rest =>
               as_aux_lemma =>
               rename World => wz
               obtain ⟨rfl, HBr⟩ := hcut
               clear HBq
               go_upto_if 112 with fail
               go_cut [11] (fun v11 wz => v11 = .int .i64 er ∧ Hid (RB w rb rb XB M ⟨cut70 xn, xc, xh⟩ er v' (.slice ma M.length mc) wz))
               case first =>
                have hT := HTB2.out
                have hE := HWW.out.1
                have hl64 := HBr.out.l
                cases tb2
                · have hEr : er = WR := by
                    rw [hE]
                    by_cases h0 : WR = 0
                    · rw [decide_eq_true h0, Bool.true_and, decide_eq_false_iff_not] at hT
                      rw [if_neg (not_not_intro h0), if_neg (by omega)]
                      exact h0.symm
                    · rw [if_pos h0]
                  clear hE hT
                  go_wp2_with fail
                  go_meet
                  case rel => exact ⟨by rw [hEr], HBr⟩
                · rw [Bool.and_eq_true, decide_eq_true_eq, decide_eq_true_eq] at hT
                  have hEr : er = 9 := by rw [hE, if_neg (not_not_intro hT.1), if_pos (by omega)]
                  clear hE hT
                  go_wp2_with fail
                  go_meet
                  case rel => exact ⟨by rw [hEr], HBr⟩
               case rest =>
                as_aux_lemma =>
                rename World => wq
                obtain ⟨rfl, HBq⟩ := hcut
                clear HBr HTB2
                have e0 : (er != er) = false := by simp
                by_cases her0 : er = 0
                · have hl64 : M.length < 64 := by
                    have h := HWW.out.1
                    rw [her0] at h
                    by_cases h0 : WR = 0
                    · rw [if_neg (not_not_intro h0)] at h
                      by_cases h1 : 64 ≤ M.length
                      · rw [if_pos h1] at h; omega
                      · omega
                    · rw [if_pos h0] at h; exact absurd h.symm h0
                  have hnum : numR M er = (M.length : Int) := by unfold numR; rw [if_pos her0]
                  rw [hnum]
                  subst her0
                  have n1 : ((M.length : Int) != (M.length : Int)) = false := by simp
                  have n2 : ((0 : Int) != 0) = false := rfl
                  clear HWW hnum
                  obtain ⟨x0, x1, x2⟩ := HBq.out.cx
                  obtain ⟨i0, hti, hz0, hz1, hz2⟩ := info_parts infoLA
                  go_upto_region 24 with fail
                  have HL64 := Lib.hid hl64
                  have HCK : Hid (∀ w', wq.grownBy w' none → w'.cell? ⟨XB, 0, none⟩ = some (.string (cut70 xn)) ∧ w'.cell? ⟨XB, 1, none⟩ = some (.int .u8 xc.toNat) ∧ w'.cell? ⟨XB, 2, none⟩ = some (.int .i64 xh)) := Lib.hid (fun w' g => ⟨g.cell x0 (by simp), g.cell x1 (by simp), g.cell x2 (by simp)⟩)
                  obtain ⟨BB, hBB⟩ : ∃ BB, wq.heap.size = BB := ⟨_, rfl⟩
                  have HMR : Hid (∀ w', wq.grownBy w' none → w'.ownsRow rb 77 3 (.slice ma M.length mc) M.length (lasV M)) := Lib.hid (fun w' g => (HBq.out.go g).row)
                  have HBS : Hid (∀ w', wq.grownBy w' none → BB ≤ w'.heap.size) := Lib.hid (fun w' g => by rw [← hBB]; exact g.size)
                  have HL2 : Hid (0 + M.length ≤ maxLen ∧ (0 + M.length) * 32 ≤ 140737488355328 ∧ M.length + 1 ≤ maxLen ∧ (M.length + 1) * 32 ≤ 140737488355328) := Lib.hid ⟨by unfold maxLen; omega, by omega, by unfold maxLen; omega, by omega⟩
                  go_cut [6] (fun v6 w9 => ∃ (ma' : Option Addr) (mc' : Nat), v6 = .slice ma' (M.length + 1 : Nat) mc' ∧ Hid (RA w rb rb (M ++ [⟨cut70 xn, xc, xh⟩]) v' (.slice ma' (M.length + 1 : Nat) mc') w9))
                  case rest =>
                    as_aux_lemma =>
                    rename World => w9
                    obtain ⟨ma', mc', rfl, HF⟩ := hcut
                    obtain ⟨va, vc, hva⟩ := HF.out.ros.form
                    have hrh := HF.out.ros.h
                    rw [hva, List.length_map, List.length_append, List.length_singleton] at hrh
                    have HLN := Lib.hid (rlen_any rb va (M.length + 1) vc w9 hrh)
                    obtain ⟨N1, hN1⟩ : ∃ N1, M.length + 1 = N1 := ⟨_, rfl⟩
                    rw [hN1] at HLN ⊢
                    rw [hN1] at HF
                    have n3 : ((N1 : Int) != (N1 : Int)) = false := by simp
                    clear hva hrh HCK HMR HBS HL2 hBB x0 x1 x2 HBq n1
                    go_wp2_with fail
                    refine HLN.out.mono ?_
                    rintro e w10 ⟨rfl, hw10⟩
                    subst hw10
                    go_wp2_with fail
                    go_roundg (gk - 1)
                    case measure => omega
                    case rel => exact ⟨i + 1, M ++ [⟨cut70 xn, xc, xh⟩], v', _, by omega, by omega, by omega, by go_num, rfl, HF⟩
                  case first =>
                    have gE : wq.grownBy (wq.alloc (.cells #[] 77)).drew none := grownBy_drew (World.grownBy_alloc wq _ none)
                    have gX : wq.grownBy (wq.alloc (.cells #[.string (cut70 xn), .int .u8 xc.toNat, .int .i64 xh] 77)).drew none := grownBy_drew (World.grownBy_alloc wq _ none)
                    have gEX : wq.grownBy ((wq.alloc (.cells #[] 77)).alloc (.cells #[.string (cut70 xn), .int .u8 xc.toNat, .int .i64 xh] 77)).drew none := grownBy_drew (grownBy_alloc' (World.grownBy_alloc wq _ none) _)
                    have gXE : wq.grownBy ((wq.alloc (.cells #[.string (cut70 xn), .int .u8 xc.toNat, .int .i64 xh] 77)).alloc (.cells #[] 77)).drew none := grownBy_drew (grownBy_alloc' (World.grownBy_alloc wq _ none) _)
                    have hE1 : (wq.alloc (.cells #[] 77)).heap.size = BB + 1 := by rw [World.size_alloc, hBB]
                    have hX1 : (wq.alloc (.cells #[.string (cut70 xn), .int .u8 xc.toNat, .int .i64 xh] 77)).heap.size = BB + 1 := by rw [World.size_alloc, hBB]
                    have eE0 : (wq.alloc (.cells #[] 77)).ownsRow BB 77 3 (.slice (some ⟨BB, 0, none⟩) 0 0) 0 [] := by
                      have := own_emptyL wq BB (by omega)
                      rw [hBB] at this
                      exact this
                    have eE : (wq.alloc (.cells #[] 77)).drew.ownsRow BB 77 3 (.slice (some ⟨BB, 0, none⟩) 0 0) 0 [] := eE0
                    have eEX : ((wq.alloc (.cells #[] 77)).alloc (.cells #[.string (cut70 xn), .int .u8 xc.toNat, .int .i64 xh] 77)).drew.ownsRow BB 77 3 (.slice (some ⟨BB, 0, none⟩) 0 0) 0 [] := own_keepR eE0 (grownBy_drew (World.grownBy_alloc (wq.alloc (.cells #[] 77)) (.cells #[.string (cut70 xn), .int .u8 xc.toNat, .int .i64 xh] 77) none)) (fun _ _ e => by cases e)
                    have eXE : ((wq.alloc (.cells #[.string (cut70 xn), .int .u8 xc.toNat, .int .i64 xh] 77)).alloc (.cells #[] 77)).drew.ownsRow BB 77 3 (.slice (some ⟨BB + 1, 0, none⟩) 0 0) 0 [] := by
                      have := own_emptyL (wq.alloc (.cells #[.string (cut70 xn), .int .u8 xc.toNat, .int .i64 xh] 77)) BB (by omega)
                      rw [hX1] at this
                      exact this
                    have xEX : ((wq.alloc (.cells #[] 77)).alloc (.cells #[.string (cut70 xn), .int .u8 xc.toNat, .int .i64 xh] 77)).drew.heap[BB + 1]? = some (.cells #[.string (cut70 xn), .int .u8 xc.toNat, .int .i64 xh] 77 (0, 0)) := heap_alloc_at _ _ _ hE1
                    have xXE : ((wq.alloc (.cells #[.string (cut70 xn), .int .u8 xc.toNat, .int .i64 xh] 77)).alloc (.cells #[] 77)).drew.heap[BB]? = some (.cells #[.string (cut70 xn), .int .u8 xc.toNat, .int .i64 xh] 77 (0, 0)) := (World.grownBy_alloc (wq.alloc (.cells #[.string (cut70 xn), .int .u8 xc.toNat, .int .i64 xh] 77)) (.cells #[] 77) none).heap (heap_alloc_at _ _ _ hBB) (by simp)
                    refine wp_region_held_drew (S := (fun w' => w'.cell? ⟨XB, 0, none⟩ = some (.string (cut70 xn)) ∧ w'.cell? ⟨XB, 1, none⟩ = some (.int .u8 xc.toNat) ∧ w'.cell? ⟨XB, 2, none⟩ = some (.int .i64 xh))) (by kernel_rfl) ?hsra (fun hHeld => ?rgra)
                    case hsra => exact HCK.out _ (grownBy_drew (World.grownBy.refl wq none))
                    case rgra =>
                      refine wpAnyH_take (i := 1) (v := ?vra_0) rfl (by kernel_rfl) (by kernel_rfl) (by kernel_rfl) (fun _ _ _ h => h) (Or.inl ⟨by kernel_rfl, ?hra_0⟩) (by assumption) ?rra_0
                      case hra_0 => (intro w0 hSw; (try dsimp only at hSw); go_simp; (try with_reducible rfl))
                      try simp only [Act.put, List.setIfInBounds_toArray, List.set_cons_zero, List.set_cons_succ]
                      refine wpAnyH_take (i := 3) (v := ?vra_1) rfl (by kernel_rfl) (by kernel_rfl) (by kernel_rfl) (fun _ _ _ h => h) (Or.inl ⟨by kernel_rfl, ?hra_1⟩) (by assumption) ?rra_1
                      case hra_1 => (intro w0 hSw; (try dsimp only at hSw); go_simp; (try with_reducible rfl))
                      try simp only [Act.put, List.setIfInBounds_toArray, List.set_cons_zero, List.set_cons_succ]
                      refine wpAnyH_ready (rs := [0, 4]) (by kernel_rfl) (by simp) ?_
                      refine AllReadyH.cons rfl (fun K hK => ?ara_3) ?bra_3
                      case ara_3 =>
                        (go_simp; have ck := HCK.out _ gE)
                        refine hK.out _ _ ?sra_3 (fun hHeld => ?tra_3)
                        case sra_3 => exact ck
                        case tra_3 =>
                          clear hK K
                          try simp only [Act.put, List.setIfInBounds_toArray, List.set_cons_zero, List.set_cons_succ]
                          refine wpAnyH_ready (rs := [2, 4]) (by kernel_rfl) (by simp) ?_
                          refine AllReadyH.cons rfl (fun K hK => ?ara_4) ?bra_4
                          case ara_4 =>
                            (refine step_append_row _ rfl (.tmp 136) (.tmp 137) 73 rfl BB 77 i0 (.agg #[.string ⟨#[]⟩, .int .u8 0, .int .i64 0]) 3 32 Tryd.underlying73 hti hz0 hz1 hz2 rfl (by decide) (.slice (some ⟨BB, 0, none⟩) 0 0) 0 [] rfl eE rb M.length (.slice ma M.length mc) (lasV M) rfl (HMR.out _ gE) (lasV_onecell M) HL2.out.1 HL2.out.2.1 (HBS.out _ gE) ?_; intro v7 w7 ho7 hg7 hv7; (try simp only [Nat.zero_add, List.nil_append] at ho7); have g7 : wq.grownBy w7 none := grown_row gE hg7 (fun y q => by have h1 : BB = y := Option.some.inj (show some (BB) = some y from q); omega); have ck := HCK.out _ g7)
                            refine hK.out _ _ ?sra_4 (fun hHeld => ?tra_4)
                            case sra_4 => exact ck
                            case tra_4 =>
                              clear hK K
                              try simp only [Act.put, List.setIfInBounds_toArray, List.set_cons_zero, List.set_cons_succ]
                              refine wpAnyH_ready (rs := [4]) (by kernel_rfl) (by simp) ?_
                              refine AllReadyH.cons rfl (fun K hK => ?ara_5) ?bra_5
                              case ara_5 =>
                                (go_simp; have g8 := grownBy_trans g7 (World.grownBy_alloc w7 (.cells #[.string (cut70 xn), .int .u8 xc.toNat, .int .i64 xh] 77) none); have ck := HCK.out _ g8)
                                refine hK.out _ _ ?sra_5 (fun hHeld => ?tra_5)
                                case sra_5 => exact ck
                                case tra_5 =>
                                  clear hK K
                                  try simp only [Act.put, List.setIfInBounds_toArray, List.set_cons_zero, List.set_cons_succ]
                                  refine wpAnyH_ready (rs := [5]) (by kernel_rfl) (by simp) ?_
                                  refine AllReadyH.cons rfl (fun K hK => ?ara_6) ?bra_6
                                  case ara_6 =>
                                    (refine step_append_lies _ rfl (.tmp 138) (.tmp 140) 73 rfl BB 77 i0 (.agg #[.string ⟨#[]⟩, .int .u8 0, .int .i64 0]) 3 32 Tryd.underlying73 hti hz0 hz1 hz2 rfl (by decide) v7 M.length (lasV M) rfl (own_keepR ho7 (World.grownBy_alloc w7 (.cells #[.string (cut70 xn), .int .u8 xc.toNat, .int .i64 xh] 77) none) (fun _ _ e => by cases e)) ⟨w7.heap.size, 0, none⟩ 1 1 [.string (cut70 xn), .int .u8 xc.toNat, .int .i64 xh] rfl rfl (World.news_of_block (heap_alloc_at w7 (.cells #[.string (cut70 xn), .int .u8 xc.toNat, .int .i64 xh] 77) _ rfl)) (lasV_onecell [⟨cut70 xn, xc, xh⟩]) Nat.zero_lt_one HL2.out.2.2.1 HL2.out.2.2.2 (HBS.out _ g8) _ rfl ?_; intro g9 c9 w9 ho9 hg9 hor9 hlt9; have g99 : wq.grownBy w9 none := grown_row g8 hg9 (fun y q => by have := (ho7.lt y q).1; omega); have ck := HCK.out _ g99; have HF := Lib.hid (ra_next HBq.out HL64.out hBB g99 ho9))
                                    refine hK.out _ _ ?sra_6 (fun hHeld => ?tra_6)
                                    case sra_6 => exact ck
                                    case tra_6 =>
                                      clear hK K
                                      try simp only [Act.put, List.setIfInBounds_toArray, List.set_cons_zero, List.set_cons_succ]
                                      refine wpAnyH_ready (rs := [6]) (by kernel_rfl) (by simp) ?_
                                      refine AllReadyH.cons rfl (fun K hK => ?ara_7) ?bra_7
                                      case ara_7 =>
                                        go_simp
                                        refine hK.out _ _ ?sra_7 (fun hHeld => ?tra_7)
                                        case sra_7 => exact ck
                                        case tra_7 =>
                                          clear hK K
                                          try simp only [Act.put, List.setIfInBounds_toArray, List.set_cons_zero, List.set_cons_succ]
                                          refine wpAnyH_done (by kernel_rfl) ?_ _
                                          try dsimp only
                                          (go_wp2_with fail; go_meet; case rel => exact ⟨_, _, rfl, HF⟩)
                                      case bra_7 =>
                                        exact AllReadyH.nil
                                  case bra_6 =>
                                    exact AllReadyH.nil
                              case bra_5 =>
                                exact AllReadyH.nil
                          case bra_4 =>
                            refine AllReadyH.cons rfl (fun K hK => ?ara_8) ?bra_8
                            case ara_8 =>
                              (go_simp; have ck := HCK.out _ gEX)
                              refine hK.out _ _ ?sra_8 (fun hHeld => ?tra_8)
                              case sra_8 => exact ck
                              case tra_8 =>
                                clear hK K
                                try simp only [Act.put, List.setIfInBounds_toArray, List.set_cons_zero, List.set_cons_succ]
                                refine wpAnyH_ready (rs := [2]) (by kernel_rfl) (by simp) ?_
                                refine AllReadyH.cons rfl (fun K hK => ?ara_9) ?bra_9
                                case ara_9 =>
                                  (refine step_append_row _ rfl (.tmp 136) (.tmp 137) 73 rfl BB 77 i0 (.agg #[.string ⟨#[]⟩, .int .u8 0, .int .i64 0]) 3 32 Tryd.underlying73 hti hz0 hz1 hz2 rfl (by decide) (.slice (some ⟨BB, 0, none⟩) 0 0) 0 [] rfl eEX rb M.length (.slice ma M.length mc) (lasV M) rfl (HMR.out _ gEX) (lasV_onecell M) HL2.out.1 HL2.out.2.1 (HBS.out _ gEX) ?_; intro v7 w7 ho7 hg7 hv7; (try simp only [Nat.zero_add, List.nil_append] at ho7); have g7 : wq.grownBy w7 none := grown_row gEX hg7 (fun y q => by have h1 : BB = y := Option.some.inj (show some (BB) = some y from q); omega); have ck := HCK.out _ g7)
                                  refine hK.out _ _ ?sra_9 (fun hHeld => ?tra_9)
                                  case sra_9 => exact ck
                                  case tra_9 =>
                                    clear hK K
                                    try simp only [Act.put, List.setIfInBounds_toArray, List.set_cons_zero, List.set_cons_succ]
                                    refine wpAnyH_ready (rs := [5]) (by kernel_rfl) (by simp) ?_
                                    refine AllReadyH.cons rfl (fun K hK => ?ara_10) ?bra_10
                                    case ara_10 =>
                                      (refine step_append_lies _ rfl (.tmp 138) (.tmp 140) 73 rfl BB 77 i0 (.agg #[.string ⟨#[]⟩, .int .u8 0, .int .i64 0]) 3 32 Tryd.underlying73 hti hz0 hz1 hz2 rfl (by decide) v7 M.length (lasV M) rfl ho7 ⟨BB + 1, 0, none⟩ 1 1 [.string (cut70 xn), .int .u8 xc.toNat, .int .i64 xh] rfl rfl (World.news_of_block (hg7.heap xEX (fun q => absurd (Option.some.inj (show some BB = some (BB + 1) from q)) (by omega)))) (lasV_onecell [⟨cut70 xn, xc, xh⟩]) Nat.zero_lt_one HL2.out.2.2.1 HL2.out.2.2.2 (HBS.out _ g7) _ rfl ?_; intro g9 c9 w9 ho9 hg9 hor9 hlt9; have g99 : wq.grownBy w9 none := grown_row g7 hg9 (fun y q => by have := (ho7.lt y q).1; omega); have ck := HCK.out _ g99; have HF := Lib.hid (ra_next HBq.out HL64.out hBB g99 ho9))
                                      refine hK.out _ _ ?sra_10 (fun hHeld => ?tra_10)
                                      case sra_10 => exact ck
                                      case tra_10 =>
                                        clear hK K
                                        try simp only [Act.put, List.setIfInBounds_toArray, List.set_cons_zero, List.set_cons_succ]
                                        refine wpAnyH_ready (rs := [6]) (by kernel_rfl) (by simp) ?_
                                        refine AllReadyH.cons rfl (fun K hK => ?ara_11) ?bra_11
                                        case ara_11 =>
                                          go_simp
                                          refine hK.out _ _ ?sra_11 (fun hHeld => ?tra_11)
                                          case sra_11 => exact ck
                                          case tra_11 =>
                                            clear hK K
                                            try simp only [Act.put, List.setIfInBounds_toArray, List.set_cons_zero, List.set_cons_succ]
                                            refine wpAnyH_done (by kernel_rfl) ?_ _
                                            try dsimp only
                                            (go_wp2_with fail; go_meet; case rel => exact ⟨_, _, rfl, HF⟩)
                                        case bra_11 =>
                                          exact AllReadyH.nil
                                    case bra_10 =>
                                      exact AllReadyH.nil
                                case bra_9 =>
                                  exact AllReadyH.nil
                            case bra_8 =>
                              exact AllReadyH.nil
                      case bra_3 =>
                        refine AllReadyH.cons rfl (fun K hK => ?ara_12) ?bra_12
                        case ara_12 =>
                          (go_simp; have ck := HCK.out _ gX)
                          refine hK.out _ _ ?sra_12 (fun hHeld => ?tra_12)
                          case sra_12 => exact ck
                          case tra_12 =>
                            clear hK K
                            try simp only [Act.put, List.setIfInBounds_toArray, List.set_cons_zero, List.set_cons_succ]
                            refine wpAnyH_ready (rs := [0]) (by kernel_rfl) (by simp) ?_
                            refine AllReadyH.cons rfl (fun K hK => ?ara_13) ?bra_13
                            case ara_13 =>
                              (go_simp; have ck := HCK.out _ gXE)
                              refine hK.out _ _ ?sra_13 (fun hHeld => ?tra_13)
                              case sra_13 => exact ck
                              case tra_13 =>
                                clear hK K
                                try simp only [Act.put, List.setIfInBounds_toArray, List.set_cons_zero, List.set_cons_succ]
                                refine wpAnyH_ready (rs := [2]) (by kernel_rfl) (by simp) ?_
                                refine AllReadyH.cons rfl (fun K hK => ?ara_14) ?bra_14
                                case ara_14 =>
                                  (refine step_append_row _ rfl (.tmp 136) (.tmp 137) 73 rfl BB 77 i0 (.agg #[.string ⟨#[]⟩, .int .u8 0, .int .i64 0]) 3 32 Tryd.underlying73 hti hz0 hz1 hz2 rfl (by decide) (.slice (some ⟨BB + 1, 0, none⟩) 0 0) 0 [] rfl eXE rb M.length (.slice ma M.length mc) (lasV M) rfl (HMR.out _ gXE) (lasV_onecell M) HL2.out.1 HL2.out.2.1 (HBS.out _ gXE) ?_; intro v7 w7 ho7 hg7 hv7; (try simp only [Nat.zero_add, List.nil_append] at ho7); have g7 : wq.grownBy w7 none := grown_row gXE hg7 (fun y q => by have h1 : BB + 1 = y := Option.some.inj (show some (BB + 1) = some y from q); omega); have ck := HCK.out _ g7)
                                  refine hK.out _ _ ?sra_14 (fun hHeld => ?tra_14)
                                  case sra_14 => exact ck
                                  case tra_14 =>
                                    clear hK K
                                    try simp only [Act.put, List.setIfInBounds_toArray, List.set_cons_zero, List.set_cons_succ]
                                    refine wpAnyH_ready (rs := [5]) (by kernel_rfl) (by simp) ?_
                                    refine AllReadyH.cons rfl (fun K hK => ?ara_15) ?bra_15
                                    case ara_15 =>
                                      (refine step_append_lies _ rfl (.tmp 138) (.tmp 140) 73 rfl BB 77 i0 (.agg #[.string ⟨#[]⟩, .int .u8 0, .int .i64 0]) 3 32 Tryd.underlying73 hti hz0 hz1 hz2 rfl (by decide) v7 M.length (lasV M) rfl ho7 ⟨BB, 0, none⟩ 1 1 [.string (cut70 xn), .int .u8 xc.toNat, .int .i64 xh] rfl rfl (World.news_of_block (hg7.heap xXE (fun q => absurd (Option.some.inj (show some (BB + 1) = some BB from q)) (by omega)))) (lasV_onecell [⟨cut70 xn, xc, xh⟩]) Nat.zero_lt_one HL2.out.2.2.1 HL2.out.2.2.2 (HBS.out _ g7) _ rfl ?_; intro g9 c9 w9 ho9 hg9 hor9 hlt9; have g99 : wq.grownBy w9 none := grown_row g7 hg9 (fun y q => by have := (ho7.lt y q).1; omega); have ck := HCK.out _ g99; have HF := Lib.hid (ra_next HBq.out HL64.out hBB g99 ho9))
                                      refine hK.out _ _ ?sra_15 (fun hHeld => ?tra_15)
                                      case sra_15 => exact ck
                                      case tra_15 =>
                                        clear hK K
                                        try simp only [Act.put, List.setIfInBounds_toArray, List.set_cons_zero, List.set_cons_succ]
                                        refine wpAnyH_ready (rs := [6]) (by kernel_rfl) (by simp) ?_
                                        refine AllReadyH.cons rfl (fun K hK => ?ara_16) ?bra_16
                                        case ara_16 =>
                                          go_simp
                                          refine hK.out _ _ ?sra_16 (fun hHeld => ?tra_16)
                                          case sra_16 => exact ck
                                          case tra_16 =>
                                            clear hK K
                                            try simp only [Act.put, List.setIfInBounds_toArray, List.set_cons_zero, List.set_cons_succ]
                                            refine wpAnyH_done (by kernel_rfl) ?_ _
                                            try dsimp only
                                            (go_wp2_with fail; go_meet; case rel => exact ⟨_, _, rfl, HF⟩)
                                        case bra_16 =>
                                          exact AllReadyH.nil
                                    case bra_15 =>
                                      exact AllReadyH.nil
                                case bra_14 =>
                                  exact AllReadyH.nil
                            case bra_13 =>
                              exact AllReadyH.nil
                        case bra_12 =>
                          exact AllReadyH.nil

                · have hnum : numR M er = 0 := by unfold numR; rw [if_neg her0]
                  rw [hnum]
                  have n1 : (er == 0) = false := by simp [her0]
                  have n2 : (er != 0) = true := by simp [her0]
                  have n3 : ((0 : Int) != 0) = false := rfl
                  obtain ⟨va, vc, hva⟩ := HBq.out.ros.form
                  have hrh := HBq.out.ros.h
                  have hR9 : Hid (RA w rb rb M v' (.slice ma M.length mc) wq) := Lib.hid ⟨by have := HBq.out.ros; rwa [if_neg her0] at this, HBq.out.row, HBq.out.ne, HBq.out.gr, HBq.out.l, HBq.out.l0⟩
                  rw [hva, if_neg her0, List.length_map] at hrh
                  have HLN := Lib.hid (rlen_any rb va M.length vc wq hrh)
                  have n4 : ((M.length : Int) != (M.length : Int)) = false := by simp
                  clear hva hrh HWW hnum her0 HBq
                  go_wp2_with fail
                  refine HLN.out.mono ?_
                  rintro e w10 ⟨rfl, hw10⟩
                  subst hw10
                  go_wp2_with fail
                  go_roundg (gk - 1)
                  case measure => omega
                  case rel => exact ⟨i + 1, M, v', _, by omega, by omega, by omega, by go_num, rfl, hR9⟩
        case first =>
          have ck0 : W1.cell? ⟨XB, 0, none⟩ = some (.string (cut70 xn)) ∧ W1.cell? ⟨XB, 1, none⟩ = some (.int .u8 xc.toNat) ∧ W1.cell? ⟨XB, 2, none⟩ = some (.int .i64 xh) := by
            refine ⟨?_, ?_, ?_⟩ <;> rw [cell_of hb1] <;> rfl
          have HCK : Hid (∀ w', W1.grownBy w' none → w'.cell? ⟨XB, 0, none⟩ = some (.string (cut70 xn)) ∧ w'.cell? ⟨XB, 1, none⟩ = some (.int .u8 xc.toNat) ∧ w'.cell? ⟨XB, 2, none⟩ = some (.int .i64 xh)) := Lib.hid (fun w' g => ⟨g.cell ck0.1 (by simp), g.cell ck0.2.1 (by simp), g.cell ck0.2.2 (by simp)⟩)
          have gd : W1.grownBy W1.drew none := grownBy_drew (World.grownBy.refl W1 none)
          have ck := HCK.out _ gd
          by_cases h0 : er = 0
          · have HA : Hid (∀ w', W1.grownBy w' none → Calls Tryd.prog 30 #[.pointer (some ⟨rb, 0, none⟩), .agg #[.string (cut70 xn), .string (keyO xc), .string noughts20, .int .i64 xh]] w' fun e w'' => e = .returned (.tuple #[.int .i64 M.length, .int .i64 0]) ∧ ∃ v' w1, RosAt rb rb ((M ++ [X]).map LA.aud) v' w'' ∧ w'.grownBy w1 v.ownBlock ∧ w1.grownBy w'' (some rb) ∧ (v'.ownBlock = v.ownBlock ∨ ∀ y, v'.ownBlock = some y → w'.heap.size ≤ y)) := Lib.hid (fun w' g => by
              have h := radd_fine X.aud (aud_small (by omega)) rb rb (M.map LA.aud) v (by rw [her, h0]) w' (HN.out.grown (grownBy_trans HR1.out.gr g)) (HR1.out.ros.go g)
              rw [List.length_map, show M.map LA.aud ++ [X.aud] = (M ++ [X]).map LA.aud from by simp] at h
              rw [hX] at h ⊢
              exact h)
            have HXX : Hid (∀ (w2 w3a w3 : World), W1.grownBy w2 none → w2.grownBy w3a v.ownBlock → w3a.grownBy w3 (some rb) → w3.cell? ⟨XB, 0, none⟩ = some (.string (cut70 xn)) ∧ w3.cell? ⟨XB, 1, none⟩ = some (.int .u8 xc.toNat) ∧ w3.cell? ⟨XB, 2, none⟩ = some (.int .i64 xh)) := Lib.hid (fun w2 w3a w3 k2 g g' => by
              have h1 : v.ownBlock ≠ some XB := fun q => by have := hvX XB q; omega
              have h2 : some rb ≠ some XB := fun q => by have := Option.some.inj q; omega
              have c := HCK.out _ k2
              exact ⟨g'.cell (g.cell c.1 (fun e => h1 e.symm)) (fun e => h2 e.symm), g'.cell (g.cell c.2.1 (fun e => h1 e.symm)) (fun e => h2 e.symm), g'.cell (g.cell c.2.2 (fun e => h1 e.symm)) (fun e => h2 e.symm)⟩)
            go_region_held3 (fun w' => w'.cell? ⟨XB, 0, none⟩ = some (.string (cut70 xn)) ∧ w'.cell? ⟨XB, 1, none⟩ = some (.int .u8 xc.toNat) ∧ w'.cell? ⟨XB, 2, none⟩ = some (.int .i64 xh)) (first | exact ck)
              (first
              | (go_at_call 31; (with_reducible refine (HK.out _).mono ?_); rintro e w3 ⟨rfl, g3⟩; have k2 := grownBy_trans gd g3; have ck := HCK.out _ k2)
              | (go_at_call 30; (with_reducible refine (HA.out _ k2).mono ?_); rintro e w4 ⟨rfl, v4, w4a, R4, g4, g4', hv4⟩; have ck := HXX.out _ _ _ k2 g4 g4'))
            have HB4 : Hid (RB w rb rb XB M X er v4 (.slice ma M.length mc) w4) := Lib.hid (by
              have hrow := own_keepR (own_keepR (HR1.out.go k2).row g4 (fun y q e => (HR1.out.ne y q).2 e)) g4' (fun y q e => (HR1.out.ne y q).1 (Option.some.inj e).symm)
              refine ⟨by rw [if_pos h0]; exact R4, hrow, fun y q => ⟨(HR1.out.ne y q).1, fun e => ?_⟩, ?_, ?_, HR1.out.l, HR1.out.l0⟩
              · rcases hv4 with h | h
                · exact (HR1.out.ne y q).2 (h ▸ e)
                · have h1 := h y e
                  have h2 := hmX y q
                  have h3 := k2.size
                  have h4 : XB < W1.heap.size := (Array.getElem?_eq_some_iff.1 hb1).1
                  omega
              · exact g4'.heap (g4.heap (k2.heap hb1' (by simp)) (fun q => by have := hvX XB q; omega)) (fun q => by have := Option.some.inj q; omega)
              · exact grown_row (grown_row (grownBy_trans HR1.out.gr k2) g4 (fun y q => by have h1 := (HR1.out.ros.o.lt y q).1; have := HR1.out.l0; omega)) g4' (fun y q => by cases q; exact HR1.out.l0))
            clear ck g3 g4 g4' hv4 R4 k2 gd
            subst h0
            go_wp2_with fail
            go_meet
            case rel => exact ⟨by unfold numR; rw [if_pos rfl], rfl, v4, HB4⟩
          · have HA : Hid (∀ w', W1.grownBy w' none → Calls Tryd.prog 30 #[.pointer (some ⟨rb, 0, none⟩), .agg #[.string (cut70 xn), .string (keyO xc), .string noughts20, .int .i64 xh]] w' fun e w'' => e = .returned (.tuple #[.int .i64 0, .int .i64 er]) ∧ w'.grownBy w'' none) := Lib.hid (fun w' g => by
              have h := radd_no X.aud (aud_small (by omega)) rb rb (M.map LA.aud) v (by rw [List.length_map]; have := HR1.out.l; omega) er her h0 w' (HN.out.grown (grownBy_trans HR1.out.gr g)) (HR1.out.ros.go g)
              rw [hX] at h
              exact h)
            go_region_held3 (fun w' => w'.cell? ⟨XB, 0, none⟩ = some (.string (cut70 xn)) ∧ w'.cell? ⟨XB, 1, none⟩ = some (.int .u8 xc.toNat) ∧ w'.cell? ⟨XB, 2, none⟩ = some (.int .i64 xh)) (first | exact ck)
              (first
              | (go_at_call 31; (with_reducible refine (HK.out _).mono ?_); rintro e w3 ⟨rfl, g3⟩; have k2 := grownBy_trans gd g3; have ck := HCK.out _ k2)
              | (go_at_call 30; (with_reducible refine (HA.out _ k2).mono ?_); rintro e w4 ⟨rfl, g4⟩; have k4 := grownBy_trans k2 g4; have ck := HCK.out _ k4))
            have HB4 : Hid (RB w rb rb XB M X er v (.slice ma M.length mc) w4) := Lib.hid (by
              have hR4 := HR1.out.go k4
              exact ⟨by rw [if_neg h0]; exact hR4.ros, hR4.row, hR4.ne, k4.heap hb1' (by simp), hR4.gr, hR4.l, hR4.l0⟩)
            clear ck g3 g4 k2 k4 gd
            go_wp2_with fail
            go_meet
            case rel => exact ⟨by unfold numR; rw [if_neg h0], rfl, v, HB4⟩
      · have b1 : (i : Int) < (ln : Int) := by omega
        have b2 : ¬ (i : Int) < 80 := by omega
        have HAT := Lib.hid (rat_any rb rb (M.map LA.aud) v at_ wr (by rw [List.length_map]; have := HR.out.l; omega) HR.out.ros)
        go_wp2_with fail
        refine HAT.out.mono ?_
        rintro e w5 ⟨hbad, hgood, g5⟩
        have HR5 := Lib.hid (HR.out.go g5)
        have hl64 := HR.out.l
        clear HAT g5
        by_cases k1 : at_ < 0
        · obtain rfl := hbad (Or.inl k1)
          have gz := World.grownBy_alloc w5 (.cells #[.string ⟨#[]⟩, .string ⟨#[]⟩, .string ⟨#[]⟩, .int .i64 0] 82) none
          have HGZ := Lib.hid (grownBy_trans HR5.out.gr gz)
          unfold audZ
          clear gz hbad hgood HR
          go_wp2_with fail
          go_ret
          exact ⟨rfl, HGZ.out⟩
        · by_cases k2 : (M.length : Int) ≤ at_
          · obtain rfl := hbad (Or.inr (by rw [List.length_map]; exact k2))
            have gz := World.grownBy_alloc w5 (.cells #[.string ⟨#[]⟩, .string ⟨#[]⟩, .string ⟨#[]⟩, .int .i64 0] 82) none
            have HGZ := Lib.hid (grownBy_trans HR5.out.gr gz)
            unfold audZ
            clear gz hbad hgood HR
            go_wp2_with fail
            go_ret
            exact ⟨rfl, HGZ.out⟩
          · obtain ⟨k, hk⟩ := Int.eq_ofNat_of_zero_le (show 0 ≤ at_ by omega)
            have hk : at_ = (k : Int) := hk
            subst hk
            have hkl : k < M.length := by omega
            obtain ⟨y, hy⟩ : ∃ y, M[k]? = some y := ⟨_, List.getElem?_eq_getElem hkl⟩
            have hye : M[k] = y := (List.getElem?_eq_some_iff.1 hy).2
            obtain rfl := hgood k rfl (by rw [List.length_map]; exact hkl)
            rw [List.getElem_map, hye]
            obtain ⟨yn, yc, yh⟩ := y
            obtain ⟨mg, mo, hma, c0, c1, c2⟩ := (las_own HR5.out.row).at_ k _ hy
            subst hma
            simp only at c0 c1 c2
            unfold AudS.val AudS.cells LA.aud
            obtain ⟨AB, hAB⟩ : ∃ AB, w5.heap.size = AB := ⟨_, rfl⟩
            have gz := World.grownBy_alloc w5 (.cells #[.string yn, .string (keyO yc), .string noughts20, .int .i64 yh] 82) none
            have hbz := heap_alloc_at w5 (.cells #[.string yn, .string (keyO yc), .string noughts20, .int .i64 yh] 82) AB hAB
            obtain ⟨W6, hW6⟩ : ∃ W6, w5.alloc (.cells #[.string yn, .string (keyO yc), .string noughts20, .int .i64 yh] 82) = W6 := ⟨_, rfl⟩
            rw [hW6] at gz hbz
            have c0 := gz.cell c0 (by simp)
            have c1 := gz.cell c1 (by simp)
            have c2 := gz.cell c2 (by simp)
            obtain ⟨y0, y1, y2, y3⟩ := cells4 hbz
            have HGZ := Lib.hid (grownBy_trans HR5.out.gr gz)
            have HK := Lib.hid (fun w' => key20_any yc yh w')
            have HCK : Hid (∀ w', W6.grownBy w' none → (w'.cell? ⟨AB, 0, none⟩ = some (.string yn) ∧ w'.cell? ⟨AB, 1, none⟩ = some (.string (keyO yc)) ∧ w'.cell? ⟨AB, 2, none⟩ = some (.string noughts20) ∧ w'.cell? ⟨AB, 3, none⟩ = some (.int .i64 yh)) ∧ w'.cell? ⟨mg, mo + k * 3, none⟩ = some (.string yn) ∧ w'.cell? ⟨mg, mo + k * 3 + 1, none⟩ = some (.int .u8 yc.toNat) ∧ w'.cell? ⟨mg, mo + k * 3 + 2, none⟩ = some (.int .i64 yh)) := Lib.hid (fun w' g => ⟨⟨g.cell y0 (by simp), g.cell y1 (by simp), g.cell y2 (by simp), g.cell y3 (by simp)⟩, g.cell c0 (by simp), g.cell c1 (by simp), g.cell c2 (by simp)⟩)
            have q1 : (yn.toList == yn.toList) = true := by simp
            have q2 : ((keyO yc).toList == (keyO yc).toList) = true := by simp
            have q3 : (noughts20.toList == noughts20.toList) = true := by simp
            have q4 : (yh == yh) = true := by simp
            have b0 : (0 : Int) ≤ (k : Int) := by omega
            have b1 : (k : Int) < (M.length : Int) := by omega
            have HW6 := Lib.hid (And.intro hW6 hAB)
            clear hbad hgood HR gz hbz hy hye hW6 hAB y0 y1 y2 y3 c0 c1 c2 HR5
            go_upto_region 30 with fail
            rw [HW6.out.1, HW6.out.2]
            have gd : W6.grownBy W6.drew none := grownBy_drew (World.grownBy.refl W6 none)
            have ck := HCK.out _ gd
            generalize keyO yc = KO at HK ck HCK q2
            go_region_held3 (fun w' => (w'.cell? ⟨AB, 0, none⟩ = some (.string yn) ∧ w'.cell? ⟨AB, 1, none⟩ = some (.string KO) ∧ w'.cell? ⟨AB, 2, none⟩ = some (.string noughts20) ∧ w'.cell? ⟨AB, 3, none⟩ = some (.int .i64 yh)) ∧ w'.cell? ⟨mg, mo + k * 3, none⟩ = some (.string yn) ∧ w'.cell? ⟨mg, mo + k * 3 + 1, none⟩ = some (.int .u8 yc.toNat) ∧ w'.cell? ⟨mg, mo + k * 3 + 2, none⟩ = some (.int .i64 yh)) (first | exact ck)
              (first
              | (go_at_call 31; (with_reducible refine (HK.out _).mono ?_); rintro e w7 ⟨rfl, g7⟩; have k7 := grownBy_trans gd g7; have ck := HCK.out _ k7))
            have HG7 := Lib.hid (grownBy_trans HGZ.out k7)
            clear ck gd g7 k7
            go_wp2_with fail
            go_ret
            exact ⟨rfl, HG7.out⟩
    · have b1 : ¬ (i : Int) < (ln : Int) := by omega
      have HAT := Lib.hid (rat_any rb rb (M.map LA.aud) v at_ wr (by rw [List.length_map]; have := HR.out.l; omega) HR.out.ros)
      go_wp2_with fail
      refine HAT.out.mono ?_
      rintro e w5 ⟨hbad, hgood, g5⟩
      have HR5 := Lib.hid (HR.out.go g5)
      have hl64 := HR.out.l
      clear HAT g5
      by_cases k1 : at_ < 0
      · obtain rfl := hbad (Or.inl k1)
        have gz := World.grownBy_alloc w5 (.cells #[.string ⟨#[]⟩, .string ⟨#[]⟩, .string ⟨#[]⟩, .int .i64 0] 82) none
        have HGZ := Lib.hid (grownBy_trans HR5.out.gr gz)
        unfold audZ
        clear gz hbad hgood HR
        go_wp2_with fail
        go_ret
        exact ⟨rfl, HGZ.out⟩
      · by_cases k2 : (M.length : Int) ≤ at_
        · obtain rfl := hbad (Or.inr (by rw [List.length_map]; exact k2))
          have gz := World.grownBy_alloc w5 (.cells #[.string ⟨#[]⟩, .string ⟨#[]⟩, .string ⟨#[]⟩, .int .i64 0] 82) none
          have HGZ := Lib.hid (grownBy_trans HR5.out.gr gz)
          unfold audZ
          clear gz hbad hgood HR
          go_wp2_with fail
          go_ret
          exact ⟨rfl, HGZ.out⟩
        · obtain ⟨k, hk⟩ := Int.eq_ofNat_of_zero_le (show 0 ≤ at_ by omega)
          have hk : at_ = (k : Int) := hk
          subst hk
          have hkl : k < M.length := by omega
          obtain ⟨y, hy⟩ : ∃ y, M[k]? = some y := ⟨_, List.getElem?_eq_getElem hkl⟩
          have hye : M[k] = y := (List.getElem?_eq_some_iff.1 hy).2
          obtain rfl := hgood k rfl (by rw [List.length_map]; exact hkl)
          rw [List.getElem_map, hye]
          obtain ⟨yn, yc, yh⟩ := y
          obtain ⟨mg, mo, hma, c0, c1, c2⟩ := (las_own HR5.out.row).at_ k _ hy
          subst hma
          simp only at c0 c1 c2
          unfold AudS.val AudS.cells LA.aud
          obtain ⟨AB, hAB⟩ : ∃ AB, w5.heap.size = AB := ⟨_, rfl⟩
          have gz := World.grownBy_alloc w5 (.cells #[.string yn, .string (keyO yc), .string noughts20, .int .i64 yh] 82) none
          have hbz := heap_alloc_at w5 (.cells #[.string yn, .string (keyO yc), .string noughts20, .int .i64 yh] 82) AB hAB
          obtain ⟨W6, hW6⟩ : ∃ W6, w5.alloc (.cells #[.string yn, .string (keyO yc), .string noughts20, .int .i64 yh] 82) = W6 := ⟨_, rfl⟩
          rw [hW6] at gz hbz
          have c0 := gz.cell c0 (by simp)
          have c1 := gz.cell c1 (by simp)
          have c2 := gz.cell c2 (by simp)
          obtain ⟨y0, y1, y2, y3⟩ := cells4 hbz
          have HGZ := Lib.hid (grownBy_trans HR5.out.gr gz)
          have HK := Lib.hid (fun w' => key20_any yc yh w')
          have HCK : Hid (∀ w', W6.grownBy w' none → (w'.cell? ⟨AB, 0, none⟩ = some (.string yn) ∧ w'.cell? ⟨AB, 1, none⟩ = some (.string (keyO yc)) ∧ w'.cell? ⟨AB, 2, none⟩ = some (.string noughts20) ∧ w'.cell? ⟨AB, 3, none⟩ = some (.int .i64 yh)) ∧ w'.cell? ⟨mg, mo + k * 3, none⟩ = some (.string yn) ∧ w'.cell? ⟨mg, mo + k * 3 + 1, none⟩ = some (.int .u8 yc.toNat) ∧ w'.cell? ⟨mg, mo + k * 3 + 2, none⟩ = some (.int .i64 yh)) := Lib.hid (fun w' g => ⟨⟨g.cell y0 (by simp), g.cell y1 (by simp), g.cell y2 (by simp), g.cell y3 (by simp)⟩, g.cell c0 (by simp), g.cell c1 (by simp), g.cell c2 (by simp)⟩)
          have q1 : (yn.toList == yn.toList) = true := by simp
          have q2 : ((keyO yc).toList == (keyO yc).toList) = true := by simp
          have q3 : (noughts20.toList == noughts20.toList) = true := by simp
          have q4 : (yh == yh) = true := by simp
          have b0 : (0 : Int) ≤ (k : Int) := by omega
          have b1 : (k : Int) < (M.length : Int) := by omega
          have HW6 := Lib.hid (And.intro hW6 hAB)
          clear hbad hgood HR gz hbz hy hye hW6 hAB y0 y1 y2 y3 c0 c1 c2 HR5
          go_upto_region 30 with fail
          rw [HW6.out.1, HW6.out.2]
          have gd : W6.grownBy W6.drew none := grownBy_drew (World.grownBy.refl W6 none)
          have ck := HCK.out _ gd
          generalize keyO yc = KO at HK ck HCK q2
          go_region_held3 (fun w' => (w'.cell? ⟨AB, 0, none⟩ = some (.string yn) ∧ w'.cell? ⟨AB, 1, none⟩ = some (.string KO) ∧ w'.cell? ⟨AB, 2, none⟩ = some (.string noughts20) ∧ w'.cell? ⟨AB, 3, none⟩ = some (.int .i64 yh)) ∧ w'.cell? ⟨mg, mo + k * 3, none⟩ = some (.string yn) ∧ w'.cell? ⟨mg, mo + k * 3 + 1, none⟩ = some (.int .u8 yc.toNat) ∧ w'.cell? ⟨mg, mo + k * 3 + 2, none⟩ = some (.int .i64 yh)) (first | exact ck)
            (first
            | (go_at_call 31; (with_reducible refine (HK.out _).mono ?_); rintro e w7 ⟨rfl, g7⟩; have k7 := grownBy_trans gd g7; have ck := HCK.out _ k7))
          have HG7 := Lib.hid (grownBy_trans HGZ.out k7)
          clear ck gd g7 k7
          go_wp2_with fail
          go_ret
          exact ⟨rfl, HG7.out⟩
end Go.Proofs.YtioahjdojgcfdaaDoor
