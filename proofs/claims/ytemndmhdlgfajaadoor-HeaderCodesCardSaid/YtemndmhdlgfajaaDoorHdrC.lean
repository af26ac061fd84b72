/- The walks of header's isNode, depthMayBe, check. -/
import Derived.Test.YtemndmhdlgfajaaDoorHeaderCodesB3
import Derived.Test.YtemndmhdlgfajaaDoorEntA
import Derived.Test.YtemndmhdlgfajaaDoorHeaderCodesB4
import Derived.Handy
import Derived.Deep.DeepCutAuto
import Derived.Deep.RegionHeld3
namespace Go.Proofs.YtemndmhdlgfajaaDoor
open Go.RowKit
attribute [local irreducible] shaL

def HdrS.val (x : HdrS) (v : Value) : Value := .agg #[.int .u64 x.e, .string x.p, .int .i64 x.d, .int .i64 x.a, v]
theorem one0 (s : ByteArray) : (s.toList == [0]) = decide (s = ⟨#[0]⟩) := by
  have h : (⟨#[0]⟩ : ByteArray).toList = [0] := by rw [ByteArray.toList_eq]
  have h2 := eq_strE s ⟨#[0]⟩
  rwa [h] at h2
theorem nodeOk_17 {s : ByteArray} (h : s.size = 17) (h0 : 0 < s.size) : nodeOk s = (decide (s[0].toNat = 1) || decide (s[0].toNat = 2)) := by
  have hne : s ≠ ⟨#[0]⟩ := by rintro rfl; exact absurd h (by decide)
  have hh : s.data.toList.head? = some s[0] := by
    rw [List.head?_eq_getElem?, List.getElem?_eq_getElem (by rw [Array.length_toList]; exact h0)]
    rfl
  unfold nodeOk
  rw [decide_eq_false hne, Bool.false_or, decide_eq_true h, Bool.true_and, hh]
  have key : ∀ (c : UInt8) (n : Nat), n < 256 → decide (some c = some (UInt8.ofNat n)) = decide (c.toNat = n) := by
    intro c n hn
    rw [Bool.eq_iff_iff, decide_eq_true_iff, decide_eq_true_iff, Option.some_inj]
    constructor
    · rintro rfl; simp; omega
    · intro e; rw [← e]; simp
  rw [show (1 : UInt8) = UInt8.ofNat 1 from rfl, show (2 : UInt8) = UInt8.ofNat 2 from rfl, key _ 1 (by decide), key _ 2 (by decide)]
set_option maxRecDepth 100000 in
set_option maxHeartbeats 1600000 in
theorem isNode_any (s : ByteArray) (hs : s.size ≤ maxLen) (w : World) :
    Calls Tryd.prog 63 #[.string s] w fun e w' => e = .returned (.bool (nodeOk s)) ∧ w.grownBy w' none := by
  unfold maxLen at hs
  have e0 := one0 s
  by_cases h0 : s = ⟨#[0]⟩
  · have e1 : (s.toList == [0]) = true := by rw [e0]; simpa using h0
    have hok : nodeOk s = true := by unfold nodeOk; rw [decide_eq_true h0, Bool.true_or]
    rw [hok]
    clear h0 hok e0
    go_enter Tryd.func63, Tryd.ntmps63
    go_wp2_with fail
    go_ret
    exact ⟨rfl, by first | exact World.grownBy.refl _ _ | exact grownBy_drew (World.grownBy.refl _ _)⟩
  · have e1 : (s.toList == [0]) = false := by rw [e0]; simpa using h0
    by_cases h17 : s.size = 17
    · have hp : 0 < s.size := by omega
      have hok := nodeOk_17 h17 hp
      have q1 : ((s.size : Int) == 17) = true := by rw [h17]; rfl
      have q2 : (0 : Int) < (s.size : Int) := by omega
      rw [hok]
      obtain ⟨c, hc⟩ : ∃ c, s[0].toNat = c := ⟨_, rfl⟩
      have hc256 : c < 256 := by rw [← hc]; exact s[0].toNat_lt
      rw [hc]
      clear hok e0 h0
      by_cases c1 : c = 1
      · have r1 : ((c : Int) == 1) = true := by simp [c1]
        go_enter Tryd.func63, Tryd.ntmps63
        go_wp2_with (rw [hc])
        go_ret
        exact ⟨by simp [c1], by first | exact World.grownBy.refl _ _ | exact grownBy_drew (World.grownBy.refl _ _)⟩
      · have r1 : ((c : Int) == 1) = false := by rw [beq_eq_false_iff_ne]; omega
        by_cases c2 : c = 2
        · have r2 : ((c : Int) == 2) = true := by simp [c2]
          go_enter Tryd.func63, Tryd.ntmps63
          go_wp2_with (rw [hc])
          go_ret
          exact ⟨by simp [c2], by first | exact World.grownBy.refl _ _ | exact grownBy_drew (World.grownBy.refl _ _)⟩
        · have r2 : ((c : Int) == 2) = false := by rw [beq_eq_false_iff_ne]; omega
          go_enter Tryd.func63, Tryd.ntmps63
          go_wp2_with (rw [hc])
          go_ret
          exact ⟨by simp [c1, c2], by first | exact World.grownBy.refl _ _ | exact grownBy_drew (World.grownBy.refl _ _)⟩
    · have q1 : ((s.size : Int) == 17) = false := by rw [beq_eq_false_iff_ne]; omega
      have hok : nodeOk s = false := by unfold nodeOk; rw [decide_eq_false h0, decide_eq_false h17]; rfl
      rw [hok]
      clear h0 hok e0
      go_enter Tryd.func63, Tryd.ntmps63
      go_wp2_with fail
      go_ret
      exact ⟨rfl, by first | exact World.grownBy.refl _ _ | exact grownBy_drew (World.grownBy.refl _ _)⟩

theorem depthMay_any (d : Int) (w : World) :
    Calls Tryd.prog 52 #[.int .i64 d] w fun e w' => e = .returned (.bool (decide (0 ≤ d ∧ d ≤ 4))) ∧ w = w' := by
  by_cases h : 0 ≤ d ∧ d ≤ 4
  · obtain ⟨k, rfl⟩ := Int.eq_ofNat_of_zero_le h.1
    have HC := Lib.hid (fun w' => bcount_in k (by omega) w')
    have hp : 0 < 2 ^ k := Nat.pow_pos (by decide)
    rw [decide_eq_true h]
    generalize 2 ^ k = N at HC hp
    have q1 : (0 : Int) < (N : Int) := by omega
    have q2 : (N : Int) > 0 := by omega
    clear h
    go_enter Tryd.func52, Tryd.ntmps52
    go_wp2_with fail
    refine (HC.out _).mono ?_
    rintro e w1 ⟨rfl, rfl⟩
    go_wp2_with fail
    go_ret
    exact ⟨rfl, rfl⟩
  · have HC := Lib.hid (fun w' => bcount_out d (by omega) w')
    rw [decide_eq_false h]
    clear h
    go_enter Tryd.func52, Tryd.ntmps52
    go_wp2_with fail
    refine (HC.out _).mono ?_
    rintro e w1 ⟨rfl, rfl⟩
    go_wp2_with fail
    go_ret
    exact ⟨rfl, rfl⟩

structure HdrS.small (x : HdrS) : Prop where
  e : x.e ≤ 18446744073709551615
  p : x.p.size ≤ 100000
  n : x.L.length ≤ 100000
  s : ∀ s ∈ x.L, s.size ≤ 100000
set_option maxRecDepth 100000 in
set_option maxHeartbeats 3200000 in
theorem hcheck_any (x : HdrS) (hx : x.small) (v : Value) (w : World) (hv : StrsAt w v x.L) :
    Calls Tryd.prog 39 #[x.val v] w fun e w' => e = .returned (.int .i64 x.err) ∧ w.grownBy w' none := by
  obtain ⟨a, cap, rfl⟩ := hv.form
  obtain ⟨e, p, d, au, L⟩ := x
  obtain ⟨he, hp, hn, hs⟩ := hx
  have he : e ≤ 18446744073709551615 := he
  have hp : p.size ≤ 100000 := hp
  have hn : L.length ≤ 100000 := hn
  have hs : ∀ s ∈ L, s.size ≤ 100000 := hs
  have hv : StrsAt w (.slice a L.length cap) L := hv
  unfold HdrS.val
  simp only
  have HV := Lib.hid hv
  have HS := Lib.hid hs
  obtain ⟨n, hnn⟩ : ∃ n, L.length = n := ⟨_, rfl⟩
  rw [hnn] at hn HV ⊢
  have HN := Lib.hid hnn
  have hb0 := heap_alloc_at w (.cells #[.int .u64 e, .string p, .int .i64 d, .int .i64 au, .slice a n cap] 28) _ rfl
  have hg0 : w.grownBy (w.alloc (.cells #[.int .u64 e, .string p, .int .i64 d, .int .i64 au, .slice a n cap] 28)) none := World.grownBy_alloc _ _ _
  obtain ⟨W0, hW0⟩ : ∃ W0, w.alloc (.cells #[.int .u64 e, .string p, .int .i64 d, .int .i64 au, .slice a n cap] 28) = W0 := ⟨_, rfl⟩
  obtain ⟨XB, hXB⟩ : ∃ XB, w.heap.size = XB := ⟨_, rfl⟩
  rw [hW0] at hb0 hg0
  rw [hXB] at hb0
  obtain ⟨x0, x1, x2, x3, x4⟩ := cells5 hb0
  have HB0 := Lib.hid hb0
  have HG0 := Lib.hid hg0
  have HW := Lib.hid (And.intro hW0 hXB)
  have HDM := Lib.hid (fun w' => depthMay_any d w')
  clear hb0 hg0 hW0 hXB hv hs
  obtain ⟨z, hz⟩ : ∃ z, (⟨e, p, d, au, L⟩ : HdrS).err = z := ⟨_, rfl⟩
  rw [hz]
  by_cases h1 : 4294967295 < e
  · have hzz : z = 10 := by rw [← hz]; unfold HdrS.err; rw [if_pos (show (⟨e, p, d, au, L⟩ : HdrS).wide from Or.inl h1)]
    subst hzz
    have q1 : (4294967295 : Int) < (e : Int) := by omega
    have q2 : (e : Int) > 4294967295 := by omega
    clear hz h1
    go_enter Tryd.func39, Tryd.ntmps39
    go_wp2_with (rw [HW.out.1, HW.out.2])
    go_ret
    exact ⟨rfl, by first | exact HG0.out | exact grownBy_drew HG0.out⟩
  · have q1 : ¬ (4294967295 : Int) < (e : Int) := by omega
    have q2 : ¬ (e : Int) > 4294967295 := by omega
    by_cases h2 : p.size = 16
    · have q3 : ((p.size : Int) != 16) = false := by rw [h2]; rfl
      have q3' : ((p.size : Int) == 16) = true := by rw [h2]; rfl
      by_cases h3 : 0 ≤ d ∧ d ≤ 4
      · rw [decide_eq_true h3] at HDM
        obtain ⟨k, rfl⟩ := Int.eq_ofNat_of_zero_le h3.1
        have hk : k ≤ 4 := by omega
        have HC := Lib.hid (fun w' => bcount_in k hk w')
        by_cases h4 : au < 0 ∨ 64 < au
        · have hzz : z = 10 := by rw [← hz]; unfold HdrS.err; rw [if_pos (by unfold HdrS.wide; simp only; omega)]
          subst hzz
          clear hz h1 h2 h3 HC hk
          rcases h4 with h4 | h4
          · go_enter Tryd.func39, Tryd.ntmps39
            go_wp2_with (rw [HW.out.1, HW.out.2])
            refine (HDM.out _).mono ?_
            rintro e w1 ⟨rfl, rfl⟩
            go_wp2_with (rw [HW.out.1, HW.out.2])
            go_ret
            exact ⟨rfl, by first | exact HG0.out | exact grownBy_drew HG0.out⟩
          · have h5 : ¬ au < 0 := by omega
            have h6 : au > 64 := h4
            go_enter Tryd.func39, Tryd.ntmps39
            go_wp2_with (rw [HW.out.1, HW.out.2])
            refine (HDM.out _).mono ?_
            rintro e w1 ⟨rfl, rfl⟩
            go_wp2_with (rw [HW.out.1, HW.out.2])
            go_ret
            exact ⟨rfl, by first | exact HG0.out | exact grownBy_drew HG0.out⟩
        · have h5 : ¬ au < 0 := by omega
          have h6 : ¬ au > 64 := by omega
          have hnw : ¬ (⟨e, p, (k : Int), au, L⟩ : HdrS).wide := by unfold HdrS.wide; simp only; omega
          have hz2 : z = if n ≠ 2 ^ k then 22 else if L.all nodeOk = true then 0 else 4 := by
            rw [← hz]
            unfold HdrS.err
            rw [if_neg hnw]
            show (if L.length ≠ 2 ^ ((k : Int)).toNat then (22 : Int) else if L.all nodeOk = true then 0 else 4) = _
            rw [hnn]
            rfl
          clear hz hnw h1 h2 h3 hk
          generalize 2 ^ k = N at HC hz2
          by_cases h7 : n = N
          · have q7 : ((n : Int) != (N : Int)) = false := by simp [h7]
            have q7' : ((n : Int) == (N : Int)) = true := by simp [h7]
            rw [if_neg (by omega)] at hz2
            have HZ := Lib.hid hz2
            have H7 := Lib.hid h7
            clear hz2 h4 h7
            go_enter Tryd.func39, Tryd.ntmps39
            go_wp2_with (rw [HW.out.1, HW.out.2])
            refine (HDM.out _).mono ?_
            rintro e w1 ⟨rfl, rfl⟩
            go_wp2_with (rw [HW.out.1, HW.out.2])
            go_region_held3 (fun w' => w'.cell? ⟨XB, 2, none⟩ = some (.int .i64 k) ∧ w'.cell? ⟨XB, 4, none⟩ = some (.slice a n cap)) (first | exact ⟨x2, x4⟩)
              (first
              | (go_at_call 47; (with_reducible refine (HC.out _).mono ?_); rintro e w3 ⟨rfl, rfl⟩))
            go_wp2_with (rw [HW.out.1, HW.out.2])
            go_loopw [4, 38] (fun _ iv wr => ∃ (i : Nat), i ≤ n ∧ iv = .int .i64 i ∧ Hid ((L.take i).all nodeOk = true) ∧ Hid (w.grownBy wr none)) (fun _ iv _ => n - (intOf iv).toNat)
            case atStart => exact ⟨0, Nat.zero_le _, rfl, rfl, by first | exact HG0.out | exact grownBy_drew HG0.out⟩
            case round =>
              obtain ⟨i, hi, rfl, HK, HG⟩ := hrel
              by_cases hlt : i < n
              · have d1 : (i : Int) < (n : Int) := by omega
                have d0 : (0 : Int) ≤ (i : Int) := by omega
                have hil : i < L.length := by have := HN.out; omega
                obtain ⟨s, hs⟩ : ∃ s, L[i]? = some s := ⟨_, List.getElem?_eq_getElem hil⟩
                obtain ⟨g, o, rfl, c1⟩ := (HV.out.grown HG.out).at_ i s hs
                have htk : (L.take (i + 1)).all nodeOk = nodeOk s := by
                  rw [List.take_add_one, hs, List.all_append, HK.out]
                  simp
                have hno : nodeOk s = false → z = 4 := fun h => by
                  rw [HZ.out, if_neg]
                  intro q
                  have := List.all_eq_true.1 q s (List.mem_of_getElem? hs)
                  rw [h] at this
                  cases this
                have HIS := Lib.hid (fun w' => isNode_any s (by have := HS.out s (List.mem_of_getElem? hs); unfold maxLen; omega) w')
                have HT := Lib.hid (And.intro htk hno)
                clear hs htk hno
                go_wp2_with fail
                refine (HIS.out _).mono ?_
                rintro e w2 ⟨rfl, g2⟩
                have G2 := Lib.hid (grownBy_trans HG.out g2)
                clear g2 HG c1 HIS
                obtain ⟨b, hb⟩ : ∃ b, nodeOk s = b := ⟨_, rfl⟩
                have HB := Lib.hid hb
                rw [hb]
                cases b with
                | true =>
                  clear hb
                  go_wp2_with fail
                  go_roundw
                  case rel => exact ⟨i + 1, by omega, by go_num, Lib.hid (HT.out.1.trans HB.out), G2.out⟩
                  case measure => simp [intOf]; omega
                | false =>
                  have h4 := HT.out.2 hb
                  subst h4
                  clear hb
                  go_wp2_with fail
                  go_ret
                  exact ⟨rfl, G2.out⟩
              · have d1 : ¬ (i : Int) < (n : Int) := by omega
                have hin : L.take i = L := List.take_of_length_le (by have := HN.out; omega)
                have hz0 : z = 0 := by
                  have := HK.out
                  rw [hin] at this
                  rw [HZ.out, if_pos this]
                subst hz0
                clear hin
                go_wp2_with fail
                go_ret
                exact ⟨rfl, HG.out⟩
          · have q7 : ((n : Int) != (N : Int)) = true := by simp; omega
            have q7' : ((n : Int) == (N : Int)) = false := by rw [beq_eq_false_iff_ne]; omega
            rw [if_pos h7] at hz2
            subst hz2
            clear h4 h7
            go_enter Tryd.func39, Tryd.ntmps39
            go_wp2_with (rw [HW.out.1, HW.out.2])
            refine (HDM.out _).mono ?_
            rintro e w1 ⟨rfl, rfl⟩
            go_wp2_with (rw [HW.out.1, HW.out.2])
            go_region_held3 (fun w' => w'.cell? ⟨XB, 2, none⟩ = some (.int .i64 k) ∧ w'.cell? ⟨XB, 4, none⟩ = some (.slice a n cap)) (first | exact ⟨x2, x4⟩)
              (first
              | (go_at_call 47; (with_reducible refine (HC.out _).mono ?_); rintro e w3 ⟨rfl, rfl⟩))
            go_wp2_with (rw [HW.out.1, HW.out.2])
            go_ret
            exact ⟨rfl, by first | exact HG0.out | exact grownBy_drew HG0.out⟩
      · have hzz : z = 10 := by rw [← hz]; unfold HdrS.err; rw [if_pos (by unfold HdrS.wide; simp only; omega)]
        subst hzz
        rw [decide_eq_false h3] at HDM
        clear hz h1 h2 h3
        go_enter Tryd.func39, Tryd.ntmps39
        go_wp2_with (rw [HW.out.1, HW.out.2])
        refine (HDM.out _).mono ?_
        rintro e w1 ⟨rfl, rfl⟩
        go_wp2_with (rw [HW.out.1, HW.out.2])
        go_ret
        exact ⟨rfl, by first | exact HG0.out | exact grownBy_drew HG0.out⟩
    · have hzz : z = 10 := by rw [← hz]; unfold HdrS.err; rw [if_pos (show (⟨e, p, d, au, L⟩ : HdrS).wide from Or.inr (Or.inl h2))]
      subst hzz
      have q3 : ((p.size : Int) != 16) = true := by simp; omega
      have q3' : ((p.size : Int) == 16) = false := by rw [beq_eq_false_iff_ne]; omega
      clear hz h1 h2
      go_enter Tryd.func39, Tryd.ntmps39
      go_wp2_with (rw [HW.out.1, HW.out.2])
      go_ret
      exact ⟨rfl, by first | exact HG0.out | exact grownBy_drew HG0.out⟩
end Go.Proofs.YtemndmhdlgfajaaDoor
