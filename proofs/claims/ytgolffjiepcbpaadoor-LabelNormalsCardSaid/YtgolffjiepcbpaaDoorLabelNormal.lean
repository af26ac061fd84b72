/- The walk of label.Normal. -/
import Derived.Test.YtgolffjiepcbpaaDoorLabelMay2
namespace Go.Proofs.YtgolffjiepcbpaaDoor
open Go.RowKit Go.Lib

/-- a label's normal form, or why it has none -/
def normalI (l : List UInt8) : List UInt8 × Int :=
  if validD l = false then ([], 4) else if 64 < (runes l).length then ([], 2) else if labelI l = false then ([], 5) else (mapD smallI l, 0)

theorem small_enters : ∀ args w, (callFunc 13 args).run Tryd.prog w = .ok (.enter 13 args) w := enters_of Tryd.func13 (by kernel_rfl) rfl

theorem small_range (x : Nat) (h : x ≤ 1114111) : -2147483648 ≤ smallI x ∧ smallI x ≤ 2147483647 := by
  unfold smallI
  split <;> omega

theorem map_any (s : ByteArray) (w : World) (hs : s.size ≤ 1099511627776) (hA : AlphaAt w) (hG : 2 < w.heap.size) (hT : TabsAt w) :
    Calls Tryd.prog 18 #[.func (.func 13) #[] #[], .string s] w fun e w' => e = .returned (.string (⟨(mapD smallI s.data.toList).toArray⟩)) ∧ Below w.heap.size w w' := by
  refine Tryd.strings_Map_grows 13 #[] small_enters smallI s w (by omega) ?_ small_range hT
  intro W x hx hb
  have := small_any (x : Int) ⟨by omega, by omega⟩ W (hA.below hb hG) (Nat.lt_of_lt_of_le hG hb.size)
  exact this

set_option maxRecDepth 100000 in
set_option maxHeartbeats 1000000 in
theorem normal_any (s : ByteArray) (w : World) (hs : s.size ≤ 1099511627776) (hA : AlphaAt w) (hG : 2 < w.heap.size) (hT : TabsAt w) (hTB : ∀ W, Below w.heap.size w W → TabsAt W) :
    Calls Tryd.prog 8 #[.string s] w fun e w' => e = .returned (.tuple #[.string ⟨(normalI s.data.toList).1.toArray⟩, .int .i64 (normalI s.data.toList).2]) ∧ Below w.heap.size w w' := by
  have HA := Lib.hid hA
  have HT := Lib.hid hT
  have HTB := Lib.hid hTB
  clear hA hT hTB
  cases hv : validD s.data.toList with
  | false =>
    have e : normalI s.data.toList = ([], 4) := by unfold normalI; rw [if_pos hv]
    rw [e]
    have HV := Lib.hid hv
    clear e hv
    go_enter Tryd.func8, Tryd.ntmps8
    go_wp2_with fail
    refine (runes_bad s _ (by omega) HT.out HV.out).mono ?_
    rintro e w1 ⟨rfl, hb⟩
    have HB := Lib.hid hb
    clear hb
    go_wp2_with fail
    go_ret2
    exact ⟨rfl, HB.out⟩
  | true =>
    by_cases hl : 64 < (runes s.data.toList).length
    · have e : normalI s.data.toList = ([], 2) := by unfold normalI; rw [if_neg (by rw [hv]; decide), if_pos hl]
      rw [e]
      have HV := Lib.hid hv
      clear e hv
      go_enter Tryd.func8, Tryd.ntmps8
      go_wp2_with fail
      refine (runes_good s _ (by omega) HT.out HV.out).mono ?_
      rintro e w1 ⟨rfl, hb⟩
      have HB := Lib.hid hb
      clear hb
      go_wp2_with fail
      go_ret2
      exact ⟨rfl, HB.out⟩
    · cases hm : labelI s.data.toList with
      | false =>
        have e : normalI s.data.toList = ([], 5) := by unfold normalI; rw [if_neg (by rw [hv]; decide), if_neg hl, if_pos hm]
        rw [e]
        have HV := Lib.hid (And.intro hv hm)
        clear e hv hm
        go_enter Tryd.func8, Tryd.ntmps8
        go_wp2_with fail
        refine (runes_good s _ (by omega) HT.out HV.out.1).mono ?_
        rintro e w1 ⟨rfl, hb⟩
        have HB := Lib.hid hb
        have HA2 := Lib.hid (HA.out.below hb hG)
        have hG2 : 2 < w1.heap.size := Nat.lt_of_lt_of_le hG hb.size
        clear hb
        go_wp2_with fail
        refine (labelMayBe_any s _ hs HA2.out hG2).mono ?_
        rintro e w2 ⟨rfl, hb⟩
        rw [HV.out.2]
        have HB2 : Hid (Below w.heap.size w w2) := HB.out.trans (hb.mono HB.out.size)
        clear hb
        go_wp2_with fail
        go_ret2
        exact ⟨rfl, HB2.out⟩
      | true =>
        have e : normalI s.data.toList = (mapD smallI s.data.toList, 0) := by unfold normalI; rw [if_neg (by rw [hv]; decide), if_neg hl, if_neg (by rw [hm]; decide)]
        rw [e]
        have HV := Lib.hid (And.intro hv hm)
        clear e hv hm
        go_enter Tryd.func8, Tryd.ntmps8
        go_wp2_with fail
        refine (runes_good s _ (by omega) HT.out HV.out.1).mono ?_
        rintro e w1 ⟨rfl, hb⟩
        have HB := Lib.hid hb
        have HA2 := Lib.hid (HA.out.below hb hG)
        have hG2 : 2 < w1.heap.size := Nat.lt_of_lt_of_le hG hb.size
        clear hb
        go_wp2_with fail
        refine (labelMayBe_any s _ hs HA2.out hG2).mono ?_
        rintro e w2 ⟨rfl, hb⟩
        rw [HV.out.2]
        have HB2 : Hid (Below w.heap.size w w2) := HB.out.trans (hb.mono HB.out.size)
        have HA3 := Lib.hid (HA2.out.below hb hG2)
        have hG3 : 2 < w2.heap.size := Nat.lt_of_lt_of_le hG2 hb.size
        clear hb
        have HT3 := Lib.hid (HTB.out w2 HB2.out)
        go_wp2_with fail
        refine (map_any s _ hs HA3.out hG3 HT3.out).mono ?_
        rintro e w3 ⟨rfl, hb⟩
        have HB4 : Hid (Below w.heap.size w w3) := HB2.out.trans (hb.mono HB2.out.size)
        clear hb
        go_wp2_with fail
        go_ret2
        exact ⟨rfl, HB4.out⟩
end Go.Proofs.YtgolffjiepcbpaaDoor
