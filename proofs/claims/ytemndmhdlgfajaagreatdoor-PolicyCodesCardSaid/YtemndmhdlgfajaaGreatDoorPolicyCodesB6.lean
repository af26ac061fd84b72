/- The walk of label.labelMayBe. · The walk of label.Normal. · The walk of the label laws' speaks. · The law PolicyCodes, at a world that is ready. · Out of the listed variables: the three tables of labels in memory. -/
import Derived.Test.YtemndmhdlgfajaaGreatDoorLabelMay
import Derived.Test.YtemndmhdlgfajaaGreatDoorPolicyCodesLaw
import Derived.Test.YtemndmhdlgfajaaGreatDoorCards
import Derived.Test.YtemndmhdlgfajaaGreatDoorTie
import Derived.Lib.LaidIn
import Derived.Lib.LaidU8T
import Derived.Deep.DeepHandedRow
import Derived.Deep.DeepWitnessRowRef
import Derived.ProofKit
import Derived.OpenShut
import Derived.ShutString
namespace Go.Proofs.YtemndmhdlgfajaaGreatDoor
open Go.RowKit Go.Lib

theorem owns_form {w : World} {B : Nat} {e : TypeId} {size n : Nat} {v : Value} {xs : List Value} (h : w.ownsRow B e size v n xs) (hn : 0 < n) : ∃ g cap, v = .slice (some ⟨g, 0, none⟩) n cap ∧ B ≤ g := by
  rcases h.2 with ⟨_, h2⟩ | ⟨g, cap, cur, h1, h2, _⟩
  · omega
  · exact ⟨g, cap, h1, h2⟩

/-- a label that may be, but for its runes' number and whether it is made of runes -/
def labelI (l : List UInt8) : Bool := decide (countByte l 64 ≤ 1) && (parts [] l).all partI

theorem parts_len_le (n : Nat) : ∀ (cur l : List UInt8), l.length ≤ n → ∀ x ∈ parts cur l, x.length ≤ cur.length + l.length := by
  induction n with
  | zero =>
    intro cur l h x hx
    have : l = [] := List.eq_nil_of_length_eq_zero (by omega)
    rw [this, parts_nil] at hx
    simp at hx
    subst hx
    omega
  | succ n ih =>
    intro cur l h x hx
    by_cases hl : l = []
    · rw [hl, parts_nil] at hx
      simp at hx
      subst hx
      omega
    · rw [parts_step _ _ hl] at hx
      have hw := decodeL_width l
      have hle := decodeL_le l hl
      have hp : 0 < l.length := List.length_pos_iff.2 hl
      split at hx
      · rcases List.mem_cons.1 hx with rfl | hx
        · omega
        · have := ih [] (l.drop (decodeL l).2) (by simp; omega) x hx
          rw [List.length_drop] at this
          simp at this
          omega
      · have := ih _ (l.drop (decodeL l).2) (by simp; omega) x hx
        rw [List.length_append, List.length_take, List.length_drop] at this
        omega

theorem parts_pos (cur l : List UInt8) : 0 < (parts cur l).length := by
  have : ∀ (n : Nat) (cur l : List UInt8), l.length ≤ n → 0 < (parts cur l).length := by
    intro n
    induction n with
    | zero =>
      intro cur l h
      have : l = [] := List.eq_nil_of_length_eq_zero (by omega)
      rw [this, parts_nil]
      simp
    | succ n ih =>
      intro cur l h
      by_cases hl : l = []
      · rw [hl, parts_nil]
        simp
      · rw [parts_step _ _ hl]
        have hw := decodeL_width l
        have hp : 0 < l.length := List.length_pos_iff.2 hl
        split
        · simp
        · exact ih _ _ (by simp; omega)
  exact this l.length cur l (Nat.le_refl _)

theorem count_anyL (s : ByteArray) (w : World) : Calls Tryz.prog 161 #[.string s, .string ⟨#[64]⟩] w fun e w' => e = .returned (.int .i64 (countByte s.data.toList 64)) ∧ w = w' :=
  (Tryz.strings_Count_one s 64 w).mono fun _ _ h => ⟨h.1, h.2.symm⟩

set_option maxRecDepth 100000 in
set_option maxHeartbeats 2000000 in
theorem labelMayBe_any (s : ByteArray) (w : World) (hs : s.size ≤ 1099511627776) (hA : AlphaAt w) (hG : 4 < w.heap.size) :
    Calls Tryz.prog 148 #[.string s] w fun e w' => e = .returned (.bool (labelI s.data.toList)) ∧ Below w.heap.size w w' := by
  have HA := Lib.hid hA
  clear hA
  have hlen := parts_pos [] s.data.toList
  have hcnt := parts_count_le s.data.toList.length [] s.data.toList (Nat.le_refl _)
  have hsl : s.data.toList.length = s.size := rfl
  have hmem := parts_len_le s.data.toList.length [] s.data.toList (Nat.le_refl _)
  obtain ⟨P, hP⟩ : ∃ P, P = parts [] s.data.toList := ⟨_, rfl⟩
  have hfin : labelI s.data.toList = (decide (countByte s.data.toList 64 ≤ 1) && P.all partI) := by unfold labelI; rw [hP]
  rw [hfin]
  rw [← hP] at hlen hcnt hmem
  rw [hsl] at hcnt
  have HM := Lib.hid hmem
  have HP := Lib.hid hP
  clear hfin hP hmem hsl
  by_cases hc : countByte s.data.toList 64 ≤ 1
  · have hc2 : ((countByte s.data.toList 64 : Nat) : Int) ≤ 1 := by omega
    rw [decide_eq_true hc, Bool.true_and]
    clear hc
    obtain ⟨R, hR⟩ : ∃ R, R = P.all partI := ⟨_, rfl⟩
    rw [← hR]
    have HR := Lib.hid hR
    clear hR
    go_enter Tryz.func148, Tryz.ntmps148
    go_wp2_with fail
    refine (count_anyL s _).mono ?_
    rintro e w1 ⟨rfl, rfl⟩
    go_wp2_with fail
    refine (parts_anyL s _ hs).mono ?_
    rintro e w2 ⟨⟨v, rfl, hown⟩, hb⟩
    rw [← HP.out] at hown
    have HB := Lib.hid hb
    clear hb
    obtain ⟨g, cap, hv, hgb⟩ := owns_form hown hlen
    subst hv
    have HO := Lib.hid hown
    clear hown
    go_wp2_with fail
    go_loopg [2, 4, 11] P.length (fun n _ _ iv wr => ∃ i : Nat, i + n ≥ P.length ∧ i ≤ P.length ∧ iv = .int .i64 i ∧ Aside (R = (P.drop i).all partI) ∧ Hid (OwnsTexts wr w.heap.size (.slice (some ⟨g, 0, none⟩) P.length cap) P) ∧ Hid (Below w.heap.size w wr))
    case atStart => exact ⟨0, by omega, Nat.zero_le _, rfl, HR.out, HO.out, HB.out⟩
    case round =>
      clear HO HB
      obtain ⟨i, hn, hi, rfl, HL, HO, HB⟩ := hrel
      have HA2 := Lib.hid (HA.out.below HB.out hG)
      have hG2 : 4 < wr.heap.size := Nat.lt_of_lt_of_le hG HB.out.size
      by_cases hlt : i < P.length
      · have hcell : wr.cell? ⟨g, i, none⟩ = some (.string ⟨(P[i]'hlt).toArray⟩) := by
          rw [World.ownsRow.cellAt HO.out i (by omega)]
          simp [textCells, hlt]
        have hdrop : P.drop i = P[i]'hlt :: P.drop (i + 1) := List.drop_eq_getElem_cons hlt
        have hxl : (P[i]'hlt).length ≤ s.size := by
          have := HM.out _ (List.getElem_mem hlt)
          simpa using this
        obtain ⟨x, hx⟩ : ∃ x, x = P[i]'hlt := ⟨_, rfl⟩
        rw [← hx] at hcell hdrop hxl
        have HX := Lib.hid hdrop
        clear hx hdrop
        cases hp : partI x with
        | false =>
          have hRf : R = false := by rw [HL.out, HX.out]; simp [hp]
          have HRF := Lib.hid (And.intro hRf hp)
          clear hp hRf
          go_wp2_with fail
          refine (partMayBe_any ⟨x.toArray⟩ _ (Nat.le_trans hxl hs) HA2.out hG2).mono ?_
          rintro e w3 ⟨rfl, hb3⟩
          rw [show (⟨x.toArray⟩ : ByteArray).data.toList = x from rfl, HRF.out.2]
          have HB3 : Hid (Below w.heap.size w w3) := HB.out.trans (hb3.mono HB.out.size)
          clear hb3
          go_wp2_with fail
          go_ret
          refine ⟨?_, HB3.out⟩
          rw [HRF.out.1]
          rfl
        | true =>
          have HRF := Lib.hid hp
          clear hp
          go_wp2_with fail
          refine (partMayBe_any ⟨x.toArray⟩ _ (Nat.le_trans hxl hs) HA2.out hG2).mono ?_
          rintro e w3 ⟨rfl, hb3⟩
          rw [show (⟨x.toArray⟩ : ByteArray).data.toList = x from rfl, HRF.out]
          have HB3 : Hid (Below w.heap.size w w3) := HB.out.trans (hb3.mono HB.out.size)
          have HO3 : Hid (OwnsTexts w3 w.heap.size (.slice (some ⟨g, 0, none⟩) P.length cap) P) := World.ownsRow.kept (row := none) HO.out ⟨hb3.os, hb3.tape, hb3.output, hb3.size, fun k hk _ => hb3.block k hk⟩ (by simp [Value.ownBlock])
          clear hb3
          go_wp2_with fail
          go_roundg (gk - 1)
          case measure => omega
          case rel =>
            refine ⟨i + 1, by omega, by omega, by go_num, ?_, HO3, HB3⟩
            show _ = _
            rw [HL.out, HX.out, List.all_cons, HRF.out, Bool.true_and]
      · have hRt : R = true := by rw [HL.out, List.drop_eq_nil_of_le (by omega)]; rfl
        have HRT := Lib.hid hRt
        clear hRt
        go_wp2_with fail
        go_ret
        refine ⟨?_, HB.out⟩
        rw [HRT.out]
        rfl
  · have hc2 : 1 < ((countByte s.data.toList 64 : Nat) : Int) := by omega
    rw [decide_eq_false hc, Bool.false_and]
    clear hc
    go_enter Tryz.func148, Tryz.ntmps148
    go_wp2_with fail
    refine (count_anyL s _).mono ?_
    rintro e w1 ⟨rfl, rfl⟩
    go_wp2_with fail
    go_ret
    exact ⟨rfl, Below.refl _ _⟩
end Go.Proofs.YtemndmhdlgfajaaGreatDoor

namespace Go.Proofs.YtemndmhdlgfajaaGreatDoor
open Go.RowKit Go.Lib

/-- a label's normal form, or why it has none -/
def normalI (l : List UInt8) : List UInt8 × Int :=
  if validD l = false then ([], 4) else if 64 < (runes l).length then ([], 2) else if labelI l = false then ([], 5) else (mapD smallI l, 0)

theorem small_enters : ∀ args w, (callFunc 150 args).run Tryz.prog w = .ok (.enter 150 args) w := enters_of Tryz.func150 (by kernel_rfl) rfl

theorem small_range (x : Nat) (h : x ≤ 1114111) : -2147483648 ≤ smallI x ∧ smallI x ≤ 2147483647 := by
  unfold smallI
  split <;> omega

theorem map_any (s : ByteArray) (w : World) (hs : s.size ≤ 1099511627776) (hA : AlphaAt w) (hG : 4 < w.heap.size) (hT : TabsAt w) :
    Calls Tryz.prog 149 #[.func (.func 150) #[] #[], .string s] w fun e w' => e = .returned (.string (⟨(mapD smallI s.data.toList).toArray⟩)) ∧ Below w.heap.size w w' := by
  refine Tryz.strings_Map_grows 150 #[] small_enters smallI s w (by omega) ?_ small_range hT
  intro W x hx hb
  have := small_any (x : Int) ⟨by omega, by omega⟩ W (hA.below hb hG) (Nat.lt_of_lt_of_le hG hb.size)
  exact this

set_option maxRecDepth 100000 in
set_option maxHeartbeats 1000000 in
theorem normal_any (s : ByteArray) (w : World) (hs : s.size ≤ 1099511627776) (hA : AlphaAt w) (hG : 4 < w.heap.size) (hT : TabsAt w) (hTB : ∀ W, Below w.heap.size w W → TabsAt W) :
    Calls Tryz.prog 125 #[.string s] w fun e w' => e = .returned (.tuple #[.string ⟨(normalI s.data.toList).1.toArray⟩, .int .i64 (normalI s.data.toList).2]) ∧ Below w.heap.size w w' := by
  have HA := Lib.hid hA
  have HT := Lib.hid hT
  have HTB := Lib.hid hTB
  clear hA hT hTB
  cases hv : validD s.data.toList with
  | false =>
    have e : normalI s.data.toList = ([], 4) := by unfold normalI; rw [if_pos hv]
    rw [e]
    have HV := Lib.hid hv
    clear e hv
    go_enter Tryz.func125, Tryz.ntmps125
    go_wp2_with fail
    refine (runes_bad s _ (by omega) HT.out HV.out).mono ?_
    rintro e w1 ⟨rfl, hb⟩
    have HB := Lib.hid hb
    clear hb
    go_wp2_with fail
    go_ret2
    exact ⟨rfl, HB.out⟩
  | true =>
    by_cases hl : 64 < (runes s.data.toList).length
    · have e : normalI s.data.toList = ([], 2) := by unfold normalI; rw [if_neg (by rw [hv]; decide), if_pos hl]
      rw [e]
      have HV := Lib.hid hv
      clear e hv
      go_enter Tryz.func125, Tryz.ntmps125
      go_wp2_with fail
      refine (runes_good s _ (by omega) HT.out HV.out).mono ?_
      rintro e w1 ⟨rfl, hb⟩
      have HB := Lib.hid hb
      clear hb
      go_wp2_with fail
      go_ret2
      exact ⟨rfl, HB.out⟩
    · cases hm : labelI s.data.toList with
      | false =>
        have e : normalI s.data.toList = ([], 5) := by unfold normalI; rw [if_neg (by rw [hv]; decide), if_neg hl, if_pos hm]
        rw [e]
        have HV := Lib.hid (And.intro hv hm)
        clear e hv hm
        go_enter Tryz.func125, Tryz.ntmps125
        go_wp2_with fail
        refine (runes_good s _ (by omega) HT.out HV.out.1).mono ?_
        rintro e w1 ⟨rfl, hb⟩
        have HB := Lib.hid hb
        have HA2 := Lib.hid (HA.out.below hb hG)
        have hG2 : 4 < w1.heap.size := Nat.lt_of_lt_of_le hG hb.size
        clear hb
        go_wp2_with fail
        refine (labelMayBe_any s _ hs HA2.out hG2).mono ?_
        rintro e w2 ⟨rfl, hb⟩
        rw [HV.out.2]
        have HB2 : Hid (Below w.heap.size w w2) := HB.out.trans (hb.mono HB.out.size)
        clear hb
        go_wp2_with fail
        go_ret2
        exact ⟨rfl, HB2.out⟩
      | true =>
        have e : normalI s.data.toList = (mapD smallI s.data.toList, 0) := by unfold normalI; rw [if_neg (by rw [hv]; decide), if_neg hl, if_neg (by rw [hm]; decide)]
        rw [e]
        have HV := Lib.hid (And.intro hv hm)
        clear e hv hm
        go_enter Tryz.func125, Tryz.ntmps125
        go_wp2_with fail
        refine (runes_good s _ (by omega) HT.out HV.out.1).mono ?_
        rintro e w1 ⟨rfl, hb⟩
        have HB := Lib.hid hb
        have HA2 := Lib.hid (HA.out.below hb hG)
        have hG2 : 4 < w1.heap.size := Nat.lt_of_lt_of_le hG hb.size
        clear hb
        go_wp2_with fail
        refine (labelMayBe_any s _ hs HA2.out hG2).mono ?_
        rintro e w2 ⟨rfl, hb⟩
        rw [HV.out.2]
        have HB2 : Hid (Below w.heap.size w w2) := HB.out.trans (hb.mono HB.out.size)
        have HA3 := Lib.hid (HA2.out.below hb hG2)
        have hG3 : 4 < w2.heap.size := Nat.lt_of_lt_of_le hG2 hb.size
        clear hb
        have HT3 := Lib.hid (HTB.out w2 HB2.out)
        go_wp2_with fail
        refine (map_any s _ hs HA3.out hG3 HT3.out).mono ?_
        rintro e w3 ⟨rfl, hb⟩
        have HB4 : Hid (Below w.heap.size w w3) := HB2.out.trans (hb.mono HB2.out.size)
        clear hb
        go_wp2_with fail
        go_ret2
        exact ⟨rfl, HB4.out⟩
end Go.Proofs.YtemndmhdlgfajaaGreatDoor

namespace Go.Proofs.YtemndmhdlgfajaaGreatDoor
open Go.RowKit Go.Lib

/-- the three tables that the laws read hold what their texts lay -/
structure Ready (w : World) : Prop where
  a : AlphaAt w
  s : 4 < w.heap.size
  t : TabsAt w
theorem TabsAt.below {w W : World} (h : TabsAt w) (hs : 4 < w.heap.size) (hb : Below w.heap.size w W) : TabsAt W := by
  have h' : Lib.Utf8Tabs 2 3 w := h
  show Lib.Utf8Tabs 2 3 W
  exact ⟨fun c hc => (hb.cell (p := ⟨2, c, none⟩) (by show 2 < _; omega)).trans (h'.1 c hc),
    fun i hi => ⟨(hb.cell (p := ⟨3, 2 * i, none⟩) (by show 3 < _; omega)).trans (h'.2 i hi).1, (hb.cell (p := ⟨3, 2 * i + 1, none⟩) (by show 3 < _; omega)).trans (h'.2 i hi).2⟩⟩
theorem Ready.below {w W : World} (h : Ready w) (hb : Below w.heap.size w W) : Ready W := ⟨h.a.below hb h.s, Nat.lt_of_lt_of_le h.s hb.size, h.t.below h.s hb⟩

/-- Normal, at a world that is ready -/
theorem normal_at (s : ByteArray) (w : World) (hs : s.size ≤ 1099511627776) (h : Ready w) :
    Calls Tryz.prog 125 #[.string s] w fun e w' => e = .returned (.tuple #[.string ⟨(normalI s.data.toList).1.toArray⟩, .int .i64 (normalI s.data.toList).2]) ∧ Below w.heap.size w w' :=
  normal_any s w hs h.a h.s h.t (fun _ hb => h.t.below h.s hb)

def alice : List UInt8 := [65, 108, 105, 99, 101, 64, 69, 120, 97, 109, 112, 108, 101, 46, 111, 114, 103]
def alice' : List UInt8 := [97, 108, 105, 99, 101, 64, 101, 120, 97, 109, 112, 108, 101, 46, 111, 114, 103]
theorem sp1 : normalI alice = (alice', 0) := by kernel_rfl
theorem sp2 : normalI [206, 145, 206, 146, 45, 208, 182] = ([206, 177, 206, 178, 45, 208, 182], 0) := by kernel_rfl
theorem sp3 : normalI [97, 208, 182] = ([], 5) := by kernel_rfl

end Go.Proofs.YtemndmhdlgfajaaGreatDoor

namespace Go.Proofs.YtemndmhdlgfajaaGreatDoor
open Go.RowKit
attribute [local irreducible] shaL

theorem normal_alice : normalI [97, 108, 105, 99, 101] = ([97, 108, 105, 99, 101], 0) := by kernel_rfl
theorem policyCodes_below (l0 : ByteArray) (hl0 : l0.size ≤ maxLen) (v c : Int) (hv : 0 ≤ v ∧ v ≤ 4294967295) (hc : 0 ≤ c ∧ c ≤ 65535) (w : World) (hr : ShaReady w) (hn : Ready w) :
    Calls Tryz.prog 3 #[.string l0, .int .u32 v, .int .u16 c] w fun e w' => e = .returned (.bool true) ∧ Below w.heap.size w w' := by
  obtain ⟨v, rfl⟩ := Int.eq_ofNat_of_zero_le hv.1
  obtain ⟨c, rfl⟩ := Int.eq_ofNat_of_zero_le hc.1
  refine (policyCodes_walk l0 hl0 v (by omega) c (by omega) w hr (fun w' hr' q => ?_)).mono fun _ _ h => ⟨h.1, below_grownBy h.2⟩
  refine jlabel_own _ w' ((normal_at ⟨#[97, 108, 105, 99, 101]⟩ w' (by decide) (hn.below (below_grownBy q))).mono ?_)
  rintro e w'' ⟨rfl, hb⟩
  rw [show (⟨#[97, 108, 105, 99, 101]⟩ : ByteArray).data.toList = [97, 108, 105, 99, 101] from rfl, normal_alice]
  exact ⟨rfl, grownBy_below hb⟩
end Go.Proofs.YtemndmhdlgfajaaGreatDoor

namespace Go.Proofs.YtemndmhdlgfajaaGreatDoor
open Go.ChangeShapes Go.WideShapes Go.ChangeAt Go.RowKit Go.Lib Go.Shelf

section
variable {H : Type} {enc : TypeId × Value → H} {P : Program} {w : World} {base : Nat} {spare : Nat → Bool} {held : Bool}
theorem struct3_cells {t : TypeId} {f0 f1 f2 : Field} {k0 k1 k2 : IntKind} {fuel : Nat} {cs : List Value} {a b c : Int} {q : List MemPlace}
    (ht : P.underlying t = some (.struct #[f0, f1, f2])) (o0 : f0.offset = 0) (o1 : f1.offset = 1) (o2 : f2.offset = 2) (c0 : P.cellsOf f0.type = 1) (c1 : P.cellsOf f1.type = 1) (c2 : P.cellsOf f2.type = 1)
    (u0 : P.underlying f0.type = some (.int k0)) (u1 : P.underlying f1.type = some (.int k1)) (u2 : P.underlying f2.type = some (.int k2))
    (h : DataW.trod enc P w base spare held fuel t cs = some (.agg [.lit (.int k0 a), .lit (.int k1 b), .lit (.int k2 c)], q)) :
    cs[0]? = some (.int k0 a) ∧ cs[1]? = some (.int k1 b) ∧ cs[2]? = some (.int k2 c) := by
  obtain ⟨ys, n, hn, hy, hlen, hyl, hf⟩ := DataW.trod_struct ht h
  simp only [Prod.mk.injEq, DataW.agg.injEq] at hy
  obtain ⟨hy, -⟩ := hy
  have g0 := hf 0 f0 rfl
  have g1 := hf 1 f1 rfl
  have g2 := hf 2 f2 rfl
  rw [o0, c0] at g0
  rw [o1, c1] at g1
  rw [o2, c2] at g2
  match ys, hyl with
  | [y0, y1, y2], _ =>
    simp at hy
    obtain ⟨h0, h1, h2⟩ := hy
    obtain ⟨z0, e0, x0, _⟩ := DataW.trod_int u0 (g0.trans rfl)
    obtain ⟨z1, e1, x1, _⟩ := DataW.trod_int u1 (g1.trans rfl)
    obtain ⟨z2, e2, x2, _⟩ := DataW.trod_int u2 (g2.trans rfl)
    subst x0 x1 x2
    simp at h0 h1 h2
    subst h0 h1 h2
    have r0 := congrArg (fun l : List Value => l[0]?) e0
    have r1 := congrArg (fun l : List Value => l[0]?) e1
    have r2 := congrArg (fun l : List Value => l[0]?) e2
    simp at r0 r1 r2
    exact ⟨r0, r1, r2⟩
end

theorem nAlpha : Tryz.prog.globalNamed "plumbob/label.alphabets" = some 4 := by kernel_rfl
theorem yAlpha : (Tryz.prog.globals[4]?).map (·.type) = some 264 := by kernel_rfl
theorem cAlpha : Tryz.prog.cellsOf 263 = 3 := by kernel_rfl
theorem cInt : Tryz.prog.cellsOf 3 = 1 := by kernel_rfl
theorem cRune : Tryz.prog.cellsOf 21 = 1 := by kernel_rfl

theorem alpha_of_reads {w : World} (h : VarReads Tryz.prog w "plumbob/label.alphabets" Rows.laid_plumbob_label_alphabets) : AlphaAt w := by
  obtain ⟨g, t, cs, fuel, p, hg, hty, hvar, hd⟩ := h
  obtain rfl := Option.some.inj (nAlpha.symm.trans hg)
  obtain rfl := Option.some.inj (yAlpha.symm.trans hty)
  have row : ∀ (i : Nat) (a b c : Int), i < 3 → [DataW.agg [.lit (.int .i64 1), .lit (.int .i32 97), .lit (.int .i32 122)], .agg [.lit (.int .i64 2), .lit (.int .i32 945), .lit (.int .i32 969)], .agg [.lit (.int .i64 4), .lit (.int .i32 1072), .lit (.int .i32 1103)]][i]? = some (.agg [.lit (.int .i64 a), .lit (.int .i32 b), .lit (.int .i32 c)] : DataW Unit) →
      cs.toList[3 * i]? = some (.int .i64 a) ∧ cs.toList[3 * i + 1]? = some (.int .i32 b) ∧ cs.toList[3 * i + 2]? = some (.int .i32 c) := by
    intro i a b c hi hrow
    obtain ⟨fuel', d, q, hdi, he⟩ := array_elem Tryz.underlying264 hd i hi
    obtain rfl := Option.some.inj (hrow.symm.trans hdi)
    rw [cAlpha] at he
    have := struct3_cells Tryz.underlying263 rfl rfl rfl cInt cRune cRune Tryz.underlying3 Tryz.underlying21 Tryz.underlying21 he
    simp only [List.getElem?_take, List.getElem?_drop] at this
    simpa [Nat.mul_comm] using this
  intro k v hk
  rw [World.var?_cell nAlpha hvar k, ← Array.getElem?_toList]
  have r0 := row 0 1 97 122 (by decide) rfl
  have r1 := row 1 2 945 969 (by decide) rfl
  have r2 := row 2 4 1072 1103 (by decide) rfl
  match k, hk with
  | 0, hk => cases hk; exact r0.1
  | 1, hk => cases hk; exact r0.2.1
  | 2, hk => cases hk; exact r0.2.2
  | 3, hk => cases hk; exact r1.1
  | 4, hk => cases hk; exact r1.2.1
  | 5, hk => cases hk; exact r1.2.2
  | 6, hk => cases hk; exact r2.1
  | 7, hk => cases hk; exact r2.2.1
  | 8, hk => cases hk; exact r2.2.2
  | k + 9, hk => simp [alphaCells] at hk

theorem first_is : Rows.laid_unicode_utf8_first = Lib.firstData := by kernel_rfl
theorem accept_is : Rows.laid_unicode_utf8_acceptRanges = Lib.acceptData := by kernel_rfl
end Go.Proofs.YtemndmhdlgfajaaGreatDoor
