/- The walks of label.Runes and label.Alphabets. -/
import Derived.Test.YtgolffjiepcbpaaDoorLabelInt
import Derived.Test.YtgolffjiepcbpaaDoorLabelSpec
import Derived.Test.YtgolffjiepcbpaaDoorLay
import Derived.Laws.RangeAny
import Derived.Lib.OthersKept
import Derived.Deep.LoopGhost
namespace Go.Proofs.YtgolffjiepcbpaaDoor
open Go.RowKit Go.Lib

/-- unicode/utf8's two tables -/
abbrev TabsAt (w : World) : Prop := Lib.Utf8Tabs (Tryd.laysValid_ren.g 3) (Tryd.laysValid_ren.g 4) w

set_option maxRecDepth 100000 in
set_option maxHeartbeats 1000000 in
theorem runes_bad (s : ByteArray) (w : World) (hs : s.size ≤ 4611686018427387904) (hT : TabsAt w) (hv : validD s.data.toList = false) :
    Calls Tryd.prog 12 #[.string s] w fun e w' => e = .returned (.tuple #[.int .i64 0, .bool false]) ∧ Below w.heap.size w w' := by
  have HT := Lib.hid hT
  have HV := Lib.hid hv
  clear hT hv
  go_enter Tryd.func12, Tryd.ntmps12
  go_wp2_with fail
  refine (Tryd.utf8_ValidString s _ (by omega) HT.out).mono ?_
  rintro e w1 ⟨rfl, hb⟩
  rw [HV.out]
  have HB := Lib.hid hb
  clear hb
  go_wp2
  go_ret2
  exact ⟨rfl, HB.out⟩

theorem pos_step (s : ByteArray) (pos : Nat) (h : pos < s.size) : 1 ≤ (Utf8.decode s pos).2 ∧ pos + (Utf8.decode s pos).2 ≤ s.size ∧ runes (s.data.toList.drop pos) = (Utf8.decode s pos).1 :: runes (s.data.toList.drop (pos + (Utf8.decode s pos).2)) := by
  have hne : s.data.toList.drop pos ≠ [] := by
    intro e
    have : (s.data.toList.drop pos).length = 0 := by rw [e]; rfl
    rw [List.length_drop] at this
    have h2 : s.data.toList.length = s.size := rfl
    omega
  have hd := decodeL_drop s pos
  have h1 := decodeL_width (s.data.toList.drop pos)
  have h2 := decodeL_le _ hne
  have h3 := runes_step _ hne
  rw [hd] at h1 h2 h3
  rw [List.length_drop] at h2
  have h4 : s.data.toList.length = s.size := rfl
  refine ⟨h1, by omega, ?_⟩
  rw [h3, List.drop_drop]

set_option maxRecDepth 100000 in
set_option maxHeartbeats 1000000 in
theorem runes_good (s : ByteArray) (w : World) (hs : s.size ≤ 4611686018427387904) (hT : TabsAt w) (hv : validD s.data.toList = true) :
    Calls Tryd.prog 12 #[.string s] w fun e w' => e = .returned (.tuple #[.int .i64 (runes s.data.toList).length, .bool true]) ∧ Below w.heap.size w w' := by
  have HT := Lib.hid hT
  have HV := Lib.hid hv
  clear hT hv
  go_enter Tryd.func12, Tryd.ntmps12
  go_wp2_with fail
  refine (Tryd.utf8_ValidString s _ (by omega) HT.out).mono ?_
  rintro e w1 ⟨rfl, hb⟩
  rw [HV.out]
  have HB := Lib.hid hb
  clear hb
  go_wp2_with fail
  go_loopw [4] (fun v wr => ∃ pos n : Nat, pos ≤ s.size ∧ n ≤ pos ∧ v = .int .i64 n ∧ Hid (n + (runes (s.data.toList.drop pos)).length = (runes s.data.toList).length) ∧ wr = w1.iter s pos) (fun _ wr => s.size - wr.iterPos w1.heap.size)
  case atStart => exact ⟨0, 0, Nat.zero_le _, Nat.le_refl _, rfl, by simp [Hid], rfl⟩
  case round =>
    obtain ⟨pos, n, hp, hn, rfl, HL, rfl⟩ := hrel
    by_cases hlt : pos < s.size
    · have hnx := fun ty => run_next_any (P := Tryd.prog) w1 s pos ty hlt
      obtain ⟨k1, k2, k3⟩ := pos_step s pos hlt
      have HS := Lib.hid (And.intro k1 (And.intro k2 k3))
      clear k1 k2 k3
      go_wp2
      go_roundw
      case rel =>
        refine ⟨pos + (Utf8.decode s pos).2, n + 1, HS.out.2.1, by have := HS.out.1; omega, by go_num, ?_, rfl⟩
        have := HL.out
        rw [HS.out.2.2, List.length_cons] at this
        show _ = _
        omega
      case measure =>
        have := HS.out.1
        simp
        omega
    · have hnx := fun ty => run_next_end (P := Tryd.prog) w1 s pos ty hlt
      go_wp2
      go_ret2
      have hd : s.data.toList.drop pos = [] := List.drop_eq_nil_of_le (by show s.size ≤ pos; omega)
      have := HL.out
      rw [hd, runes_nil] at this
      simp only [List.length_nil, Nat.add_zero] at this
      refine ⟨?_, (HB.out.alloc HB.out.size _ : Below _ _ (w1.iter s pos))⟩
      rw [← this]
      rfl

/-- the alphabets of some runes, one behind the other -/
def alphOf (a : Int) (l : List Nat) : Int := l.foldl (fun (a : Int) (r : Nat) => bits .or .i64 a (letterI (r : Int))) a

set_option maxRecDepth 100000 in
set_option maxHeartbeats 1000000 in
theorem alphabets_any (s : ByteArray) (w : World) (hs : s.size ≤ 4611686018427387904) (hA : AlphaAt w) (hG : 2 < w.heap.size) :
    Calls Tryd.prog 15 #[.string s] w fun e w' => e = .returned (.int .i64 (alphOf 0 (runes s.data.toList))) ∧ Below w.heap.size w w' := by
  have HA := Lib.hid hA
  clear hA
  go_enter Tryd.func15, Tryd.ntmps15
  go_wp2_with fail
  go_loopg [3, 5] s.size (fun g v _ wr => ∃ pos : Nat, ∃ a : Int, pos + g ≥ s.size ∧ pos ≤ s.size ∧ v = .int .i64 a ∧ Aside (alphOf a (runes (s.data.toList.drop pos)) = alphOf 0 (runes s.data.toList)) ∧ Hid (wr.heap[w.heap.size]? = some (.stringIter s pos)) ∧ Hid (Below w.heap.size w wr))
  case atStart => exact ⟨0, 0, by omega, Nat.zero_le _, rfl, by simp [Aside], w.iter_heap s 0, (Below.refl _ _).alloc (Nat.le_refl _) _⟩
  case round =>
    obtain ⟨pos, a, hg, hp, rfl, HL, HI, HB⟩ := hrel
    by_cases hlt : pos < s.size
    · have hnx := fun ty => run_next_any_at (P := Tryd.prog) wr w.heap.size s pos ty HI.out hlt
      obtain ⟨k1, k2, k3⟩ := pos_step s pos hlt
      have HS := Lib.hid (And.intro k1 (And.intro k2 k3))
      have hr : ((Utf8.decode s pos).1 : Int) ≤ 1114111 := by
        have := decodeL_rune (s.data.toList.drop pos)
        rw [decodeL_drop] at this
        omega
      clear k1 k2 k3
      have HB2 := Lib.hid (below_iterAt HB.out (Nat.le_refl _) s (pos + (Utf8.decode s pos).2))
      have HI2 := Lib.hid (iterAt_heap wr w.heap.size s pos (pos + (Utf8.decode s pos).2) HI.out)
      go_wp2_with fail
      refine (alphabetOf_any _ ⟨by omega, by omega⟩ _ (HA.out.below HB2.out hG) (Nat.lt_of_lt_of_le hG HB2.out.size)).mono ?_
      rintro e w2 ⟨rfl, hb2⟩
      have HB3 : Hid (Below w.heap.size w w2) := HB2.out.trans (hb2.mono HB2.out.size)
      have HI3 : Hid (w2.heap[w.heap.size]? = some (.stringIter s (pos + (Utf8.decode s pos).2))) := (hb2.block _ (Array.getElem?_eq_some_iff.1 HI2.out).1).trans HI2.out
      clear hb2 hnx
      go_wp2_with fail
      go_roundg (gk - 1)
      case measure => omega
      case rel =>
        refine ⟨pos + (Utf8.decode s pos).2, _, by have := HS.out.1; omega, HS.out.2.1, rfl, ?_, HI3, HB3⟩
        have := HL.out
        rw [HS.out.2.2] at this
        exact this
    · have hnx := fun ty => run_next_end_at (P := Tryd.prog) wr w.heap.size s pos ty HI.out hlt
      go_wp2
      go_ret
      have hd : s.data.toList.drop pos = [] := List.drop_eq_nil_of_le (by show s.size ≤ pos; omega)
      have := HL.out
      rw [hd, runes_nil] at this
      refine ⟨?_, HB.out⟩
      rw [← this]
      rfl
end Go.Proofs.YtgolffjiepcbpaaDoor
