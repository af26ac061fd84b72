/- The walk of the label laws' speaks. -/
import Derived.Test.YtgolffjiepcbpaaDoorLabelNormal
namespace Go.Proofs.YtgolffjiepcbpaaDoor
open Go.RowKit Go.Lib

/-- the three tables that the laws read hold what their texts lay -/
structure Ready (w : World) : Prop where
  a : AlphaAt w
  s : 2 < w.heap.size
  t : TabsAt w
theorem TabsAt.below {w W : World} (h : TabsAt w) (hs : 2 < w.heap.size) (hb : Below w.heap.size w W) : TabsAt W := by
  have h' : Lib.Utf8Tabs 0 1 w := h
  show Lib.Utf8Tabs 0 1 W
  exact ⟨fun c hc => (hb.cell (p := ⟨0, c, none⟩) (by show 0 < _; omega)).trans (h'.1 c hc),
    fun i hi => ⟨(hb.cell (p := ⟨1, 2 * i, none⟩) (by show 1 < _; omega)).trans (h'.2 i hi).1, (hb.cell (p := ⟨1, 2 * i + 1, none⟩) (by show 1 < _; omega)).trans (h'.2 i hi).2⟩⟩
theorem Ready.below {w W : World} (h : Ready w) (hb : Below w.heap.size w W) : Ready W := ⟨h.a.below hb h.s, Nat.lt_of_lt_of_le h.s hb.size, h.t.below h.s hb⟩

/-- Normal, at a world that is ready -/
theorem normal_at (s : ByteArray) (w : World) (hs : s.size ≤ 1099511627776) (h : Ready w) :
    Calls Tryd.prog 8 #[.string s] w fun e w' => e = .returned (.tuple #[.string ⟨(normalI s.data.toList).1.toArray⟩, .int .i64 (normalI s.data.toList).2]) ∧ Below w.heap.size w w' :=
  normal_any s w hs h.a h.s h.t (fun _ hb => h.t.below h.s hb)

def alice : List UInt8 := [65, 108, 105, 99, 101, 64, 69, 120, 97, 109, 112, 108, 101, 46, 111, 114, 103]
def alice' : List UInt8 := [97, 108, 105, 99, 101, 64, 101, 120, 97, 109, 112, 108, 101, 46, 111, 114, 103]
theorem sp1 : normalI alice = (alice', 0) := by kernel_rfl
theorem sp2 : normalI [206, 145, 206, 146, 45, 208, 182] = ([206, 177, 206, 178, 45, 208, 182], 0) := by kernel_rfl
theorem sp3 : normalI [97, 208, 182] = ([], 5) := by kernel_rfl

set_option maxRecDepth 100000 in
set_option maxHeartbeats 1000000 in
theorem label_speaks (w : World) (h : Ready w) : Calls Tryd.prog 7 #[] w fun e w' => e = .returned (.bool true) ∧ Below w.heap.size w w' := by
  have H := Lib.hid h
  clear h
  go_enter Tryd.func7, Tryd.ntmps7
  go_wp2_with fail
  refine (normal_at ⟨alice.toArray⟩ _ (by decide) H.out).mono ?_
  rintro e w1 ⟨rfl, hb⟩
  rw [show (⟨alice.toArray⟩ : ByteArray).data.toList = alice from rfl, sp1]
  have HB := Lib.hid hb
  have H1 := Lib.hid (H.out.below hb)
  clear hb
  go_wp2_with fail
  refine (normal_at ⟨#[206, 145, 206, 146, 45, 208, 182]⟩ _ (by decide) H1.out).mono ?_
  rintro e w2 ⟨rfl, hb⟩
  rw [show (⟨#[206, 145, 206, 146, 45, 208, 182]⟩ : ByteArray).data.toList = [206, 145, 206, 146, 45, 208, 182] from rfl, sp2]
  have HB2 : Hid (Below w.heap.size w w2) := HB.out.trans (hb.mono HB.out.size)
  have H2 := Lib.hid (H1.out.below hb)
  clear hb
  go_wp2_with fail
  refine (normal_at ⟨#[97, 208, 182]⟩ _ (by decide) H2.out).mono ?_
  rintro e w3 ⟨rfl, hb⟩
  rw [show (⟨#[97, 208, 182]⟩ : ByteArray).data.toList = [97, 208, 182] from rfl, sp3]
  have HB3 : Hid (Below w.heap.size w w3) := HB2.out.trans (hb.mono HB2.out.size)
  clear hb
  go_wp2
  go_ret
  exact ⟨rfl, HB3.out⟩
end Go.Proofs.YtgolffjiepcbpaaDoor
