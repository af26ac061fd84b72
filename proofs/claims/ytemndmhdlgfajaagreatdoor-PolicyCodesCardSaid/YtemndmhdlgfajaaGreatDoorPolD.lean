/- The walk of policy's Message. -/
import Derived.Test.YtemndmhdlgfajaaGreatDoorEntA
import Derived.Test.YtemndmhdlgfajaaGreatDoorPolicyCodesB2
import Derived.Handy
import Derived.Deep.DeepCutAuto
namespace Go.Proofs.YtemndmhdlgfajaaGreatDoor
open Go.RowKit
attribute [local irreducible] shaL

/-- what is signed -/
def msgS (l : ByteArray) (x : EntS) : ByteArray := if x.err = 0 then tagS 13 [l, str x.bytes] else ⟨#[]⟩
theorem msgS_size (l : ByteArray) (x : EntS) : (msgS l x).size ≤ 16 := by
  unfold msgS
  split
  · rw [tagS_size]; exact Nat.le_refl _
  · exact Nat.zero_le _
set_option maxRecDepth 100000 in
set_option maxHeartbeats 1600000 in
theorem message_any (l : ByteArray) (x : EntS) (hl0 : l.size ≤ 1000000000) (hx : x.small) (w : World) (hr : ShaReady w) :
    Calls Tryz.prog 9 #[.string l, x.val] w fun e w' => e = .returned (.string (msgS l x)) ∧ w.grownBy w' none := by
  have HEN := Lib.hid (fun w' => eencode_any x hx w')
  have hb0 := heap_alloc_at w (.cells #[.int .u64 x.v, .string x.o, .string x.r, .int .i64 x.h, .string x.p] 34) _ rfl
  have hg0 : w.grownBy (w.alloc (.cells #[.int .u64 x.v, .string x.o, .string x.r, .int .i64 x.h, .string x.p] 34)) none := World.grownBy_alloc _ _ _
  obtain ⟨W0, hW0⟩ : ∃ W0, w.alloc (.cells #[.int .u64 x.v, .string x.o, .string x.r, .int .i64 x.h, .string x.p] 34) = W0 := ⟨_, rfl⟩
  rw [hW0] at hb0 hg0
  obtain ⟨x0, x1, x2, x3, x4⟩ := cells5 hb0
  have HG0 := Lib.hid hg0
  have HW0 := Lib.hid hW0
  have HR := Lib.hid hr
  have HL0 := Lib.hid hl0
  clear hb0 hg0 hW0 hr hl0
  unfold EntS.val at HEN ⊢
  by_cases he : x.err = 0
  · have h1 : x.enc = str x.bytes := by unfold EntS.enc; rw [if_pos he]
    have h2 : msgS l x = tagS 13 [l, str x.bytes] := by unfold msgS; rw [if_pos he]
    have hl : (str x.bytes).size ≤ 53 := by rw [str_size, EntS.len he]; exact Nat.le_refl _
    rw [h1, he] at HEN
    rw [h2]
    generalize str x.bytes = z at HEN hl ⊢
    have HL := Lib.hid hl
    clear h1 h2 he hl hx
    go_enter Tryz.func9, Tryz.ntmps9
    go_wp2_with (rw [HW0.out])
    refine (HEN.out _).mono ?_
    rintro e w1 ⟨rfl, g1⟩
    have HG1 := Lib.hid (grownBy_trans HG0.out g1)
    clear g1 x0 x1 x2 x3 x4
    have HT := Lib.hid (tagged_new w1 13 [l, z] [.string l, .string z] 2 13 rfl rfl rfl (HR.out.grown HG1.out) (by simp) (by
      intro s hs
      have := HL.out
      have := HL0.out
      simp at hs
      rcases hs with rfl | rfl <;> omega))
    go_wp2_with fail
    refine HT.out.mono ?_
    rintro e w2 ⟨rfl, g2⟩
    have HG2 := Lib.hid (grownBy_trans HG1.out g2)
    clear g2
    go_wp2_with fail
    go_ret
    exact ⟨rfl, HG2.out⟩
  · have h1 : x.enc = ⟨#[]⟩ := by unfold EntS.enc; rw [if_neg he]
    have h2 : msgS l x = ⟨#[]⟩ := by unfold msgS; rw [if_neg he]
    rw [h1] at HEN
    rw [h2]
    generalize x.err = z at HEN he
    have hz : (z != 0) = true := by simp [he]
    have hz2 : (z == 0) = false := by simp [he]
    clear h1 h2 he hx
    go_enter Tryz.func9, Tryz.ntmps9
    go_wp2_with (rw [HW0.out])
    refine (HEN.out _).mono ?_
    rintro e w1 ⟨rfl, g1⟩
    have HG1 := Lib.hid (grownBy_trans HG0.out g1)
    clear g1 x0 x1 x2 x3 x4
    go_wp2_with fail
    go_ret
    exact ⟨rfl, HG1.out⟩
end Go.Proofs.YtemndmhdlgfajaaGreatDoor
