/- judgeLabel of a label that is its own normal form; and what layer 18's speaks asks of two entries. -/
import Derived.Test.YtemndmhdlgfajaaGreatDoorPolD
import Derived.Test.YtemndmhdlgfajaaGreatDoorPolicyCodesB4
import Derived.Handy
import Derived.Deep.DeepCutAuto
namespace Go.Proofs.YtemndmhdlgfajaaGreatDoor
open Go.RowKit
attribute [local irreducible] shaL

set_option maxHeartbeats 800000 in
theorem jlabel_own (l : ByteArray) (w : World) (hN : Calls Tryz.prog 125 #[.string l] w fun e w'' => e = .returned (.tuple #[.string l, .int .i64 0]) ∧ w.grownBy w'' none) :
    Calls Tryz.prog 76 #[.string l] w fun e w' => e = .returned (.int .i64 0) ∧ w.grownBy w' none := by
  have HN := Lib.hid hN
  have q1 : (l.toList == l.toList) = true := by simp
  have q2 : (l.toList != l.toList) = false := by rw [bne, q1]; rfl
  clear hN
  go_enter Tryz.func76, Tryz.ntmps76
  go_wp2_with fail
  refine HN.out.mono ?_
  rintro e w1 ⟨rfl, g1⟩
  have G1 := Lib.hid g1
  clear g1
  go_wp2_with fail
  go_ret
  exact ⟨rfl, G1.out⟩

/-! a key's first entry, and its second one -/
def ent1 (o r : ByteArray) (h : Int) : EntS := ⟨1, o, r, h, noughtsS⟩
def ent2 (o r : ByteArray) (h : Int) : EntS := ⟨2, o, r, h, (ent1 o r h).value⟩
theorem noughts_16 : noughtsS.size = 16 := rfl
theorem ent_ok (v : Nat) {o r p : ByteArray} {h : Int} (hv : 1 ≤ v ∧ v ≤ 4294967295) (ho : o.size = 16) (hr : r.size = 16) (hp : p.size = 16) (hh : 0 ≤ h ∧ h ≤ 6) : (⟨v, o, r, h, p⟩ : EntS).err = 0 :=
  EntS.of_fit ⟨hv, ⟨hh, ho, hr⟩, hp⟩
theorem ent1_ok {o r : ByteArray} {h : Int} (ho : o.size = 16) (hr : r.size = 16) (hh : 0 ≤ h ∧ h ≤ 6) : (ent1 o r h).err = 0 := ent_ok 1 ⟨by decide, by decide⟩ ho hr noughts_16 hh
theorem ent2_ok {o r : ByteArray} {h : Int} (ho : o.size = 16) (hr : r.size = 16) (hh : 0 ≤ h ∧ h ≤ 6) : (ent2 o r h).err = 0 := ent_ok 2 ⟨by decide, by decide⟩ ho hr (EntS.value_size (ent1_ok ho hr hh)) hh
theorem hist1 (o r : ByteArray) (h : Int) : histE [ent1 o r h] = 0 := by
  show (if (ent1 o r h).v ≠ 1 then (13 : Int) else if (ent1 o r h).p ≠ noughtsS then 15 else chainE [ent1 o r h]) = 0
  rw [if_neg (by simp [ent1]), if_neg (by simp [ent1])]
  rfl
theorem hist2 (o r : ByteArray) (h : Int) : histE [ent2 o r h] = 13 := by
  show (if (ent2 o r h).v ≠ 1 then (13 : Int) else if (ent2 o r h).p ≠ noughtsS then 15 else chainE [ent2 o r h]) = 13
  rw [if_pos (by simp [ent2])]
theorem next12 {o r : ByteArray} {h : Int} (ho : o.size = 16) (hr : r.size = 16) (hh : 0 ≤ h ∧ h ≤ 6) : (ent1 o r h).next (ent2 o r h) = 0 := by
  unfold EntS.next
  rw [if_neg (by simp [ent1, ent2]), if_neg (by
    rw [ent1_ok ho hr hh]
    simp [ent2])]
end Go.Proofs.YtemndmhdlgfajaaGreatDoor
