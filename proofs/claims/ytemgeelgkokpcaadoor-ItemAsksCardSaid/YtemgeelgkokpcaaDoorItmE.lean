/- The walk of item.Encode. -/
import Derived.Test.YtemgeelgkokpcaaDoorItmW
namespace Go.Proofs.YtemgeelgkokpcaaDoor
open Go.RowKit

def encE (t : Tr) : Int := if 8 < depT t then 1 else errT t
def encB (t : Tr) : ByteArray := if encE t = 0 then str (encT t) else ⟨#[]⟩
theorem wrok_new (w : World) (b : Nat) (hb : w.heap.size = b) : WrOk (w.alloc (.cells #[.pointer none, .int .i64 0, .int .i64 0] 67)) b [] := by
  refine ⟨[], ⟨.pointer none, heap_alloc_at _ _ _ hb, rfl⟩, rfl⟩
set_option maxRecDepth 100000 in
set_option maxHeartbeats 1600000 in
theorem iencode_any {P : Nat → Prop} (v : Value) (t : Tr) (w : World) (h : ItemAt w P v t) (hok : okT t) (hl : (encT t).length ≤ 1000000000) (hd : depT t ≤ 1000000) :
    Calls Tryd.prog 10 #[v] w fun e w' => e = .returned (.tuple #[.string (encB t), .int .i64 (encE t)]) ∧ w.grownBy w' none := by
  have HD := Lib.hid (depthOf_any v t w h)
  by_cases h8 : 8 < depT t
  · have e1 : encE t = 1 := by unfold encE; rw [if_pos h8]
    have e2 : encB t = ⟨#[]⟩ := by unfold encB; rw [if_neg (by rw [e1]; decide)]
    rw [e1, e2]
    have q1 : (8 : Int) < (depT t : Int) := by omega
    generalize depT t = D at *
    clear h hok hl h8 e1 e2
    go_enter Tryd.func10, Tryd.ntmps10
    go_wp2_with fail
    refine HD.out.mono ?_
    rintro e w1 ⟨rfl, rfl⟩
    go_wp2_with fail
    go_returns
    exact ⟨rfl, World.grownBy.refl _ _⟩
  · have e1 : encE t = errT t := by unfold encE; rw [if_neg h8]
    have q1 : ¬ (8 : Int) < (depT t : Int) := by omega
    obtain ⟨b, hb⟩ : ∃ b, w.heap.size = b := ⟨_, rfl⟩
    have hg0 := World.grownBy_alloc w (.cells #[.pointer none, .int .i64 0, .int .i64 0] 67) none
    have hw0 := wrok_new w b hb
    obtain ⟨W0, hW0⟩ : ∃ W0, w.alloc (.cells #[.pointer none, .int .i64 0, .int .i64 0] 67) = W0 := ⟨_, rfl⟩
    rw [hW0] at hg0 hw0
    have h0 : ItemAt W0 (fun i => P i ∧ i < w.heap.size) v t := (h.mono (fun i p q => ⟨p, q⟩)).grown hg0
    have HWR := Lib.hid (write_any (cntT t) t (Nat.le_refl _) hok _ v W0 b [] h0 (fun q => by have := q.2; omega) hw0 (by simpa using hl))
    have HW := Lib.hid (And.intro hW0 (And.intro hb hg0))
    have HEB : Hid (encB t = if errT t = 0 then str (encT t) else ⟨#[]⟩) := Lib.hid (by unfold encB; rw [e1])
    have HLE := Lib.hid hl
    rw [e1]
    obtain ⟨ER, hER⟩ : ∃ ER, errT t = ER := ⟨_, rfl⟩
    rw [hER] at HWR HEB ⊢
    obtain ⟨D, hD⟩ : ∃ D, depT t = D := ⟨_, rfl⟩
    rw [hD] at HD q1
    obtain ⟨EB, hEB⟩ : ∃ EB, encB t = EB := ⟨_, rfl⟩
    rw [hEB] at HEB ⊢
    clear h hok hl h8 e1 hb hg0 hw0 hW0 h0 hER hD hd hEB
    by_cases he : ER = 0
    · have q2 : (ER != 0) = false := by simp [he]
      have HER := Lib.hid he
      clear he
      go_enter Tryd.func10, Tryd.ntmps10
      go_wp2_with fail
      refine HD.out.mono ?_
      rintro e w1 ⟨rfl, rfl⟩
      go_wp2_with (first | rw [HW.out.1, HW.out.2.1] | rw [HW.out.1])
      refine HWR.out.mono ?_
      rintro e w2 ⟨rfl, h2, g2⟩
      obtain ⟨ts, h3, hfl⟩ := h2 HER.out
      have hg2 : w.grownBy w2 none := ⟨g2.os.trans HW.out.2.2.os, g2.tape.trans HW.out.2.2.tape, g2.output.trans HW.out.2.2.output, Nat.le_trans HW.out.2.2.size g2.size, fun i hi _ => (g2.block i (Nat.lt_of_lt_of_le hi HW.out.2.2.size) (fun e => by have := Option.some.inj e; have := HW.out.2.1; omega)).trans (HW.out.2.2.block i hi (by simp))⟩
      rw [List.nil_append] at hfl
      have htot : total ts ≤ 281474976710656 := by rw [← flat_length, hfl]; have := HLE.out; omega
      have HB := Lib.hid (bytes_ok w2 b ts h3 htot)
      rw [hfl] at HB
      have HG2 := Lib.hid hg2
      clear h2 g2 h3 hfl hg2 htot
      go_wp2_with fail
      refine HB.out.mono ?_
      rintro e w3 ⟨rfl, g3⟩
      have HG3 := Lib.hid (grownBy_trans HG2.out g3)
      clear g3
      go_wp2_with fail
      go_returns
      refine ⟨?_, HG3.out⟩
      rw [HEB.out, if_pos HER.out, HER.out]
      rfl
    · have q2 : (ER != 0) = true := by simp [he]
      have HER := Lib.hid he
      clear he
      go_enter Tryd.func10, Tryd.ntmps10
      go_wp2_with fail
      refine HD.out.mono ?_
      rintro e w1 ⟨rfl, rfl⟩
      go_wp2_with (first | rw [HW.out.1, HW.out.2.1] | rw [HW.out.1])
      refine HWR.out.mono ?_
      rintro e w2 ⟨rfl, h2, g2⟩
      have hg2 : w.grownBy w2 none := ⟨g2.os.trans HW.out.2.2.os, g2.tape.trans HW.out.2.2.tape, g2.output.trans HW.out.2.2.output, Nat.le_trans HW.out.2.2.size g2.size, fun i hi _ => (g2.block i (Nat.lt_of_lt_of_le hi HW.out.2.2.size) (fun e => by have := Option.some.inj e; have := HW.out.2.1; omega)).trans (HW.out.2.2.block i hi (by simp))⟩
      have HG2 := Lib.hid hg2
      clear h2 g2 hg2
      go_wp2_with fail
      go_returns
      refine ⟨?_, HG2.out⟩
      rw [HEB.out, if_neg HER.out]
      rfl
set_option maxRecDepth 100000 in
set_option maxHeartbeats 1600000 in
theorem iencode_nil (w : World) :
    Calls Tryd.prog 10 #[.nilIface] w fun e w' => e = .returned (.tuple #[.string ⟨#[]⟩, .int .i64 6]) ∧ w.grownBy w' none := by
  have hd : ∀ w : World, Calls Tryd.prog 24 #[.nilIface] w fun e w' => e = .returned (.int .i64 1) ∧ w = w' := by
    intro w
    go_enter Tryd.func24, Tryd.ntmps24
    go_wp2_with fail
    go_ret
    exact ⟨rfl, rfl⟩
  have hw : ∀ (p : Option Addr) (w : World), Calls Tryd.prog 25 #[.pointer p, .nilIface] w fun e w' => e = .returned (.int .i64 6) ∧ w = w' := by
    intro p w
    go_enter Tryd.func25, Tryd.ntmps25
    go_wp2_with fail
    go_ret
    exact ⟨rfl, rfl⟩
  have HD := Lib.hid hd
  have HWR := Lib.hid hw
  have HG := Lib.hid (World.grownBy_alloc w (.cells #[.pointer none, .int .i64 0, .int .i64 0] 67) none)
  clear hd hw
  go_enter Tryd.func10, Tryd.ntmps10
  go_wp2_with fail
  refine (HD.out _).mono ?_
  rintro e w1 ⟨rfl, rfl⟩
  go_wp2_with fail
  refine (HWR.out _ _).mono ?_
  rintro e w1 ⟨rfl, rfl⟩
  go_wp2_with fail
  go_returns
  exact ⟨rfl, HG.out⟩
end Go.Proofs.YtemgeelgkokpcaaDoor
