/- The walk of the laws' speaks. -/
import Derived.Test.YteabmmockdjhaaaDigRef
import Derived.Test.YteabmmockdjhaaaBytes
namespace Go.Proofs.Yteabmmockdjhaaa
open Go.RowKit

theorem noughts : digs (str [0,0,0,0,0,0,0,0,0,0,0,0,0,0,0,0]).data.toList = [0,0,0,0,0,0,0,0,0,0,0,0,0,0,0,0,0,0,0,0,0,0,0,0,0,0,0,0,0,0,0,0,1,14,0] := by decide
theorem IntsAt.at_ {w : World} {a : Option Addr} {n cap : Nat} {L : List Int} (h : IntsAt w (.slice a n cap) L) (i : Nat) (x : Int) (hx : L[i]? = some x) : ∃ g o, a = some ⟨g, o, none⟩ ∧ w.cell? ⟨g, o + i, none⟩ = some (.int .i64 x) := by
  obtain ⟨a', cap', he, hc⟩ := h
  cases he
  obtain ⟨hi, rfl⟩ := List.getElem?_eq_some_iff.1 hx
  exact hc i hi
theorem IntsAt.form {w : World} {v : Value} {L : List Int} (h : IntsAt w v L) : ∃ a cap, v = .slice a L.length cap := by
  obtain ⟨a, cap, rfl, _⟩ := h
  exact ⟨a, cap, rfl⟩

set_option maxRecDepth 100000 in
set_option maxHeartbeats 800000 in
theorem dig_speaks (w : World) : Calls Try.prog 6 #[] w fun e w' => e = .returned (.bool true) ∧ Below w.heap.size w w' := by
  obtain ⟨i0, hi, hz0, hz1, hz2⟩ := info_parts infoB
  go_enter Try.func6, Try.ntmps6
  go_wp2_with (at_make; refine wpList_make_full _ rfl _ _ 31 rfl w.heap.size 5 i0 (.int .u8 0) 1 Try.underlying31 hi hz0 hz1 _ _ _ _ 16 rfl rfl rfl rfl ?c1 ?c2 ?c3 ?_)
  case c1 => rw [hz2]; omega
  case c2 => unfold maxLen; omega
  case c3 => omega
  intro w1 hown hg
  have hm : (madeCells #[Value.int .u8 0] 16).toList = bytesV [0,0,0,0,0,0,0,0,0,0,0,0,0,0,0,0] := made_bytes 16
  rw [hm] at hown
  clear hm
  have hs := own_str hown
  have G1 := Lib.hid hg
  clear hg hown
  go_wp2_with fail
  refine (of_ok _ rfl _).mono ?_
  rintro e w2 ⟨v, rfl, h2, g2⟩
  rw [noughts] at h2
  obtain ⟨a, cap, rfl⟩ := h2.form
  obtain ⟨g, o, rfl, c32⟩ := h2.at_ 32 1 rfl
  obtain ⟨g', o', he, c33⟩ := h2.at_ 33 14 rfl
  obtain ⟨g'', o'', he', c34⟩ := h2.at_ 34 0 rfl
  cases he
  cases he'
  have G2 := Lib.hid (grownBy_trans G1.out g2)
  clear h2 g2 hs G1
  go_wp2_with fail
  go_ret
  exact ⟨rfl, below_grownBy G2.out⟩
end Go.Proofs.Yteabmmockdjhaaa
