/- The walk of the law's speaks. -/
import Derived.Test.YtgolffjiepcbpaaOctetB
import Derived.Test.YtgolffjiepcbpaaOctetR
namespace Go.Proofs.Ytgolffjiepcbpaa
open Go.RowKit

/-- what a call with a Writer of the caller's own leaves, seen from ahead of it -/
theorem below_row {B : Nat} {a b c : World} {p : Option Addr} (h : Below B a b) (hg : b.grownBy c (prow p)) (hB : B ≤ b.heap.size) (hp : ∀ x, p = some x → B ≤ x.block) : Below B a c := by
  refine h.grown hg hB ?_
  intro k e
  cases p with
  | none => cases e
  | some x => cases e; exact hp x rfl

theorem ok_num : (⟨[], 0⟩ : WSt).num 258 2 = ⟨[str [1, 2]], 0⟩ := by kernel_rfl
theorem ok_text : (⟨[str [1, 2]], 0⟩ : WSt).text (str [97]) = ⟨[str [97], str [0, 1], str [1, 2]], 0⟩ := by kernel_rfl
theorem ok_flat : str (flat [str [97], str [0, 1], str [1, 2]]) = ⟨#[1, 2, 0, 1, 97]⟩ := by decide
theorem ok_rnum : (⟨⟨#[1, 2, 0, 1, 97]⟩, 0⟩ : RSt).num 2 = (258, ⟨⟨#[0, 1, 97]⟩, 0⟩) := by kernel_rfl
theorem ok_rtext : (⟨⟨#[0, 1, 97]⟩, 0⟩ : RSt).text = (⟨#[97]⟩, ⟨⟨#[]⟩, 0⟩) := by kernel_rfl
theorem ok_done : (⟨⟨#[]⟩, 0⟩ : RSt).done = 0 := by decide

theorem WsAt.fresh (w : World) : WsAt (w.alloc (.cells #[.pointer none, .int .i64 0, .int .i64 0] 27)) (some ⟨w.heap.size, 0, none⟩) (some ⟨[], 0⟩) :=
  ⟨_, rfl, .pointer none, heap_alloc_at _ _ _ rfl, rfl⟩
theorem WRoom.of (st : WSt) (n : Nat) (h : n + total st.ts ≤ 9223372036854775807) : WRoom (some st) n := by
  rintro x ⟨⟩
  exact h

set_option maxHeartbeats 400000 in
theorem speaks_true (w : World) : Calls Try.prog 5 #[] w fun e w' => e = .returned (.bool true) ∧ Below w.heap.size w w' := by
  go_enter Try.func5, Try.ntmps5
  go_wp2_with fail
  refine (wnum_any 258 (by decide) 2 _ _ _ (WsAt.fresh w) (WRoom.of _ _ (by decide))).mono ?_
  rintro e w1 ⟨rfl, h1, g1⟩
  have b1 : Hid (Below w.heap.size w w1) := below_row ((Below.refl _ _).alloc (Nat.le_refl _) _) g1 (by simp) (by rintro x ⟨⟩; exact Nat.le_refl _)
  have h1' : Hid (WsAt w1 (some ⟨w.heap.size, 0, none⟩) (some ⟨[str [1, 2]], 0⟩)) := by have := h1; rw [Option.map_some, ok_num] at this; exact this
  clear h1 g1
  go_wp2_with fail
  refine (wtext_any (str [97]) (by decide) _ _ _ h1'.out (WRoom.of _ _ (by decide))).mono ?_
  rintro e w2 ⟨rfl, h2, g2⟩
  have b2 : Hid (Below w.heap.size w w2) := below_row b1.out g2 b1.out.size (by rintro x ⟨⟩; exact Nat.le_refl _)
  have h2' : Hid (WrAt w2 w.heap.size ⟨[str [97], str [0, 1], str [1, 2]], 0⟩) := by
    have := h2; rw [Option.map_some, ok_text] at this; obtain ⟨b, hb, hw⟩ := this; cases hb; exact hw
  clear h2 g2 b1 h1'
  go_wp2_with fail
  refine (bytes_ok _ _ _ h2'.out (by decide)).mono ?_
  rintro e w3 ⟨rfl, g3⟩
  have b3 : Hid (Below w.heap.size w w3) := b2.out.trans ((below_grownBy g3).mono b2.out.size)
  rw [ok_flat]
  clear g3 h2' b2
  go_wp2_with fail
  refine (read_any _ _).mono ?_
  rintro e w4 ⟨rfl, h4, g4⟩
  have b4 : Hid (Below w.heap.size w w4) := b3.out.trans ((below_grownBy g4).mono b3.out.size)
  have h4' : Hid (RsAt w4 (some ⟨w3.heap.size, 0, none⟩) (some ⟨⟨#[1, 2, 0, 1, 97]⟩, 0⟩)) := ⟨_, rfl, h4⟩
  have hl : w.heap.size ≤ w3.heap.size := b3.out.size
  clear h4 g4 b3
  go_wp2_with fail
  refine (rnum_any 2 _ _ _ h4'.out (by rintro x ⟨⟩; decide)).mono ?_
  rintro e w5 ⟨rfl, h5, g5⟩
  have b5 : Hid (Below w.heap.size w w5) := below_row b4.out g5 b4.out.size (by rintro x ⟨⟩; exact hl)
  rw [Option.map_some, ok_rnum] at h5
  have H5 := Lib.hid h5
  rw [Option.map_some, ok_rnum]
  clear h5 g5 h4' b4
  go_wp2_with fail
  refine (rtext_any _ _ _ H5.out (by rintro x ⟨⟩; decide)).mono ?_
  rintro e w6 ⟨rfl, h6, g6⟩
  have b6 : Hid (Below w.heap.size w w6) := below_row b5.out g6 b5.out.size (by rintro x ⟨⟩; exact hl)
  rw [Option.map_some, ok_rtext] at h6
  have H6 := Lib.hid h6
  rw [Option.map_some, ok_rtext]
  clear h6 g6 H5 b5
  go_wp2_with fail
  refine (end_any _ _ _ H6.out).mono ?_
  rintro e w7 ⟨rfl, rfl⟩
  rw [Option.map_some, ok_done]
  go_wp2
  go_ret
  exact ⟨rfl, b6.out⟩
end Go.Proofs.Ytgolffjiepcbpaa
