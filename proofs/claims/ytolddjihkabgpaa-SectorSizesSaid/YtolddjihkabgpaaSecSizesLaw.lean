/- The walk of the law SectorSizes. -/
import Derived.Test.YtolddjihkabgpaaSecSpk
import Derived.Deep.DeepCutAuto
import Derived.Deep.CutBlock
namespace Go.Proofs.Ytolddjihkabgpaa
open Go.RowKit

set_option maxHeartbeats 2000000 in
theorem sizes_no (n : Int) (s : ByteArray) (hn : n < 4 ∨ 1024 < n) (w : World) :
    Calls Try.prog 4 #[.int .i64 n, .string s] w fun e w' => e = .returned (.bool true) ∧ w.grownBy w' none := by
  have HN := Lib.hid (fun w => new_no n hn w)
  have e1 : decide (4 ≤ n) = true ∧ decide (n ≤ 1024) = false ∧ ¬ n ≤ 0 ∨ decide (4 ≤ n) = false ∧ n ≤ 1024 ∧ n ≤ 0 ∨ decide (4 ≤ n) = false ∧ n ≤ 1024 ∧ ¬ n ≤ 0 := by
    by_cases h : 4 ≤ n
    · left; refine ⟨by simpa using h, ?_, by omega⟩; simp; omega
    · right
      by_cases h0 : n ≤ 0
      · left; exact ⟨by simpa using h, by omega, h0⟩
      · right; exact ⟨by simpa using h, by omega, h0⟩
  clear hn
  rcases e1 with ⟨d1, d2, d3⟩ | ⟨d1, d2, d3⟩ | ⟨d1, d2, d3⟩
  all_goals
    go_enter Try.func4, Try.ntmps4
    go_wp2_with fail
    refine (sec_speaks w).mono ?_
    rintro e w1 ⟨rfl, g1⟩
    have G1 := Lib.hid g1
    clear g1
    go_wp2_with fail
    refine (HN.out w1).mono ?_
    rintro e w2 ⟨rfl, rfl⟩
    go_wp2_with fail
    refine (fuse_nil _ _ _).mono ?_
    rintro e w2 ⟨rfl, rfl⟩
    go_wp2_with fail
    refine (cut_nil _ _).mono ?_
    rintro e w2 ⟨rfl, rfl⟩
    go_wp2_with fail
    refine (start_nil _).mono ?_
    rintro e w2 ⟨rfl, rfl⟩
    go_wp2_with fail
    refine (read_nil _ _).mono ?_
    rintro e w3 ⟨rfl, g3⟩
    have G3 := Lib.hid (grownBy_trans (grownBy_alloc' G1.out _) g3)
    clear g3
    go_wp2_with (first
      | (go_at_call 19; (with_reducible refine (count_nil _).mono ?_); rintro e w6 ⟨rfl, rfl⟩)
      | (go_at_call 17; (with_reducible refine (write_nil _ _ _).mono ?_); rintro e w6 ⟨rfl, rfl⟩)
      | (go_at_call 12; (with_reducible refine (sync_nil _).mono ?_); rintro e w6 ⟨rfl, rfl⟩)
      | (go_at_call 18; (with_reducible refine (on_nil _).mono ?_); rintro e w6 ⟨rfl, rfl⟩)
      | (go_at_call 16; (with_reducible refine (copy_nil _).mono ?_); rintro e w6 ⟨rfl, rfl⟩))
    all_goals
      go_ret
      exact ⟨rfl, G3.out⟩

theorem new_text (n : Nat) (h : 4 ≤ n) : str (readL (newD n).last (newD n).wait 1) = fullT ⟨#[]⟩ := by
  have e : readL (newD n).last (newD n).wait 1 = zeros 64 := by
    show (List.replicate n (zeros 64)).getD 1 [] = _
    rw [List.getD_eq_getElem?_getD, List.getElem?_replicate, if_pos (by omega)]
    rfl
  rw [e]
  rfl
theorem wrote_text (n : Nat) (t : ByteArray) : str (readL (wroteD (newD n) 1 t).last (wroteD (newD n) 1 t).wait 1) = fullT t := by
  unfold fullT
  rfl

set_option maxRecDepth 100000 in
set_option maxHeartbeats 2000000 in
theorem sizes_yes (n : Nat) (s : ByteArray) (hs : s.size ≤ maxLen) (h4 : 4 ≤ n) (hn : n ≤ 1024) (w : World) :
    Calls Try.prog 4 #[.int .i64 n, .string s] w fun e w' => e = .returned (.bool true) ∧ w.grownBy w' none := by
  have HN := Lib.hid (fun w => new_ok n h4 hn w)
  have E1 := Lib.hid (new_text n h4)
  have hlen : (newD n).last.length = n := by simp [newD]
  have HL := Lib.hid hlen
  unfold maxLen at hs
  have d1 : (4 : Int) ≤ (n : Int) := by omega
  have d2 : (n : Int) ≤ 1024 := by omega
  have d3 : ¬ (n : Int) ≤ 0 := by omega
  have d4 : (0 : Int) ≤ (n : Int) := by omega
  have d5 : (0 : Int) < (n : Int) := by omega
  clear hlen
  go_enter Try.func4, Try.ntmps4
  go_wp2_with fail
  refine (sec_speaks w).mono ?_
  rintro e w1 ⟨rfl, g1⟩
  have G1 := Lib.hid g1
  clear g1
  go_wp2_with fail
  refine (HN.out w1).mono ?_
  rintro e w2 ⟨b, rfl, hd2, g2⟩
  have G2 := Lib.hid (grownBy_trans G1.out g2)
  have D2 := Lib.hid hd2
  clear hd2 g2 G1
  go_wp2_with fail
  refine (fuse_nil _ _ _).mono ?_
  rintro e w3 ⟨rfl, rfl⟩
  go_wp2_with fail
  refine (cut_nil _ _).mono ?_
  rintro e w3 ⟨rfl, rfl⟩
  go_wp2_with fail
  refine (start_nil _).mono ?_
  rintro e w3 ⟨rfl, rfl⟩
  go_wp2_with fail
  refine (read_nil _ _).mono ?_
  rintro e w3 ⟨rfl, g3⟩
  have g23 := grownBy_trans (World.grownBy_alloc w2 _ none) g3
  have G3 := Lib.hid (grownBy_trans G2.out g23)
  have D3 := Lib.hid (D2.out.grown g23)
  have HS3 : Hid (w2.heap.size ≤ w3.heap.size) := g23.size
  have HSW : Hid (w.heap.size ≤ w3.heap.size) := G3.out.size
  clear g3 g23 G2 D2
  have HC : Hid (Calls Try.prog 19 #[.pointer (some ⟨b, 0, none⟩)] w3 fun e w' => e = .returned (.int .i64 n) ∧ w3 = w') := by
    have := count_at _ b _ w3 D3.out
    rw [HL.out] at this
    exact this
  go_upto_region 14 with (first
      | (go_at_call 19; (with_reducible refine HC.out.mono ?_); rintro e w6 ⟨rfl, rfl⟩)
      | (go_at_call 19; (with_reducible refine (count_nil _).mono ?_); rintro e w6 ⟨rfl, rfl⟩)
      | (go_at_call 17; (with_reducible refine (write_nil _ _ _).mono ?_); rintro e w6 ⟨rfl, rfl⟩)
      | (go_at_call 12; (with_reducible refine (sync_nil _).mono ?_); rintro e w6 ⟨rfl, rfl⟩)
      | (go_at_call 18; (with_reducible refine (on_nil _).mono ?_); rintro e w6 ⟨rfl, rfl⟩)
      | (go_at_call 16; (with_reducible refine (copy_nil _).mono ?_); rintro e w6 ⟨rfl, rfl⟩))
  go_cut [1] (fun sv wx => ∃ t : ByteArray, t.size ≤ 64 ∧ sv = .string t ∧ w3 = wx)
  case first =>
    by_cases hz : s.size ≤ 64
    · have hz2 : (s.size : Int) ≤ 64 := by omega
      go_wp2_with fail
      go_meet
      case rel => exact ⟨_, by first | exact hz | (rw [ByteArray.size_extract]; omega), rfl, rfl⟩
    · have hz2 : ¬ (s.size : Int) ≤ 64 := by omega
      have hz3 : (64 : Int) < (s.size : Int) := by omega
      have hz4 : (64 : Int) ≤ (s.size : Int) := by omega
      go_wp2_with fail
      go_meet
      case rel => exact ⟨_, by rw [ByteArray.size_extract]; omega, rfl, rfl⟩
  case rest =>
    obtain ⟨t, ht, rfl, rfl⟩ := hcut
    go_wp2_with fail
    refine (copy_at _ b _ w3 D3.out (by rw [HL.out]; omega) (Nat.zero_le _) (Nat.zero_le _)).mono ?_
    rintro e w4 ⟨c, rfl, hc4, g4⟩
    have G4 := Lib.hid (grownBy_trans G3.out g4)
    have D4 := Lib.hid (D3.out.grown g4)
    have C4 := Lib.hid hc4
    have HS4 : Hid (w3.heap.size ≤ w4.heap.size) := g4.size
    clear hc4 g4 G3 D3
    go_wp2_with fail
    refine (write_ok _ c (newD n) 1 t w4 C4.out rfl (by rw [HL.out]; omega) ht (by show (-1 : Int) ≠ 0; decide) (by show (-1 : Int) ≤ _; decide) (Nat.zero_le _)).mono ?_
    rintro e w5 ⟨rfl, hc5, t5⟩
    have C5 := Lib.hid hc5
    have D5 := Lib.hid (D4.out.turn t5 (fun i _ h1 h2 => by have := h1.2; have := h2.1; have := HS3.out; omega))
    have B5 := Lib.hid (t5.below (below_grownBy G4.out) G4.out.size (fun i hi q => by have := q.1; have := G4.out.size; have := HS4.out; have := HSW.out; omega))
    clear hc5 t5 C4 D4
    go_wp2_with fail
    refine (read_ok _ b 1 _ w5 D5.out rfl (by rw [HL.out]; omega) (Nat.zero_le _)).mono ?_
    rintro e w6 ⟨rfl, g6⟩
    have C6 := Lib.hid (C5.out.grown g6)
    have B6 := Lib.hid (B5.out.grown g6 (by have := B5.out.size; omega) (fun k e => by cases e))
    clear g6 C5 B5
    rw [E1.out]
    have F1 := Lib.hid (fun w => full_any ⟨#[]⟩ (by decide) w)
    have F2 := Lib.hid (fun w => full_any t (by omega) w)
    generalize fullT ⟨#[]⟩ = T1 at F1 ⊢
    go_wp2_with fail
    refine (read_ok _ c 1 _ w6 C6.out rfl (by show 1 < (newD n).last.length; rw [HL.out]; omega) (by show ((newD n).wait ++ [(1, fullL t.data.toList)]).length ≤ 1000000000; simp [newD])).mono ?_
    rintro e w7 ⟨rfl, g7⟩
    have B7 := Lib.hid (B6.out.grown g7 (by have := B6.out.size; omega) (fun k e => by cases e))
    clear g7
    rw [wrote_text n t]
    generalize fullT t = T2 at F2 ⊢
    go_wp2_with (first
      | (go_at_call 8; (with_reducible refine (F1.out _).mono ?_); rintro e w6 ⟨rfl, rfl⟩)
      | (go_at_call 8; (with_reducible refine (F2.out _).mono ?_); rintro e w6 ⟨rfl, rfl⟩))
    go_ret
    exact ⟨rfl, grownBy_below B7.out⟩
theorem sizes_walk (n : Int) (s : ByteArray) (hs : s.size ≤ maxLen) (w : World) :
    Calls Try.prog 4 #[.int .i64 n, .string s] w fun e w' => e = .returned (.bool true) ∧ Below w.heap.size w w' := by
  by_cases h : 4 ≤ n ∧ n ≤ 1024
  · obtain ⟨m, rfl⟩ := Int.eq_ofNat_of_zero_le (show 0 ≤ n by omega)
    exact (sizes_yes m s hs (by omega) (by omega) w).mono fun e w' q => ⟨q.1, below_grownBy q.2⟩
  · exact (sizes_no n s (by omega) w).mono fun e w' q => ⟨q.1, below_grownBy q.2⟩
end Go.Proofs.Ytolddjihkabgpaa
