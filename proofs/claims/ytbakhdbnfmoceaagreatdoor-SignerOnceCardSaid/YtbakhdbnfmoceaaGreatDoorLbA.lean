/- The walks of logbook's Parts, noughts, nameOf. -/
import Derived.Test.YtbakhdbnfmoceaaGreatDoorLbSpec
import Derived.Test.YtbakhdbnfmoceaaGreatDoorTag
import Derived.Test.YtbakhdbnfmoceaaGreatDoorStrs
import Derived.Test.YtbakhdbnfmoceaaGreatDoorSecMem
import Derived.Test.YtbakhdbnfmoceaaGreatDoorOctetPN
import Derived.Test.YtbakhdbnfmoceaaGreatDoorOctetPF
import Derived.Test.YtbakhdbnfmoceaaGreatDoorOctetB
import Derived.Test.YtbakhdbnfmoceaaGreatDoorLay
import Derived.Lib.Repeat
import Derived.WalkSpells
import Derived.WalkLawsBesides
import Derived.Laws.IdiomStrings
import Derived.Deep.LoopGhost
import Derived.Deep.DeepCutAuto
import Derived.Deep.CutBlock
import Derived.Deep.RegionWith
namespace Go.Proofs.YtbakhdbnfmoceaaGreatDoor
open Go.RowKit
attribute [local irreducible] shaL

set_option maxHeartbeats 400000 in
theorem parts_any (n : Nat) (hn : n ≤ 9223372036854775807) (w : World) :
    Calls Tryz.prog 36 #[.int .i64 n] w fun e w' => e = .returned (.int .i64 (partsN n : Nat)) ∧ w = w' := by
  unfold partsN
  by_cases h : n < 1
  · have h1 : (n : Int) < 1 := by omega
    rw [if_pos h]
    go_enter Tryz.func36, Tryz.ntmps36
    go_wp2_with fail
    go_ret
    exact ⟨rfl, rfl⟩
  · have h1 : ¬ (n : Int) < 1 := by omega
    rw [if_neg h]
    obtain ⟨q, hq⟩ : ∃ q, (n - 1) / 39 = q := ⟨_, rfl⟩
    rw [hq]
    have h2 : ((n : Int) - 1) / 39 = (q : Int) := by omega
    have h3 : (q : Int) < 9223372036854775807 := by omega
    go_enter Tryz.func36, Tryz.ntmps36
    go_wp2_with fail
    go_ret
    exact ⟨rfl, rfl⟩

theorem repeat_zero : ∀ n, Lib.repeatL [0] n = List.replicate n 0
  | 0 => rfl
  | n + 1 => by rw [Lib.repeatL, repeat_zero n, List.replicate_succ]; rfl
set_option maxHeartbeats 400000 in
theorem noughts_any (n : Nat) (hn : n ≤ 39) (w : World) :
    Calls Tryz.prog 92 #[.int .i64 n] w fun e w' => e = .returned (.string (str (List.replicate n 0))) ∧ w.grownBy w' none := by
  have HR := Lib.hid (fun w => Tryz.strings_Repeat ⟨#[0]⟩ n w (by omega) (by show 1 * n ≤ _; omega))
  have e : Lib.repeatL (⟨#[0]⟩ : ByteArray).data.toList n = List.replicate n 0 := repeat_zero n
  rw [e] at HR
  clear e
  go_enter Tryz.func92, Tryz.ntmps92
  go_wp2_with fail
  refine (HR.out _).mono ?_
  rintro e w1 ⟨rfl, h1⟩
  go_wp2_with fail
  go_ret
  exact ⟨rfl, grownBy_below h1⟩

theorem num_ok (ts : List ByteArray) (n k : Nat) (h1 : 1 ≤ k) (h8 : k ≤ 8) (h : n < 256 ^ k) : (⟨ts, 0⟩ : WSt).num n k = ⟨str (be n k) :: ts, 0⟩ := by
  unfold WSt.num
  rw [if_pos ⟨by omega, by omega, by rw [Int.toNat_natCast]; exact h⟩, Int.toNat_natCast]
  rfl
theorem fixed_ok (ts : List ByteArray) (t : ByteArray) (k : Int) (h : (t.size : Int) = k) : (⟨ts, 0⟩ : WSt).fixed t k = ⟨t :: ts, 0⟩ := by
  unfold WSt.fixed
  rw [if_pos h]
  rfl
theorem wrap_u32 (n : Nat) (h : n ≤ 4294967295) : IntKind.u32.wrap (n : Int) = (n : Int) := by
  simp only [IntKind.wrap, IntKind.bits, IntKind.signed, IntKind.min, IntKind.max]; simp; omega
/-- one call of a Writer's Num -/
theorem wnum_at (n : Nat) (k : Nat) (h1 : 1 ≤ k) (h8 : k ≤ 8) (h : n < 256 ^ k) (hn : n ≤ 18446744073709551615) (w : World) (b : Nat) (ts : List ByteArray) (hw : WrAt w b ⟨ts, 0⟩) (hs : 8 + total ts ≤ 1000000000) :
    Calls Tryz.prog 46 #[.pointer (some ⟨b, 0, none⟩), .int .u64 n, .int .i64 k] w fun e w' => e = .returned (.pointer (some ⟨b, 0, none⟩)) ∧ WrAt w' b ⟨str (be n k) :: ts, 0⟩ ∧ w.grownBy w' (some b) := by
  refine (wnum_any n hn k w (some ⟨b, 0, none⟩) (some ⟨ts, 0⟩) ⟨b, rfl, hw⟩ (WRoom.of _ _ (by show 8 + total ts ≤ _; omega))).mono ?_
  rintro e w' ⟨rfl, h2, h3⟩
  rw [Option.map_some, num_ok ts n k h1 h8 h] at h2
  obtain ⟨b', hb, hw'⟩ := h2
  cases hb
  exact ⟨rfl, hw', h3⟩
theorem wfixed_at (t : ByteArray) (k : Int) (h : (t.size : Int) = k) (w : World) (b : Nat) (ts : List ByteArray) (hw : WrAt w b ⟨ts, 0⟩) (hs : t.size + total ts ≤ 1000000000) :
    Calls Tryz.prog 91 #[.pointer (some ⟨b, 0, none⟩), .string t, .int .i64 k] w fun e w' => e = .returned (.pointer (some ⟨b, 0, none⟩)) ∧ WrAt w' b ⟨t :: ts, 0⟩ ∧ w.grownBy w' (some b) := by
  refine (wfixed_any t k w (some ⟨b, 0, none⟩) (some ⟨ts, 0⟩) ⟨b, rfl, hw⟩ (WRoom.of _ _ (by show t.size + total ts ≤ _; omega))).mono ?_
  rintro e w' ⟨rfl, h2, h3⟩
  rw [Option.map_some, fixed_ok ts t k h] at h2
  obtain ⟨b', hb, hw'⟩ := h2
  cases hb
  exact ⟨rfl, hw', h3⟩
theorem wfresh (w : World) : WrAt (w.alloc (.cells #[.pointer none, .int .i64 0, .int .i64 0] 100)) w.heap.size ⟨[], 0⟩ := by
  obtain ⟨b, hb, hw⟩ := WsAt.fresh w
  cases hb
  exact hw
theorem WrAt.beside {w w' : World} {b c : Nat} {st : WSt} (h : WrAt w b st) (hg : w.grownBy w' (some c)) (hb : b ≠ c) (hc : ∃ st', WrAt w c st') : WrAt w' b st := by
  refine h.kept hg (by intro e; cases e; exact hb rfl) ?_
  rintro r e v t hr
  cases e
  obtain ⟨st', last, hl, _⟩ := hc
  rw [hl] at hr
  simp at hr

set_option maxRecDepth 100000 in
set_option maxHeartbeats 1600000 in
theorem nameOf_any (turn num : Nat) (ht : turn ≤ 4294967295) (hn : num ≤ 65535) (s : ByteArray) (hs : s.size ≤ 1000000) (w : World) (hr : ShaReady w) :
    Calls Tryz.prog 90 #[.int .u32 turn, .int .i64 num, .string s] w fun e w' => e = .returned (.string (nameS turn num s)) ∧ w.grownBy w' none := by
  have HR := Lib.hid hr
  clear hr
  have u1 := wrap_u64 turn (by omega)
  have u2 := wrap_u64 num (by omega)
  go_enter Tryz.func90, Tryz.ntmps90
  obtain ⟨B, hB⟩ : ∃ B, w.heap.size = B := ⟨_, rfl⟩
  have hw1 : WrAt ((w.alloc (.cells #[.pointer none, .int .i64 0, .int .i64 0] 100)).alloc (.cells #[.pointer none, .int .i64 0, .int .i64 0] 100)) B ⟨[], 0⟩ := by
    rw [← hB]; exact (wfresh w).grown (World.grownBy_alloc _ _ _)
  have hw2 : WrAt ((w.alloc (.cells #[.pointer none, .int .i64 0, .int .i64 0] 100)).alloc (.cells #[.pointer none, .int .i64 0, .int .i64 0] 100)) (B + 1) ⟨[], 0⟩ := by
    have := wfresh (w.alloc (.cells #[.pointer none, .int .i64 0, .int .i64 0] 100))
    simpa [hB] using this
  have hg0 : w.grownBy ((w.alloc (.cells #[.pointer none, .int .i64 0, .int .i64 0] 100)).alloc (.cells #[.pointer none, .int .i64 0, .int .i64 0] 100)) none := grownBy_alloc' (World.grownBy_alloc _ _ _) _
  go_wp2_with fail
  generalize (w.alloc (.cells #[.pointer none, .int .i64 0, .int .i64 0] 100)).alloc (.cells #[.pointer none, .int .i64 0, .int .i64 0] 100) = w1 at hw1 hw2 hg0 ⊢
  have HB := Lib.hid hB
  clear hB
  refine (wnum_at turn 4 (by decide) (by decide) (by omega) (by omega) w1 B [] hw1 (by decide)).mono ?_
  rintro e w2 ⟨rfl, h2, g2⟩
  have h2b := hw2.beside g2 (by omega) ⟨_, hw1⟩
  have HG2 := Lib.hid (grown_row hg0 g2 (by intro g e; cases e; have := HB.out; omega))
  have z4 : (str (be turn 4)).size = 4 := by rw [str_size, be_length]
  have f4 : str (flat [str (be turn 4)]) = str (be turn 4) := by simp [flat, str]
  have hby := bytes_ok w2 B _ h2 (by rw [total_cons, z4]; decide)
  rw [f4] at hby
  have HBY := Lib.hid hby
  have HW := Lib.hid h2b
  clear hby h2 g2 hw1 hw2 hg0 h2b f4
  go_wp2_with fail
  refine HBY.out.mono ?_
  rintro e w3 ⟨rfl, g3⟩
  have HW3 := Lib.hid (HW.out.grown g3)
  have HG3 := Lib.hid (grownBy_trans HG2.out g3)
  clear HBY g3 HW HG2
  go_wp2_with fail
  refine (wnum_at num 2 (by decide) (by decide) (by omega) (by omega) w3 (B + 1) [] HW3.out (by decide)).mono ?_
  rintro e w4 ⟨rfl, h4, g4⟩
  have HG4 := Lib.hid (grown_row HG3.out g4 (by intro g e; cases e; have := HB.out; omega))
  have z2 : (str (be num 2)).size = 2 := by rw [str_size, be_length]
  have f2 : str (flat [str (be num 2)]) = str (be num 2) := by simp [flat, str]
  have hby := bytes_ok w4 (B + 1) _ h4 (by rw [total_cons, z2]; decide)
  rw [f2] at hby
  have HBY := Lib.hid hby
  clear hby h4 g4 f2 HW3 HG3
  go_wp2_with fail
  refine HBY.out.mono ?_
  rintro e w5 ⟨rfl, g5⟩
  have HG5 := Lib.hid (grownBy_trans HG4.out g5)
  clear HBY g5 HG4
  have HT := Lib.hid (tagged_new w5 7 [str (be turn 4), str (be num 2), s] _ 3 7 rfl rfl rfl (HR.out.grown HG5.out) (by simp) (by
    intro x hx
    simp at hx
    rcases hx with rfl | rfl | rfl <;> omega))
  have HN := Lib.hid (show nameS turn num s = (tagS 7 [str (be turn 4), str (be num 2), s]).extract 0 8 from rfl)
  have h16 := tagS_size 7 [str (be turn 4), str (be num 2), s]
  generalize tagS 7 [str (be turn 4), str (be num 2), s] = T at HT HN h16
  generalize str (be turn 4) = x4 at *
  generalize str (be num 2) = x2 at *
  go_wp2_with fail
  refine HT.out.mono ?_
  rintro e w6 ⟨rfl, g6⟩
  have HG6 := Lib.hid (grownBy_trans HG5.out g6)
  clear g6 HT HG5
  have h16' : (8 : Int) ≤ (T.size : Int) := by omega
  go_wp2_with fail
  go_ret
  exact ⟨by rw [HN.out]; rfl, HG6.out⟩
end Go.Proofs.YtbakhdbnfmoceaaGreatDoor
