/- The walks of package label's and its document's small functions of one rune. -/
import Derived.Test.YtioahjdojgcfdaaDoorRows
import Derived.WalkKit
import Derived.WalkSpells
import Derived.WalkLawsBesides
import Derived.Lib.Hide
namespace Go.Proofs.YtioahjdojgcfdaaDoor
open Go.RowKit

def capI (r : Int) : Bool := decide (65 ≤ r ∧ r ≤ 90) || decide (913 ≤ r ∧ r ≤ 937 ∧ r ≠ 930) || decide (1040 ≤ r ∧ r ≤ 1071)
def smallI (r : Int) : Int := if capI r = true then r + 32 else r
def lowI (q : Int) : Int := if 97 ≤ q ∧ q ≤ 122 then 1 else if 945 ≤ q ∧ q ≤ 969 then 2 else if 1072 ≤ q ∧ q ≤ 1103 then 4 else 0
def letterI (r : Int) : Int := lowI (smallI r)
def sepI (r : Int) : Bool := decide (r = 46) || decide (r = 45) || decide (r = 95) || decide (r = 64)
def digI (r : Int) : Bool := decide (48 ≤ r) && decide (r ≤ 57)

set_option maxHeartbeats 400000 in
theorem isDigit_any (r : Int) (w : World) : Calls Tryd.prog 169 #[.int .i32 r] w fun e w' => e = .returned (.bool (digI r)) ∧ w = w' := by
  by_cases h1 : 48 ≤ r
  · go_enter Tryd.func169, Tryd.ntmps169
    go_wp2
    go_ret
    exact ⟨by simp [digI, h1], rfl⟩
  · go_enter Tryd.func169, Tryd.ntmps169
    go_wp2
    go_ret
    have h0 : decide (48 ≤ r) = false := decide_eq_false (by omega)
    exact ⟨by unfold digI; rw [h0]; rfl, rfl⟩

set_option maxHeartbeats 400000 in
theorem isSeparator_any (r : Int) (w : World) : Calls Tryd.prog 168 #[.int .i32 r] w fun e w' => e = .returned (.bool (sepI r)) ∧ w = w' := by
  go_enter Tryd.func168, Tryd.ntmps168
  go_wp2
  all_goals go_ret
  all_goals refine ⟨?_, rfl⟩
  all_goals simp_all [sepI]

set_option maxHeartbeats 1000000 in
theorem refSmall_any (r : Int) (h0 : -2147483648 ≤ r ∧ r ≤ 2147483647) (w : World) : Calls Tryd.prog 79 #[.int .i64 r] w fun e w' => e = .returned (.int .i64 (smallI r)) ∧ w = w' := by
  by_cases hc : capI r = true
  · have e : smallI r = r + 32 := by simp [smallI, hc]
    rw [e]
    clear e
    have hc' : (65 ≤ r ∧ r ≤ 90) ∨ (913 ≤ r ∧ r ≤ 929) ∨ (931 ≤ r ∧ r ≤ 937) ∨ (1040 ≤ r ∧ r ≤ 1071) := by
      unfold capI at hc
      simp at hc
      omega
    clear hc
    rcases hc' with h | h | h | h
    all_goals
      obtain ⟨h1, h2⟩ := h
      go_enter Tryd.func79, Tryd.ntmps79
      go_wp2
      go_ret
      exact ⟨rfl, rfl⟩
  · have e : smallI r = r := by simp [smallI, hc]
    rw [e]
    clear e
    have hc' : r < 65 ∨ (90 < r ∧ r < 913) ∨ r = 930 ∨ (937 < r ∧ r < 1040) ∨ 1071 < r := by
      unfold capI at hc
      simp at hc
      omega
    clear hc
    rcases hc' with h | h | h | h | h
    · go_enter Tryd.func79, Tryd.ntmps79
      go_wp2
      go_ret
      exact ⟨rfl, rfl⟩
    · obtain ⟨h1, h2⟩ := h
      go_enter Tryd.func79, Tryd.ntmps79
      go_wp2
      go_ret
      exact ⟨rfl, rfl⟩
    · subst h
      go_enter Tryd.func79, Tryd.ntmps79
      go_wp2
      go_ret
      exact ⟨rfl, rfl⟩
    · obtain ⟨h1, h2⟩ := h
      go_enter Tryd.func79, Tryd.ntmps79
      go_wp2
      go_ret
      exact ⟨rfl, rfl⟩
    · go_enter Tryd.func79, Tryd.ntmps79
      go_wp2
      go_ret
      exact ⟨rfl, rfl⟩

set_option maxHeartbeats 1000000 in
theorem refLetter_any (r : Int) (h0 : -2147483648 ≤ r ∧ r ≤ 2147483647) (w : World) : Calls Tryd.prog 116 #[.int .i64 r] w fun e w' => e = .returned (.int .i64 (letterI r)) ∧ w = w' := by
  obtain ⟨q, hq⟩ : ∃ q, q = smallI r := ⟨_, rfl⟩
  have e : letterI r = lowI q := by rw [hq]; rfl
  rw [e]
  have HQ := Lib.hid hq
  clear e hq
  have hc : (97 ≤ q ∧ q ≤ 122 ∧ Hid (lowI q = 1)) ∨ (945 ≤ q ∧ q ≤ 969 ∧ Hid (lowI q = 2)) ∨ (1072 ≤ q ∧ q ≤ 1103 ∧ Hid (lowI q = 4)) ∨ (-2147483648 ≤ 0 ∧ q < 97 ∧ Hid (lowI q = 0)) ∨ (122 < q ∧ q < 945 ∧ Hid (lowI q = 0)) ∨ (969 < q ∧ q < 1072 ∧ Hid (lowI q = 0)) ∨ (-2147483648 ≤ 0 ∧ 1103 < q ∧ Hid (lowI q = 0)) := by
    unfold Hid lowI
    repeat' split
    all_goals omega
  rcases hc with h | h | h | h | h | h | h
  all_goals
    obtain ⟨h1, h2, HL⟩ := h
    rw [HL.out]
    go_enter Tryd.func116, Tryd.ntmps116
    go_wp2_with fail
    refine (refSmall_any r h0 _).mono ?_
    rintro e w' ⟨rfl, rfl⟩
    rw [← HQ.out]
    go_wp2
    go_ret
    exact ⟨rfl, rfl⟩

/-- the table of alphabets, cell by cell -/
def alphaCells : List Value := [.int .i64 1, .int .i32 97, .int .i32 122, .int .i64 2, .int .i32 945, .int .i32 969, .int .i64 4, .int .i32 1072, .int .i32 1103]
theorem alphaIdx0 (w : World) : (Instr.index 232 (.agg #[.int .i64 1, .int .i32 97, .int .i32 122, .int .i64 2, .int .i32 945, .int .i32 969, .int .i64 4, .int .i32 1072, .int .i32 1103]) (.int .i64 0)).run Tryd.prog w = .ok (.agg #[.int .i64 1, .int .i32 97, .int .i32 122]) w := by kernel_rfl
theorem alphaIdx1 (w : World) : (Instr.index 232 (.agg #[.int .i64 1, .int .i32 97, .int .i32 122, .int .i64 2, .int .i32 945, .int .i32 969, .int .i64 4, .int .i32 1072, .int .i32 1103]) (.int .i64 1)).run Tryd.prog w = .ok (.agg #[.int .i64 2, .int .i32 945, .int .i32 969]) w := by kernel_rfl
theorem alphaIdx2 (w : World) : (Instr.index 232 (.agg #[.int .i64 1, .int .i32 97, .int .i32 122, .int .i64 2, .int .i32 945, .int .i32 969, .int .i64 4, .int .i32 1072, .int .i32 1103]) (.int .i64 2)).run Tryd.prog w = .ok (.agg #[.int .i64 4, .int .i32 1072, .int .i32 1103]) w := by kernel_rfl

/-- the variable label.alphabets holds its table -/
def AlphaAt (w : World) : Prop := ∀ k v, alphaCells[k]? = some v → w.cell? ⟨4, k, none⟩ = some v
theorem AlphaAt.below {B : Nat} {w w' : World} (h : AlphaAt w) (hb : Below B w w') (hB : 4 < B) : AlphaAt w' := fun k v hk => (hb.cell (p := ⟨4, k, none⟩) hB).trans (h k v hk)

set_option maxHeartbeats 400000 in
theorem isCapital_any (r : Int) (h0 : -2147483648 ≤ r ∧ r ≤ 2147483647) (w : World) (hT : AlphaAt w) (hB : 4 < w.heap.size) : Calls Tryd.prog 160 #[.int .i32 r] w fun e w' => e = .returned (.bool (capI r)) ∧ Below w.heap.size w w' := by
  have c0 := hT 0 _ rfl
  have c1 := hT 1 _ rfl
  have c2 := hT 2 _ rfl
  have c3 := hT 3 _ rfl
  have c4 := hT 4 _ rfl
  have c5 := hT 5 _ rfl
  have c6 := hT 6 _ rfl
  have c7 := hT 7 _ rfl
  have c8 := hT 8 _ rfl
  have hc : (65 ≤ r ∧ r ≤ 90 ∧ Hid (capI r = true)) ∨ (913 ≤ r ∧ r ≤ 929 ∧ Hid (capI r = true)) ∨ (930 ≤ r ∧ r ≤ 930 ∧ Hid (capI r = false)) ∨ (931 ≤ r ∧ r ≤ 937 ∧ Hid (capI r = true)) ∨ (1040 ≤ r ∧ r ≤ 1071 ∧ Hid (capI r = true)) ∨
      (-2147483648 ≤ r ∧ r ≤ 64 ∧ Hid (capI r = false)) ∨ (91 ≤ r ∧ r ≤ 912 ∧ Hid (capI r = false)) ∨ (938 ≤ r ∧ r ≤ 1039 ∧ Hid (capI r = false)) ∨ (1072 ≤ r ∧ r ≤ 2147483647 ∧ Hid (capI r = false)) := by
    unfold Hid
    cases hcap : capI r with
    | true => 
      unfold capI at hcap
      simp at hcap
      simp
      omega
    | false =>
      unfold capI at hcap
      simp at hcap
      simp
      omega
  clear hT h0
  have i0 := alphaIdx0
  have i1 := alphaIdx1
  have i2 := alphaIdx2
  rcases hc with h | h | h | h | h | h | h | h | h
  all_goals
    obtain ⟨h1, h2, HL⟩ := h
    rw [HL.out]
    go_enter Tryd.func160, Tryd.ntmps160
    go_wp2_with fail
    refine wp_loop_rounds 4 ?_
    iterate 4 (first | (rw [rounds_succ]; go_wp2) | skip)
    go_ret
    refine ⟨?_, by repeat (first | exact Below.refl _ _ | refine Below.alloc ?_ (by first | (simp; done) | (simp; omega) | omega) _)⟩
    first
      | rfl
      | (have hne : (r != 930) = true := by simp; omega
         rw [hne]
         rfl)
      | (have hne : (r != 930) = false := by simp; omega
         rw [hne]
         rfl)

/-- what a walk of one rune leaves: a call into the table makes memory -/
theorem isCapital_row (r : Int) (h0 : -2147483648 ≤ r ∧ r ≤ 2147483647) (w : World) (hT : AlphaAt w) (hB : 4 < w.heap.size) : Calls Tryd.prog 160 #[.int .i32 r] w fun e w' => e = .returned (.bool (capI r)) ∧ Below w.heap.size w w' := isCapital_any r h0 w hT hB

set_option maxHeartbeats 400000 in
theorem small_any (r : Int) (h0 : -2147483648 ≤ r ∧ r ≤ 2147483647) (w : World) (hT : AlphaAt w) (hB : 4 < w.heap.size) : Calls Tryd.prog 133 #[.int .i32 r] w fun e w' => e = .returned (.int .i32 (smallI r)) ∧ Below w.heap.size w w' := by
  cases hc : capI r with
  | true =>
    have e : smallI r = r + 32 := by simp [smallI, hc]
    have hr : r ≤ 1071 := by unfold capI at hc; simp at hc; omega
    rw [e]
    have HC := Lib.hid hc
    clear e hc
    go_enter Tryd.func133, Tryd.ntmps133
    go_wp2_with fail
    refine (isCapital_any r h0 _ hT hB).mono ?_
    rintro e w' ⟨rfl, hb⟩
    rw [HC.out]
    have HB := Lib.hid hb
    clear hb
    go_wp2
    go_ret
    have hw : wrap32 (r + 32) = r + 32 := by simp only [wrap32]; omega
    first | exact ⟨rfl, HB.out⟩ | exact ⟨by rw [← hw]; rfl, HB.out⟩
  | false =>
    have e : smallI r = r := by simp [smallI, hc]
    rw [e]
    have HC := Lib.hid hc
    clear e hc
    go_enter Tryd.func133, Tryd.ntmps133
    go_wp2_with fail
    refine (isCapital_any r h0 _ hT hB).mono ?_
    rintro e w' ⟨rfl, hb⟩
    rw [HC.out]
    have HB := Lib.hid hb
    clear hb
    go_wp2
    go_ret
    exact ⟨rfl, HB.out⟩

set_option maxHeartbeats 1000000 in
theorem alphabetOf_any (r : Int) (h0 : -2147483648 ≤ r ∧ r ≤ 2147483647) (w : World) (hT : AlphaAt w) (hB : 4 < w.heap.size) : Calls Tryd.prog 170 #[.int .i32 r] w fun e w' => e = .returned (.int .i64 (letterI r)) ∧ Below w.heap.size w w' := by
  obtain ⟨q, hq⟩ : ∃ q, q = smallI r := ⟨_, rfl⟩
  have e : letterI r = lowI q := by rw [hq]; rfl
  rw [e]
  have HQ := Lib.hid hq
  clear e hq
  have HT := Lib.hid hT
  clear hT
  have hc : (97 ≤ q ∧ q ≤ 122 ∧ Hid (lowI q = 1)) ∨ (945 ≤ q ∧ q ≤ 969 ∧ Hid (lowI q = 2)) ∨ (1072 ≤ q ∧ q ≤ 1103 ∧ Hid (lowI q = 4)) ∨ (-2147483648 ≤ 0 ∧ q < 97 ∧ Hid (lowI q = 0)) ∨ (122 < q ∧ q < 945 ∧ Hid (lowI q = 0)) ∨ (969 < q ∧ q < 1072 ∧ Hid (lowI q = 0)) ∨ (-2147483648 ≤ 0 ∧ 1103 < q ∧ Hid (lowI q = 0)) := by
    unfold Hid lowI
    repeat' split
    all_goals omega
  have i0 := alphaIdx0
  have i1 := alphaIdx1
  have i2 := alphaIdx2
  rcases hc with h | h | h | h | h | h | h
  all_goals
    obtain ⟨h1, h2, HL⟩ := h
    rw [HL.out]
    go_enter Tryd.func170, Tryd.ntmps170
    go_wp2_with fail
    refine (small_any r h0 _ HT.out hB).mono ?_
    rintro e w1 ⟨rfl, hb⟩
    rw [← HQ.out]
    have hT1 := HT.out.below hb hB
    have c0 := hT1 0 _ rfl
    have c1 := hT1 1 _ rfl
    have c2 := hT1 2 _ rfl
    have c3 := hT1 3 _ rfl
    have c4 := hT1 4 _ rfl
    have c5 := hT1 5 _ rfl
    have c6 := hT1 6 _ rfl
    have c7 := hT1 7 _ rfl
    have c8 := hT1 8 _ rfl
    have hsz := hb.size
    have HB := Lib.hid hb
    clear hb hT1
    go_wp2_with fail
    refine wp_loop_rounds 4 ?_
    iterate 4 (first | (rw [rounds_succ]; go_wp2) | skip)
    go_ret
    exact ⟨rfl, by repeat (first | exact HB.out | refine Below.alloc ?_ (by first | (simp; done) | (simp; omega) | omega) _)⟩
end Go.Proofs.YtioahjdojgcfdaaDoor
