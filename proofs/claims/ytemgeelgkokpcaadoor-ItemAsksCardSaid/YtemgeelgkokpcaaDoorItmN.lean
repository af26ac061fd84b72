/- Plain words: layer 4's law's nodes, the item and the document's nodes that are made of them; bounds. No walk. -/
import Derived.Test.YtemgeelgkokpcaaDoorItmP
import Derived.Lib.ItoaMem
namespace Go.Proofs.YtemgeelgkokpcaaDoor
open Go.RowKit

structure NodI where
  k : Int
  n : Int
  t : ByteArray
def kind4 (k : Int) : Nat := (k % 4).toNat
def cut30 (s : ByteArray) : ByteArray := s.extract 0 (min s.size 30)
theorem cut30_size (s : ByteArray) : (cut30 s).size ≤ 30 := by unfold cut30; rw [ByteArray.size_extract]; omega
/- the item of the nodes from a place on, and the place behind it; those of a list -/
mutual
def mkT : Nat → List NodI → Nat → Nat → Tr × Nat
  | 0, _, a, _ => (.num 0, a)
  | f + 1, L, a, d => match L[a]? with
    | none => (.num 0, a)
    | some x => if kind4 x.k = 1 then (.text (cut30 x.t), a + 1) else if kind4 x.k = 2 ∧ 2 ≤ d then (.list (mkL f L (a + 1) (d - 1)).1, (mkL f L (a + 1) (d - 1)).2 + 1) else (.num x.n, a + 1)
def mkL : Nat → List NodI → Nat → Nat → List Tr × Nat
  | 0, _, a, _ => ([], a)
  | f + 1, L, a, d => match L[a]? with
    | none => ([], a)
    | some x => if kind4 x.k = 3 then ([], a) else ((mkT f L a d).1 :: (mkL f L (mkT f L a d).2 d).1, (mkL f L (mkT f L a d).2 d).2)
end
/- what is small: texts of at most 30 bytes, int64s -/
mutual
def smT : Tr → Prop
  | .num n => -9223372036854775808 ≤ n ∧ n ≤ 9223372036854775807
  | .text s => s.size ≤ 30
  | .list l => smTs l
def smTs : List Tr → Prop
  | [] => True
  | t :: r => smT t ∧ smTs r
end
theorem mk_step (f : Nat) (L : List NodI) : (∀ a d, a ≤ (mkT f L a d).2 ∧ (a < L.length → 1 ≤ f → a + 1 ≤ (mkT f L a d).2) ∧ (mkT f L a d).2 ≤ max a L.length + d) ∧ (∀ a d, a ≤ (mkL f L a d).2 ∧ (mkL f L a d).2 ≤ max a L.length + d) := by
  induction f with
  | zero => exact ⟨fun a d => ⟨by rw [mkT]; exact Nat.le_refl _, fun _ h => by omega, by rw [mkT]; show a ≤ _; omega⟩, fun a d => ⟨by rw [mkL]; exact Nat.le_refl _, by rw [mkL]; show a ≤ _; omega⟩⟩
  | succ f ih =>
    obtain ⟨iT, iL⟩ := ih
    constructor
    · intro a d
      rw [mkT]
      rcases hx : L[a]? with _ | x
      · have hlen : L.length ≤ a := List.getElem?_eq_none_iff.1 hx
        exact ⟨Nat.le_refl _, fun h => by omega, by show a ≤ _; omega⟩
      · have hlen : a < L.length := (List.getElem?_eq_some_iff.1 hx).1
        simp only
        by_cases h1 : kind4 x.k = 1
        · rw [if_pos h1]
          exact ⟨by show a ≤ a + 1; omega, fun _ _ => Nat.le_refl _, by show a + 1 ≤ _; omega⟩
        · rw [if_neg h1]
          by_cases h2 : kind4 x.k = 2 ∧ 2 ≤ d
          · rw [if_pos h2]
            have := iL (a + 1) (d - 1)
            exact ⟨by show a ≤ _ + 1; omega, fun _ _ => by show a + 1 ≤ _ + 1; omega, by show _ + 1 ≤ _; omega⟩
          · rw [if_neg h2]
            exact ⟨by show a ≤ a + 1; omega, fun _ _ => Nat.le_refl _, by show a + 1 ≤ _; omega⟩
    · intro a d
      rw [mkL]
      rcases hx : L[a]? with _ | x
      · show a ≤ a ∧ a ≤ max a L.length + d
        exact ⟨Nat.le_refl _, by omega⟩
      · have hlen : a < L.length := (List.getElem?_eq_some_iff.1 hx).1
        simp only
        by_cases h3 : kind4 x.k = 3
        · rw [if_pos h3]
          exact ⟨Nat.le_refl _, by show a ≤ _; omega⟩
        · rw [if_neg h3]
          have h4 := iT a d
          have h5 := iL (mkT f L a d).2 d
          refine ⟨by show a ≤ (mkL f L (mkT f L a d).2 d).2; omega, ?_⟩
          show (mkL f L (mkT f L a d).2 d).2 ≤ _
          by_cases hq : L.length ≤ (mkT f L a d).2
          · -- the list ends there
            have he : (mkL f L (mkT f L a d).2 d).2 = (mkT f L a d).2 := by
              cases f with
              | zero => rw [mkL]
              | succ g => rw [mkL, List.getElem?_eq_none hq]
            rw [he]
            exact h4.2.2
          · omega
/-- nodes as they come in: numbers are int64s -/
def InOk (L : List NodI) : Prop := ∀ x ∈ L, (-9223372036854775808 ≤ x.n ∧ x.n ≤ 9223372036854775807) ∧ x.t.size ≤ maxLen
theorem mk_small (L : List NodI) (hL : InOk L) (f : Nat) : (∀ a d, 1 ≤ d → smT (mkT f L a d).1 ∧ depT (mkT f L a d).1 ≤ d ∧ cntT (mkT f L a d).1 + a ≤ max (a + 1) (mkT f L a d).2) ∧ (∀ a d, 1 ≤ d → smTs (mkL f L a d).1 ∧ depTs (mkL f L a d).1 ≤ d ∧ cntTs (mkL f L a d).1 + a ≤ (mkL f L a d).2 + 1) := by
  induction f with
  | zero =>
    refine ⟨fun a d hd => ?_, fun a d hd => ?_⟩
    · rw [mkT]
      exact ⟨by rw [smT]; decide, by rw [depT]; exact hd, by rw [cntT]; omega⟩
    · rw [mkL]
      exact ⟨trivial, Nat.zero_le _, by rw [cntTs]; omega⟩
  | succ f ih =>
    obtain ⟨iT, iL⟩ := ih
    constructor
    · intro a d hd
      rw [mkT]
      rcases hx : L[a]? with _ | x
      · exact ⟨by rw [smT]; decide, by rw [depT]; exact hd, by rw [cntT]; omega⟩
      · simp only
        by_cases h1 : kind4 x.k = 1
        · rw [if_pos h1]
          exact ⟨by rw [smT]; exact cut30_size _, by rw [depT]; exact hd, by rw [cntT]; omega⟩
        · rw [if_neg h1]
          by_cases h2 : kind4 x.k = 2 ∧ 2 ≤ d
          · rw [if_pos h2]
            obtain ⟨q1, q2, q3⟩ := iL (a + 1) (d - 1) (by omega)
            exact ⟨by rw [smT]; exact q1, by rw [depT]; omega, by rw [cntT]; show _ ≤ max (a + 1) ((mkL f L (a + 1) (d - 1)).2 + 1); omega⟩
          · rw [if_neg h2]
            exact ⟨by rw [smT]; exact (hL x (List.mem_of_getElem? hx)).1, by rw [depT]; exact hd, by rw [cntT]; omega⟩
    · intro a d hd
      rw [mkL]
      rcases hx : L[a]? with _ | x
      · show smTs [] ∧ depTs [] ≤ d ∧ cntTs [] + a ≤ a + 1
        exact ⟨by rw [smTs]; trivial, by rw [depTs]; omega, by rw [cntTs]; omega⟩
      · have hlen : a < L.length := (List.getElem?_eq_some_iff.1 hx).1
        simp only
        by_cases h3 : kind4 x.k = 3
        · rw [if_pos h3]
          show smTs [] ∧ depTs [] ≤ d ∧ cntTs [] + a ≤ a + 1
          exact ⟨by rw [smTs]; trivial, by rw [depTs]; omega, by rw [cntTs]; omega⟩
        · rw [if_neg h3]
          obtain ⟨q1, q2, q3⟩ := iT a d hd
          obtain ⟨p1, p2, p3⟩ := iL (mkT f L a d).2 d hd
          refine ⟨by rw [smTs]; exact ⟨q1, p1⟩, by rw [depTs]; omega, ?_⟩
          show cntTs ((mkT f L a d).1 :: (mkL f L (mkT f L a d).2 d).1) + a ≤ (mkL f L (mkT f L a d).2 d).2 + 1
          rw [cntTs]
          have h4 := (mk_step f L).1 a d
          cases f with
          | zero =>
            rw [mkT, mkL]
            show cntT (.num 0) + cntTs [] + a ≤ a + 1
            rw [cntT, cntTs]; omega
          | succ g =>
            have := h4.2.1 hlen (by omega)
            omega
end Go.Proofs.YtemgeelgkokpcaaDoor
