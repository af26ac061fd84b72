/- The walks of Leaf, isLeaf, Join. -/
import Derived.Test.YtheabbknflmnfaaDoorSmtA
import Derived.Test.YtheabbknflmnfaaDoorTag
import Derived.Deep.RegionWith
import Derived.Deep.RegionHeld3
namespace Go.Proofs.YtheabbknflmnfaaDoor
open Go.RowKit Go.Maps
attribute [local irreducible] shaL

set_option maxRecDepth 100000 in
theorem tleaf_any (k v : ByteArray) (hk : k.size ≤ 1000000000) (hv : v.size ≤ 1000000000) (w : World) (hr : ShaReady w) :
    Calls Tryd.prog 52 #[.string k, .string v] w fun e w' => e = .returned (.string (leafS k v)) ∧ w.grownBy w' none := by
  have ht := Lib.hid (tagged_new w 9 [k, v] _ 2 9 rfl rfl rfl hr (by simp) (by
    intro s hs'
    simp at hs'
    rcases hs' with rfl | rfl <;> omega))
  have h16 := tag16 9 [k, v]
  have hL : leafS k v = ⟨#[1]⟩ ++ tagS 9 [k, v] := rfl
  rw [hL]
  generalize tagS 9 [k, v] = T at ht h16
  have q1 : (9223372036854775807 < (⟨#[1]⟩ : ByteArray).size + T.size) = False := eq_false (by rw [h16]; decide)
  have q2 : (9223372036854775807 < 1 + T.size) = False := eq_false (by rw [h16]; decide)
  clear hr hL h16
  go_enter Tryd.func52, Tryd.ntmps52
  go_wp2_with fail
  refine ht.out.mono ?_
  rintro e w1 ⟨rfl, g1⟩
  have G1 := Lib.hid g1
  clear g1
  go_wp2_with fail
  go_ret
  exact ⟨rfl, G1.out⟩
theorem head_one (s : ByteArray) (h : 1 ≤ s.size) : ((s.extract 0 1).toList == [1]) = (headB s == 1) := by
  obtain ⟨⟨l⟩⟩ := s
  rw [ByteArray.toList_eq]
  match l, h with
  | [], h => exact absurd h (by decide)
  | x :: r, _ =>
    have e : (ByteArray.extract ⟨⟨x :: r⟩⟩ 0 1).data.toList = [x] := by
      rw [ByteArray.data_extract, Array.toList_extract]
      rfl
    rw [e]
    show ([x] == [1]) = (x == 1)
    rw [Bool.eq_iff_iff]
    simp
theorem isLeaf_any (s : ByteArray) (hs : s.size ≤ maxLen) (w : World) : Calls Tryd.prog 87 #[.string s] w fun e w' => e = .returned (.bool (leafB s)) ∧ w = w' := by
  unfold maxLen at hs
  by_cases h : s.size = 17
  · have h1 : ((s.size : Int) == 17) = true := by simp; omega
    have h2 : (1 : Int) ≤ (s.size : Int) := by omega
    have hb : leafB s = ((s.extract 0 1).toList == [1]) := by rw [head_one s (by omega)]; unfold leafB; simp [h]
    rw [hb]
    clear hb
    go_enter Tryd.func87, Tryd.ntmps87
    go_wp2_with fail
    go_ret
    exact ⟨rfl, rfl⟩
  · have h1 : ((s.size : Int) == 17) = false := by simp; omega
    have hb : leafB s = false := by unfold leafB; simp [h]
    rw [hb]
    clear hb
    go_enter Tryd.func87, Tryd.ntmps87
    go_wp2_with fail
    go_ret
    exact ⟨rfl, rfl⟩
theorem is_empty (s : ByteArray) : (s.toList == [0]) = decide (s = emptyS) := by
  rw [ByteArray.toList_eq, Bool.eq_iff_iff, beq_iff_eq, decide_eq_true_iff]
  constructor
  · intro h
    exact ByteArray.ext (Array.toList_inj.1 (h.trans rfl))
  · rintro rfl
    rfl
set_option maxRecDepth 100000 in
theorem join_any (a b : ByteArray) (ha : a.size ≤ 1000000000) (hb : b.size ≤ 1000000000) (w : World) (hr : ShaReady w) :
    Calls Tryd.prog 66 #[.string a, .string b] w fun e w' => e = .returned (.string (joinN a b)) ∧ w.grownBy w' none := by
  have ht : Hid (∀ w0, w.grownBy w0 none → Calls Tryd.prog 76 #[.int .u8 10, .slice (some ⟨w0.heap.size, 0, none⟩) 2 2] (w0.alloc (.cells #[.string a, .string b] 9)) fun e w' => e = .returned (.string (tagS 10 [a, b])) ∧ w0.grownBy w' none) := Lib.hid (fun w0 g => tagged_new w0 10 [a, b] _ 2 10 rfl rfl rfl (hr.grown g) (by simp) (by
    intro s hs'
    simp at hs'
    rcases hs' with rfl | rfl <;> omega))
  have hla := Lib.hid (fun w0 => isLeaf_any a (by unfold maxLen; omega) w0)
  have hlb := Lib.hid (fun w0 => isLeaf_any b (by unfold maxLen; omega) w0)
  have h16 := tag16 10 [a, b]
  have hB : bothS a b = ⟨#[2]⟩ ++ tagS 10 [a, b] := rfl
  have HJ := Lib.hid (show joinN a b = if a = emptyS ∧ (b = emptyS ∨ leafB b = true) then b else if b = emptyS ∧ leafB a = true then a else bothS a b from rfl)
  generalize joinN a b = J at HJ ⊢
  rw [hB] at HJ
  generalize tagS 10 [a, b] = T at ht h16 HJ
  have q1 : (9223372036854775807 < (⟨#[2]⟩ : ByteArray).size + T.size) = False := eq_false (by rw [h16]; decide)
  have q2 : (9223372036854775807 < 1 + T.size) = False := eq_false (by rw [h16]; decide)
  have ea := is_empty a
  have eb := is_empty b
  obtain ⟨la, hlae⟩ : ∃ x, leafB a = x := ⟨_, rfl⟩
  obtain ⟨lb, hlbe⟩ : ∃ x, leafB b = x := ⟨_, rfl⟩
  rw [hlae] at hla HJ
  rw [hlbe] at hlb HJ
  clear hr hB h16 hlae hlbe
  by_cases h1 : a = emptyS
  · have ea1 : (a.toList == [0]) = true := by rw [ea]; simpa using h1
    by_cases h2 : b = emptyS
    · have eb1 : (b.toList == [0]) = true := by rw [eb]; simpa using h2
      have hj : J = b := by rw [HJ.out, if_pos ⟨h1, .inl h2⟩]
      subst hj
      clear ea eb h1 h2 HJ
      go_enter Tryd.func66, Tryd.ntmps66
      go_wp2_with fail
      go_ret
      exact ⟨rfl, World.grownBy.refl _ _⟩
    · have eb1 : (b.toList == [0]) = false := by rw [eb]; simpa using h2
      cases lb
      · have hj : J = ⟨#[2]⟩ ++ T := by rw [HJ.out, if_neg (by simp [h2]), if_neg (by simp [h2])]
        subst hj
        clear ea eb h1 h2 HJ
        go_enter Tryd.func66, Tryd.ntmps66
        go_wp2_with fail
        refine (hlb.out _).mono ?_
        rintro e w1 ⟨rfl, rfl⟩
        go_wp2_with fail
        refine (ht.out _ (World.grownBy.refl _ _)).mono ?_
        rintro e w2 ⟨rfl, g2⟩
        have G2 := Lib.hid g2
        clear g2
        go_wp2_with fail
        go_ret
        exact ⟨rfl, G2.out⟩
      · have hj : J = b := by rw [HJ.out, if_pos ⟨h1, .inr rfl⟩]
        subst hj
        clear ea eb h1 h2 HJ
        go_enter Tryd.func66, Tryd.ntmps66
        go_wp2_with fail
        refine (hlb.out _).mono ?_
        rintro e w1 ⟨rfl, rfl⟩
        go_wp2_with fail
        go_ret
        exact ⟨rfl, World.grownBy.refl _ _⟩
  · have ea1 : (a.toList == [0]) = false := by rw [ea]; simpa using h1
    by_cases h2 : b = emptyS
    · have eb1 : (b.toList == [0]) = true := by rw [eb]; simpa using h2
      cases la
      · have hj : J = ⟨#[2]⟩ ++ T := by rw [HJ.out, if_neg (by simp [h1]), if_neg (by simp)]
        subst hj
        clear ea eb h1 h2 HJ
        go_enter Tryd.func66, Tryd.ntmps66
        go_wp2_with fail
        refine (hla.out _).mono ?_
        rintro e w1 ⟨rfl, rfl⟩
        go_wp2_with fail
        refine (ht.out _ (World.grownBy.refl _ _)).mono ?_
        rintro e w2 ⟨rfl, g2⟩
        have G2 := Lib.hid g2
        clear g2
        go_wp2_with fail
        go_ret
        exact ⟨rfl, G2.out⟩
      · have hj : J = a := by rw [HJ.out, if_neg (by simp [h1]), if_pos ⟨h2, rfl⟩]
        subst hj
        clear ea eb h1 h2 HJ
        go_enter Tryd.func66, Tryd.ntmps66
        go_wp2_with fail
        refine (hla.out _).mono ?_
        rintro e w1 ⟨rfl, rfl⟩
        go_wp2_with fail
        go_ret
        exact ⟨rfl, World.grownBy.refl _ _⟩
    · have eb1 : (b.toList == [0]) = false := by rw [eb]; simpa using h2
      have hj : J = ⟨#[2]⟩ ++ T := by rw [HJ.out, if_neg (by simp [h1]), if_neg (by simp [h2])]
      subst hj
      clear ea eb h1 h2 HJ
      go_enter Tryd.func66, Tryd.ntmps66
      go_wp2_with fail
      refine (ht.out _ (World.grownBy.refl _ _)).mono ?_
      rintro e w2 ⟨rfl, g2⟩
      have G2 := Lib.hid g2
      clear g2
      go_wp2_with fail
      go_ret
      exact ⟨rfl, G2.out⟩
end Go.Proofs.YtheabbknflmnfaaDoor
