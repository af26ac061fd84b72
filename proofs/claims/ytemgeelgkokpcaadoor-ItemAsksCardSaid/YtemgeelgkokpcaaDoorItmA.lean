/- The walks of item.Num, Text, isItem, depthOf, numberOf, textOf, itemsOf; slices.Clone of items; List. -/
import Derived.Test.YtemgeelgkokpcaaDoorItmM
import Derived.Deep.AppendLies
import Derived.Handy
import Derived.RegionTactic
import Derived.Deep.DeepCutAuto
import Derived.Deep.RegionHeld3
import Derived.Deep.CutBlock
namespace Go.Proofs.YtemgeelgkokpcaaDoor
open Go.RowKit

set_option maxRecDepth 100000 in
set_option maxHeartbeats 400000 in
theorem inum_any (n : Int) (w : World) : Calls Tryd.prog 19 #[.int .i64 n] w fun e w' => e = .returned (vNum n) ∧ w = w' := by
  go_enter Tryd.func19, Tryd.ntmps19
  go_wp2_with fail
  go_ret
  exact ⟨rfl, rfl⟩
set_option maxRecDepth 100000 in
set_option maxHeartbeats 400000 in
theorem itext_any (s : ByteArray) (w : World) : Calls Tryd.prog 18 #[.string s] w fun e w' => e = .returned (vText s) ∧ w = w' := by
  go_enter Tryd.func18, Tryd.ntmps18
  go_wp2_with fail
  go_ret
  exact ⟨rfl, rfl⟩
set_option maxRecDepth 100000 in
set_option maxHeartbeats 800000 in
theorem isItem_any {P : Nat → Prop} (v : Value) (t : Tr) (w : World) (h : ItemAt w P v t) : Calls Tryd.prog 37 #[v] w fun e w' => e = .returned (.bool true) ∧ w = w' := by
  cases t with
  | num n =>
    rw [ItemAt] at h
    subst h
    unfold vNum
    go_enter Tryd.func37, Tryd.ntmps37
    go_wp2_with fail
    go_ret
    exact ⟨rfl, rfl⟩
  | text s =>
    rw [ItemAt] at h
    subst h
    unfold vText
    go_enter Tryd.func37, Tryd.ntmps37
    go_wp2_with fail
    go_ret
    exact ⟨rfl, rfl⟩
  | list l =>
    rw [ItemAt] at h
    obtain ⟨b, a, c, h1, h2, h3, h4⟩ := h
    subst h1
    clear h3 h4
    unfold vList
    go_enter Tryd.func37, Tryd.ntmps37
    go_wp2_with fail
    go_ret
    exact ⟨rfl, rfl⟩
theorem cells2I {w : World} {b : Nat} {t : TypeId} {v0 v1 : Value} (h : w.heap[b]? = some (.cells #[v0, v1] t (0, 0))) : w.cell? ⟨b, 0, none⟩ = some v0 ∧ w.cell? ⟨b, 1, none⟩ = some v1 := by
  refine ⟨?_, ?_⟩ <;> rw [cell_of h] <;> rfl
set_option maxRecDepth 100000 in
set_option maxHeartbeats 800000 in
theorem depthOf_any {P : Nat → Prop} (v : Value) (t : Tr) (w : World) (h : ItemAt w P v t) : Calls Tryd.prog 24 #[v] w fun e w' => e = .returned (.int .i64 (depT t)) ∧ w = w' := by
  cases t with
  | num n =>
    rw [ItemAt] at h
    subst h
    unfold vNum
    rw [depT]
    go_enter Tryd.func24, Tryd.ntmps24
    go_wp2_with fail
    go_ret
    exact ⟨rfl, rfl⟩
  | text s =>
    rw [ItemAt] at h
    subst h
    unfold vText
    rw [depT]
    go_enter Tryd.func24, Tryd.ntmps24
    go_wp2_with fail
    go_ret
    exact ⟨rfl, rfl⟩
  | list l =>
    rw [ItemAt] at h
    obtain ⟨b, a, c, h1, h2, h3, h4⟩ := h
    subst h1
    obtain ⟨y0, y1⟩ := cells2I h3
    clear h3 h4
    unfold vList
    rw [depT]
    generalize depTs l + 1 = D at *
    go_enter Tryd.func24, Tryd.ntmps24
    go_wp2_with fail
    go_ret
    exact ⟨rfl, rfl⟩
theorem infoItm : (Tryd.prog.info? 24).map (fun i => (i.zero, i.size, i.bytes)) = some (some .nilIface, 1, 16) := by kernel_rfl
theorem own_formI {w : World} {B n s : Nat} {t : TypeId} {v : Value} {xs : List Value} (h : w.ownsRow B t s v n xs) : (v = .slice none 0 0 ∧ n = 0) ∨ ∃ g cap, v = .slice (some ⟨g, 0, none⟩) n cap := by
  rcases h.2 with h' | ⟨g, cap, cur, rfl, _⟩
  · exact .inl h'
  · exact .inr ⟨g, cap, rfl⟩
theorem own_kept_I {w w' : World} {B n s : Nat} {t : TypeId} {v : Value} {xs : List Value} (h : w.ownsRow B t s v n xs) (k : w.grownBy w' none) : w'.ownsRow B t s v n xs := by
  refine ⟨h.1, ?_⟩
  rcases h.2 with h' | ⟨g, cap, cur, rfl, hB, hg, r⟩
  · exact .inl h'
  · exact .inr ⟨g, cap, cur, rfl, hB, (k.block g (Array.getElem?_eq_some_iff.1 hg).1 (by simp)).trans hg, r⟩
theorem own_keepI {w w' : World} {B n s : Nat} {t : TypeId} {v : Value} {xs : List Value} {row : Option Nat} (h : w.ownsRow B t s v n xs) (k : w.grownBy w' row) (hne : ∀ x, v.ownBlock = some x → row ≠ some x) : w'.ownsRow B t s v n xs := by
  refine ⟨h.1, ?_⟩
  rcases h.2 with h' | ⟨g, cap, cur, rfl, hB, hg, r⟩
  · exact .inl h'
  · exact .inr ⟨g, cap, cur, rfl, hB, (k.block g (Array.getElem?_eq_some_iff.1 hg).1 (fun e => hne g rfl e.symm)).trans hg, r⟩
theorem own_neI {i k n c : Nat} (h : i < k) : some i ≠ (Value.slice (some ⟨k, 0, none⟩) n c).ownBlock := by
  simp [Value.ownBlock]
  omega
set_option maxRecDepth 100000 in
set_option maxHeartbeats 1000000 in
theorem clone_itm (v : Value) (n : Nat) (xs : List Value) (w : World) (hv : w.ownsRow 0 24 1 v n xs) (h1 : ∀ u ∈ xs, u.oneCell' = true) (hn : n ≤ 1000000000) :
    Calls Tryd.prog 38 #[v] w fun e w' => ∃ v', e = .returned v' ∧ w'.ownsRow w.heap.size 24 1 v' n xs ∧ w.grownBy w' none := by
  obtain ⟨i0, hti, hz0, hz1, hz2⟩ := info_parts infoItm
  rcases own_formI hv with ⟨rfl, h0⟩ | ⟨g, cap, rfl⟩
  · subst h0
    have hx : xs = [] := List.eq_nil_of_length_eq_zero (by simpa using hv.1)
    subst hx
    have he : ∀ w : World, (binOp .eql 51 (.slice none 0 0) (.slice none 0 0)).run Tryd.prog w = .ok (.bool true) w := fun _ => rfl
    clear hv h1
    go_enter Tryd.func38, Tryd.ntmps38
    go_wp2_with fail
    go_ret
    exact ⟨_, rfl, World.ownsRow_nil _ _ _ _, World.grownBy.refl _ _⟩
  · have HV := Lib.hid hv
    have H1 := Lib.hid h1
    have hn2 : 0 + n ≤ maxLen := by unfold maxLen; omega
    have hn3 : (0 + n) * 16 ≤ 140737488355328 := by omega
    have HN := Lib.hid (And.intro hn2 hn3)
    have he : ∀ w : World, (binOp .eql 51 (.slice (some ⟨g, 0, none⟩) n cap) (.slice none 0 0)).run Tryd.prog w = .ok (.bool false) w := fun _ => rfl
    have HO : Hid ((w.alloc (.cells #[] 24)).ownsRow w.heap.size 24 1 (.slice (some ⟨w.heap.size, 0, none⟩) 0 0) 0 []) := World.ownsRow_lit w #[] 0 (Nat.le_refl _) (Nat.zero_le _) rfl
    have HC : Hid (∀ j u, xs[j]? = some u → (w.alloc (.cells #[] 24)).cell? ((⟨g, 0, none⟩ : Addr).add j) = some u) := fun j u hu => World.ownsRow.cells (hv.alloc _) rfl j u hu
    have HL : Hid (xs.length = n * 1) := hv.1
    clear hv h1 hn2 hn3
    go_enter Tryd.func38, Tryd.ntmps38
    go_wp2_with (at_builtin; refine wpList_append_own _ rfl (.tmp 5) (.tmp 6) 51 rfl w.heap.size 24 i0 _ 1 16 Tryd.underlying51 hti hz0 hz1 hz2 rfl (by decide) _ 0 [] rfl HO.out ⟨g, 0, none⟩ n cap xs rfl HL.out HC.out H1.out HN.out.1 HN.out.2 (by simp) ?_; intro v' w' ho hg _)
    rw [Nat.zero_add, List.nil_append] at ho
    have HO2 := Lib.hid ho
    have HG2 : Hid (w.grownBy w' none) := ⟨hg.os, hg.tape, hg.output, by have := hg.size; simp at this; omega, fun i hi _ => (hg.block i (by simp; omega) (own_neI hi)).trans (Below.heap_alloc _ _ _ hi)⟩
    clear ho hg
    go_wp2_with fail
    go_ret
    exact ⟨_, rfl, HO2.out, HG2.out⟩
end Go.Proofs.YtemgeelgkokpcaaDoor
