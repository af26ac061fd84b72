/- The walks of Node, Root. -/
import Derived.Test.YtheabbknflmnfaaDoorSmtF
namespace Go.Proofs.YtheabbknflmnfaaDoor
open Go.RowKit Go.Maps
attribute [local irreducible] shaL

theorem own_form' {w : World} {B n : Nat} {t : TypeId} {v : Value} {xs : List Value} (h : w.ownsRow B t 1 v n xs) : (v = .slice none 0 0 ∧ n = 0) ∨ ∃ g cap, v = .slice (some ⟨g, 0, none⟩) n cap ∧ n ≤ cap ∧ cap ≤ maxLen := by
  rcases h.2 with ⟨e, h0⟩ | ⟨g, cap, cur, e, hB, hg, h1, h2, _⟩
  · exact .inl ⟨e, h0⟩
  · exact .inr ⟨g, cap, e, h1, h2⟩
theorem node1_any (k s : ByteArray) (z : Int) (B1 B2 : Nat) (hk : k.size ≤ maxLen) (hs : s.size ≤ maxLen) (w : World) (h1 : w.cell? ⟨B1, 0, none⟩ = some (.string s)) (h2 : w.cell? ⟨B2, 0, none⟩ = some (.int .i64 z)) :
    Calls Tryd.prog 50 #[.string k, .pointer (some ⟨B1, 0, none⟩), .pointer (some ⟨B2, 0, none⟩)] w fun e w' => e = .returned (.bool (belowB k s (capD z))) ∧ w.grownBy w' none := by
  have HB := Lib.hid (below_int k s hk hs z w)
  clear hk hs
  go_enter Tryd.func50, Tryd.ntmps50
  go_wp2_with fail
  refine HB.out.mono ?_
  rintro e w2 ⟨rfl, g2⟩
  have HG := Lib.hid g2
  clear g2
  go_wp2_with fail
  go_ret
  exact ⟨rfl, HG.out⟩
/-- those that begin as s does, by so many bits -/
def startM (M : List PairS) (s : ByteArray) (d : Nat) : List PairS := M.filter fun x => belowB x.1 s d
def nodeAt (M : List PairS) (s : ByteArray) (d : Nat) : ByteArray := nodeN (128 - d) (startM M s d) d
theorem pairs_perm {M : List PairS} (hone : M.Pairwise (fun p q => p.1 ≠ q.1)) (P : ByteArray → Bool) : (pairsM M (sortK M P)).Perm (M.filter fun x => P x.1) := by
  have h1 : (sortK M P).Perm (((M.filter fun x => P x.1).map fun x => x.1.data.toList).map str) := (List.mergeSort_perm _ _).map str
  have h2 : ((M.filter fun x => P x.1).map fun x => x.1.data.toList).map str = (M.filter fun x => P x.1).map Prod.fst := by
    rw [List.map_map]
    rfl
  rw [h2] at h1
  have h3 := h1.map (fun k => (k, valM M k))
  have h4 : ((M.filter fun x => P x.1).map Prod.fst).map (fun k => (k, valM M k)) = M.filter fun x => P x.1 := by
    rw [List.map_map]
    refine (List.map_congr_left (g := id) fun x hx => ?_).trans (List.map_id _)
    show (x.1, valM M x.1) = x
    rw [valM_mem hone x (List.mem_filter.1 hx).1]
  rw [h4] at h3
  exact h3
theorem start_alike {M : List PairS} (hone : M.Pairwise (fun p q => p.1 ≠ q.1)) (h16 : ∀ x ∈ M, x.1.size = 16) (s : ByteArray) (d : Nat) : Alike d (startM M s d) := by
  refine ⟨fun x hx => h16 x (List.mem_filter.1 hx).1, hone.filter _, fun x hx y hy i hi => ?_⟩
  have e1 := (belowB_iff x.1 s d).1 (List.mem_filter.1 hx).2 i hi
  have e2 := (belowB_iff y.1 s d).1 (List.mem_filter.1 hy).2 i hi
  rw [e1, e2]
theorem sortK_has {M : List PairS} {P : ByteArray → Bool} {k : ByteArray} (h : k ∈ sortK M P) : hasM M k = true := by
  unfold sortK at h
  obtain ⟨l, hl, rfl⟩ := List.mem_map.1 h
  obtain ⟨x, hx, rfl⟩ := List.mem_map.1 ((List.mergeSort_perm _ _).mem_iff.1 hl)
  exact List.any_eq_true.2 ⟨x, (List.mem_filter.1 hx).1, by simp; rfl⟩
theorem sortK_len (M : List PairS) (P : ByteArray → Bool) : (sortK M P).length ≤ M.length := by
  unfold sortK
  rw [List.length_map, List.length_mergeSort, List.length_map]
  exact List.length_filter_le _ _
/-- a tree as the laws make it -/
structure Plain (M : List PairS) : Prop where
  k16 : ∀ x ∈ M, x.1.size = 16
  small : vals_small M
  few : M.length ≤ 1000000
set_option maxRecDepth 100000 in
set_option maxHeartbeats 3200000 in
theorem tnode_any (n0 : Nat) (X : List Nat) (w : World) (b : Nat) (M : List PairS) (s : ByteArray) (z : Int) (hT : TreeK n0 X w b M) (hP : Plain M) (hs : s.size ≤ maxLen) (hr : ShaReady w) :
    Calls Tryd.prog 29 #[.pointer (some ⟨b, 0, none⟩), .string s, .int .i64 z] w fun e w' => e = .returned (.string (nodeAt M s (capD z))) ∧ w.grownBy w' none := by
  have hone := hT.one
  have hg2 : w.grownBy ((w.alloc (.cells #[.string s] 9)).alloc (.cells #[.int .i64 z] 3)) none := grownBy_alloc' (World.grownBy_alloc _ _ _) _
  have hb1 : ((w.alloc (.cells #[.string s] 9)).alloc (.cells #[.int .i64 z] 3)).cell? ⟨w.heap.size, 0, none⟩ = some (.string s) := (World.cell?_alloc_lt _ _ _ (by simp)).trans (cell_of (heap_alloc_at w (.cells #[.string s] 9) _ rfl) 0)
  have hb2 : ((w.alloc (.cells #[.string s] 9)).alloc (.cells #[.int .i64 z] 3)).cell? ⟨w.heap.size + 1, 0, none⟩ = some (.int .i64 z) := cell_of (heap_alloc_at (w.alloc (.cells #[.string s] 9)) (.cells #[.int .i64 z] 3) _ (by simp)) 0
  have HSO := Lib.hid (fun (w2 : World) (q : w.grownBy w2 none) (h1 : w2.cell? ⟨w.heap.size, 0, none⟩ = some (.string s)) (h2 : w2.cell? ⟨w.heap.size + 1, 0, none⟩ = some (.int .i64 z)) =>
    tsort_some n0 X (.pointer (some ⟨w.heap.size, 0, none⟩)) (.pointer (some ⟨w.heap.size + 1, 0, none⟩)) (fun k => belowB k s (capD z)) w2 b M (hT.grown q) hP.few (fun k w' hk q2 => by
      obtain ⟨x, hx, hxk⟩ := List.any_eq_true.1 hk
      have hxk' : x.1 = k := by simpa using hxk
      exact node1_any k s z _ _ (by have := hP.k16 x hx; rw [← hxk']; unfold maxLen; omega) hs w' (q2.cell h1 (by simp)) (q2.cell h2 (by simp))))
  have hperm := pairs_perm hone (fun k => belowB k s (capD z))
  have hal : Alike (capD z) (pairsM M (sortK M fun k => belowB k s (capD z))) := (start_alike hone hP.k16 s (capD z)).perm hperm.symm
  have hris := rises_sortK M (fun k => belowB k s (capD z))
  have hlen := sortK_len M (fun k => belowB k s (capD z))
  have hres : nodeAt M s (capD z) = nodeN (128 - capD z) (pairsM M (sortK M fun k => belowB k s (capD z))) (capD z) := (nodeN_perm _ _ _ _ hperm).symm
  rw [hres]
  have hcd := capD_le z
  have hhas : ∀ k ∈ sortK M (fun k => belowB k s (capD z)), hasM M k = true := fun k hk => sortK_has hk
  generalize sortK M (fun k => belowB k s (capD z)) = L at HSO hal hris hlen hhas ⊢
  obtain ⟨mz, hmz⟩ : ∃ mz, max z 0 = mz := ⟨_, rfl⟩
  have HAB : Hid (∀ (a : Option Addr) (c : Nat) (w' : World), w.grownBy w' none → L.length ≤ c → c ≤ maxLen → StrsAt w' (.slice a L.length c) L → Calls Tryd.prog 51 #[.pointer (some ⟨b, 0, none⟩), .slice a L.length c, .int .i64 mz] w' fun e w'' => e = .returned (.string (nodeN (128 - capD z) (pairsM M L) (capD z))) ∧ w'.grownBy w'' none) := by
    refine Lib.hid (fun a c w' q hc1 hc2 hv => ?_)
    by_cases hz : z ≤ 128
    · have e1 : mz = ((capD z : Nat) : Int) := by rw [← hmz]; unfold capD; omega
      rw [e1]
      exact tabove_any n0 X b M hP.small (128 - capD z) (capD z) a L.length c L w' (by omega) (by have := hP.few; omega) hc1 hc2 (hT.grown q) hv hris hhas hal (hr.grown q)
    · have e1 : capD z = 128 := by unfold capD; omega
      rw [e1] at hal ⊢
      have h1 := hal.few (Nat.le_refl _)
      unfold pairsM at h1
      rw [List.length_map] at h1
      match L, h1, hv, hal, hhas with
      | [], _, _, _, _ => exact above_zero b a c mz w'
      | [k], _, hv, hal, hhas => exact above_one n0 X b M a c k mz w' (hT.grown q) hv (by have := (pairs_key M [k] 128 hal).1 k (by simp); omega) (val_small hP.small k) (hhas k (by simp)) (hr.grown q)
  have HG2 := Lib.hid hg2
  have HB := Lib.hid (And.intro hb1 hb2)
  have HMZ := Lib.hid hmz
  generalize nodeN (128 - capD z) (pairsM M L) (capD z) = R at HAB ⊢
  clear hT hP hs hr hone hperm hal hris hlen hhas hres hcd hg2 hb1 hb2
  go_enter Tryd.func29, Tryd.ntmps29
  clear hmz
  go_wp2_with fail
  refine (HSO.out _ HG2.out HB.out.1 HB.out.2).mono ?_
  rintro e w3 ⟨v, rfl, ho, g3⟩
  have HB3 : Hid (w3.cell? ⟨w.heap.size + 1, 0, none⟩ = some (.int .i64 z)) := Lib.hid (g3.cell HB.out.2 (by simp))
  have HG3 := Lib.hid (grownBy_trans HG2.out g3)
  obtain ⟨a, c, rfl⟩ := slice_own' ho
  have hcc : L.length ≤ c ∧ c ≤ maxLen := by
    rcases own_form' ho with ⟨e1, e2⟩ | ⟨g, c2, e1, e2, e3⟩
    · injection e1 with _ e3 e4; exact ⟨by omega, by unfold maxLen; omega⟩
    · injection e1 with _ e4 e5; subst e5; exact ⟨e2, e3⟩
  have HAA := Lib.hid (HAB.out a c w3 HG3.out hcc.1 hcc.2 (strs_own ho))
  have c3 := HB3.out
  have HMM := HMZ.out
  clear ho g3 hcc HB HG2 HSO
  go_wp2_with fail
  refine HAA.out.mono ?_
  rintro e w4 ⟨rfl, g4⟩
  have HG4 := Lib.hid (grownBy_trans HG3.out g4)
  clear g4
  go_wp2_with fail
  go_ret
  exact ⟨rfl, HG4.out⟩
theorem troot_any (n0 : Nat) (X : List Nat) (w : World) (b : Nat) (M : List PairS) (hT : TreeK n0 X w b M) (hP : Plain M) (hr : ShaReady w) :
    Calls Tryd.prog 21 #[.pointer (some ⟨b, 0, none⟩)] w fun e w' => e = .returned (.string (nodeN 128 M 0)) ∧ w.grownBy w' none := by
  have H := tnode_any n0 X w b M ⟨#[]⟩ 0 hT hP (Nat.zero_le _) hr
  have e : nodeAt M ⟨#[]⟩ (capD 0) = nodeN 128 M 0 := by
    have e1 : capD 0 = 0 := by decide
    have e2 : startM M ⟨#[]⟩ 0 = M := by
      unfold startM
      exact List.filter_eq_self.2 (fun x _ => rfl)
    rw [e1]
    unfold nodeAt
    rw [e2]
  rw [e] at H
  have HN := Lib.hid H
  clear H e hT hP hr
  go_enter Tryd.func21, Tryd.ntmps21
  go_wp2_with fail
  refine HN.out.mono ?_
  rintro e w2 ⟨rfl, g2⟩
  have HG := Lib.hid g2
  clear g2
  go_wp2_with fail
  go_ret
  exact ⟨rfl, HG.out⟩
end Go.Proofs.YtheabbknflmnfaaDoor
