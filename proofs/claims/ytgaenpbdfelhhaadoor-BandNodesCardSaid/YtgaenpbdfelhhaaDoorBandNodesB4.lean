/- The walks of Node, Root. · Plain words: a node of both its halves. No walk. · Plain words: the way to a key, what stands beside it, the climb back. No walk. · Plain words for Prove: the keys that go on, the way so far. No walk. · The walk of band's Keys. · The walk of band's Keys, where there is no such depth, or no such band. · The walk of band's Nodes. · What the law BandNodes puts into its tree; the counts of a band's keys; band's Nodes where there is no such depth. · The walk of layer 14's laws' both. · The walk of a proof's Node, by what climb is said to do. · slices.Backward over texts. · Plain words for band's Root: the nodes above each two. No walk. · What a round that appends to a box's row owes, a call lying between. No walk. · The walk of Prove. · The walk of proof's climb. -/
import Derived.Test.YtgaenpbdfelhhaaDoorSmtF
import Derived.Test.YtgaenpbdfelhhaaDoorSmtQ
import Derived.Test.YtgaenpbdfelhhaaDoorBitsC
import Derived.Test.YtgaenpbdfelhhaaDoorBandNodesB2
import Derived.Test.YtgaenpbdfelhhaaDoorBandNodesB3
import Derived.Test.YtgaenpbdfelhhaaDoorBndI
import Derived.Deep.DeepCutAuto
import Derived.Deep.RegionHeld3
import Derived.Test.YtgaenpbdfelhhaaDoorBandNodesB1
import Derived.RangeFuncNested
import Derived.RangeFuncBound
import Derived.RangeFuncCalls
import Derived.RangeFuncLeaves
import Derived.Shelf.Abstract
import Derived.Shelf.RegionOpen
import Derived.OwnWalkIn
import Derived.TacticsInMore
import Derived.LoopNIn
import Derived.LoopIn
import Derived.RangeFuncBox
import Derived.Deep.AppendLies
namespace Go.Proofs.YtgaenpbdfelhhaaDoor
open Go.RowKit Go.Maps
attribute [local irreducible] shaL

theorem own_form' {w : World} {B n : Nat} {t : TypeId} {v : Value} {xs : List Value} (h : w.ownsRow B t 1 v n xs) : (v = .slice none 0 0 ∧ n = 0) ∨ ∃ g cap, v = .slice (some ⟨g, 0, none⟩) n cap ∧ n ≤ cap ∧ cap ≤ maxLen := by
  rcases h.2 with ⟨e, h0⟩ | ⟨g, cap, cur, e, hB, hg, h1, h2, _⟩
  · exact .inl ⟨e, h0⟩
  · exact .inr ⟨g, cap, e, h1, h2⟩
theorem node1_any (k s : ByteArray) (z : Int) (B1 B2 : Nat) (hk : k.size ≤ maxLen) (hs : s.size ≤ maxLen) (w : World) (h1 : w.cell? ⟨B1, 0, none⟩ = some (.string s)) (h2 : w.cell? ⟨B2, 0, none⟩ = some (.int .i64 z)) :
    Calls Tryd.prog 54 #[.string k, .pointer (some ⟨B1, 0, none⟩), .pointer (some ⟨B2, 0, none⟩)] w fun e w' => e = .returned (.bool (belowB k s (capD z))) ∧ w.grownBy w' none := by
  have HB := Lib.hid (below_int k s hk hs z w)
  clear hk hs
  go_enter Tryd.func54, Tryd.ntmps54
  go_wp2_with fail
  refine HB.out.mono ?_
  rintro e w2 ⟨rfl, g2⟩
  have HG := Lib.hid g2
  clear g2
  go_wp2_with fail
  go_ret
  exact ⟨rfl, HG.out⟩
/-- those that begin as s does, by so many bits -/
def startM (M : List PairS) (s : ByteArray) (d : Nat) : List PairS := M.filter fun x => belowB x.1 s d
def nodeAt (M : List PairS) (s : ByteArray) (d : Nat) : ByteArray := nodeN (128 - d) (startM M s d) d
theorem pairs_perm {M : List PairS} (hone : M.Pairwise (fun p q => p.1 ≠ q.1)) (P : ByteArray → Bool) : (pairsM M (sortK M P)).Perm (M.filter fun x => P x.1) := by
  have h1 : (sortK M P).Perm (((M.filter fun x => P x.1).map fun x => x.1.data.toList).map str) := (List.mergeSort_perm _ _).map str
  have h2 : ((M.filter fun x => P x.1).map fun x => x.1.data.toList).map str = (M.filter fun x => P x.1).map Prod.fst := by
    rw [List.map_map]
    rfl
  rw [h2] at h1
  have h3 := h1.map (fun k => (k, valM M k))
  have h4 : ((M.filter fun x => P x.1).map Prod.fst).map (fun k => (k, valM M k)) = M.filter fun x => P x.1 := by
    rw [List.map_map]
    refine (List.map_congr_left (g := id) fun x hx => ?_).trans (List.map_id _)
    show (x.1, valM M x.1) = x
    rw [valM_mem hone x (List.mem_filter.1 hx).1]
  rw [h4] at h3
  exact h3
theorem start_alike {M : List PairS} (hone : M.Pairwise (fun p q => p.1 ≠ q.1)) (h16 : ∀ x ∈ M, x.1.size = 16) (s : ByteArray) (d : Nat) : Alike d (startM M s d) := by
  refine ⟨fun x hx => h16 x (List.mem_filter.1 hx).1, hone.filter _, fun x hx y hy i hi => ?_⟩
  have e1 := (belowB_iff x.1 s d).1 (List.mem_filter.1 hx).2 i hi
  have e2 := (belowB_iff y.1 s d).1 (List.mem_filter.1 hy).2 i hi
  rw [e1, e2]
theorem sortK_has {M : List PairS} {P : ByteArray → Bool} {k : ByteArray} (h : k ∈ sortK M P) : hasM M k = true := by
  unfold sortK at h
  obtain ⟨l, hl, rfl⟩ := List.mem_map.1 h
  obtain ⟨x, hx, rfl⟩ := List.mem_map.1 ((List.mergeSort_perm _ _).mem_iff.1 hl)
  exact List.any_eq_true.2 ⟨x, (List.mem_filter.1 hx).1, by simp; rfl⟩
theorem sortK_len (M : List PairS) (P : ByteArray → Bool) : (sortK M P).length ≤ M.length := by
  unfold sortK
  rw [List.length_map, List.length_mergeSort, List.length_map]
  exact List.length_filter_le _ _
/-- a tree as the laws make it -/
structure Plain (M : List PairS) : Prop where
  k16 : ∀ x ∈ M, x.1.size = 16
  small : vals_small M
  few : M.length ≤ 1000000
set_option maxRecDepth 100000 in
set_option maxHeartbeats 3200000 in
theorem tnode_any (n0 : Nat) (X : List Nat) (w : World) (b : Nat) (M : List PairS) (s : ByteArray) (z : Int) (hT : TreeK n0 X w b M) (hP : Plain M) (hs : s.size ≤ maxLen) (hr : ShaReady w) :
    Calls Tryd.prog 31 #[.pointer (some ⟨b, 0, none⟩), .string s, .int .i64 z] w fun e w' => e = .returned (.string (nodeAt M s (capD z))) ∧ w.grownBy w' none := by
  have hone := hT.one
  have hg2 : w.grownBy ((w.alloc (.cells #[.string s] 9)).alloc (.cells #[.int .i64 z] 3)) none := grownBy_alloc' (World.grownBy_alloc _ _ _) _
  have hb1 : ((w.alloc (.cells #[.string s] 9)).alloc (.cells #[.int .i64 z] 3)).cell? ⟨w.heap.size, 0, none⟩ = some (.string s) := (World.cell?_alloc_lt _ _ _ (by simp)).trans (cell_of (heap_alloc_at w (.cells #[.string s] 9) _ rfl) 0)
  have hb2 : ((w.alloc (.cells #[.string s] 9)).alloc (.cells #[.int .i64 z] 3)).cell? ⟨w.heap.size + 1, 0, none⟩ = some (.int .i64 z) := cell_of (heap_alloc_at (w.alloc (.cells #[.string s] 9)) (.cells #[.int .i64 z] 3) _ (by simp)) 0
  have HSO := Lib.hid (fun (w2 : World) (q : w.grownBy w2 none) (h1 : w2.cell? ⟨w.heap.size, 0, none⟩ = some (.string s)) (h2 : w2.cell? ⟨w.heap.size + 1, 0, none⟩ = some (.int .i64 z)) =>
    tsort_some n0 X (.pointer (some ⟨w.heap.size, 0, none⟩)) (.pointer (some ⟨w.heap.size + 1, 0, none⟩)) (fun k => belowB k s (capD z)) w2 b M (hT.grown q) hP.few (fun k w' hk q2 => by
      obtain ⟨x, hx, hxk⟩ := List.any_eq_true.1 hk
      have hxk' : x.1 = k := by simpa using hxk
      exact node1_any k s z _ _ (by have := hP.k16 x hx; rw [← hxk']; unfold maxLen; omega) hs w' (q2.cell h1 (by simp)) (q2.cell h2 (by simp))))
  have hperm := pairs_perm hone (fun k => belowB k s (capD z))
  have hal : Alike (capD z) (pairsM M (sortK M fun k => belowB k s (capD z))) := (start_alike hone hP.k16 s (capD z)).perm hperm.symm
  have hris := rises_sortK M (fun k => belowB k s (capD z))
  have hlen := sortK_len M (fun k => belowB k s (capD z))
  have hres : nodeAt M s (capD z) = nodeN (128 - capD z) (pairsM M (sortK M fun k => belowB k s (capD z))) (capD z) := (nodeN_perm _ _ _ _ hperm).symm
  rw [hres]
  have hcd := capD_le z
  have hhas : ∀ k ∈ sortK M (fun k => belowB k s (capD z)), hasM M k = true := fun k hk => sortK_has hk
  generalize sortK M (fun k => belowB k s (capD z)) = L at HSO hal hris hlen hhas ⊢
  obtain ⟨mz, hmz⟩ : ∃ mz, max z 0 = mz := ⟨_, rfl⟩
  have HAB : Hid (∀ (a : Option Addr) (c : Nat) (w' : World), w.grownBy w' none → L.length ≤ c → c ≤ maxLen → StrsAt w' (.slice a L.length c) L → Calls Tryd.prog 56 #[.pointer (some ⟨b, 0, none⟩), .slice a L.length c, .int .i64 mz] w' fun e w'' => e = .returned (.string (nodeN (128 - capD z) (pairsM M L) (capD z))) ∧ w'.grownBy w'' none) := by
    refine Lib.hid (fun a c w' q hc1 hc2 hv => ?_)
    by_cases hz : z ≤ 128
    · have e1 : mz = ((capD z : Nat) : Int) := by rw [← hmz]; unfold capD; omega
      rw [e1]
      exact tabove_any n0 X b M hP.small (128 - capD z) (capD z) a L.length c L w' (by omega) (by have := hP.few; omega) hc1 hc2 (hT.grown q) hv hris hhas hal (hr.grown q)
    · have e1 : capD z = 128 := by unfold capD; omega
      rw [e1] at hal ⊢
      have h1 := hal.few (Nat.le_refl _)
      unfold pairsM at h1
      rw [List.length_map] at h1
      match L, h1, hv, hal, hhas with
      | [], _, _, _, _ => exact above_zero b a c mz w'
      | [k], _, hv, hal, hhas => exact above_one n0 X b M a c k mz w' (hT.grown q) hv (by have := (pairs_key M [k] 128 hal).1 k (by simp); omega) (val_small hP.small k) (hhas k (by simp)) (hr.grown q)
  have HG2 := Lib.hid hg2
  have HB := Lib.hid (And.intro hb1 hb2)
  have HMZ := Lib.hid hmz
  generalize nodeN (128 - capD z) (pairsM M L) (capD z) = R at HAB ⊢
  clear hT hP hs hr hone hperm hal hris hlen hhas hres hcd hg2 hb1 hb2
  go_enter Tryd.func31, Tryd.ntmps31
  clear hmz
  go_wp2_with fail
  refine (HSO.out _ HG2.out HB.out.1 HB.out.2).mono ?_
  rintro e w3 ⟨v, rfl, ho, g3⟩
  have HB3 : Hid (w3.cell? ⟨w.heap.size + 1, 0, none⟩ = some (.int .i64 z)) := Lib.hid (g3.cell HB.out.2 (by simp))
  have HG3 := Lib.hid (grownBy_trans HG2.out g3)
  obtain ⟨a, c, rfl⟩ := slice_own' ho
  have hcc : L.length ≤ c ∧ c ≤ maxLen := by
    rcases own_form' ho with ⟨e1, e2⟩ | ⟨g, c2, e1, e2, e3⟩
    · injection e1 with _ e3 e4; exact ⟨by omega, by unfold maxLen; omega⟩
    · injection e1 with _ e4 e5; subst e5; exact ⟨e2, e3⟩
  have HAA := Lib.hid (HAB.out a c w3 HG3.out hcc.1 hcc.2 (strs_own ho))
  have c3 := HB3.out
  have HMM := HMZ.out
  clear ho g3 hcc HB HG2 HSO
  go_wp2_with fail
  refine HAA.out.mono ?_
  rintro e w4 ⟨rfl, g4⟩
  have HG4 := Lib.hid (grownBy_trans HG3.out g4)
  clear g4
  go_wp2_with fail
  go_ret
  exact ⟨rfl, HG4.out⟩
theorem troot_any (n0 : Nat) (X : List Nat) (w : World) (b : Nat) (M : List PairS) (hT : TreeK n0 X w b M) (hP : Plain M) (hr : ShaReady w) :
    Calls Tryd.prog 20 #[.pointer (some ⟨b, 0, none⟩)] w fun e w' => e = .returned (.string (nodeN 128 M 0)) ∧ w.grownBy w' none := by
  have H := tnode_any n0 X w b M ⟨#[]⟩ 0 hT hP (Nat.zero_le _) hr
  have e : nodeAt M ⟨#[]⟩ (capD 0) = nodeN 128 M 0 := by
    have e1 : capD 0 = 0 := by decide
    have e2 : startM M ⟨#[]⟩ 0 = M := by
      unfold startM
      exact List.filter_eq_self.2 (fun x _ => rfl)
    rw [e1]
    unfold nodeAt
    rw [e2]
  rw [e] at H
  have HN := Lib.hid H
  clear H e hT hP hr
  go_enter Tryd.func20, Tryd.ntmps20
  go_wp2_with fail
  refine HN.out.mono ?_
  rintro e w2 ⟨rfl, g2⟩
  have HG := Lib.hid g2
  clear g2
  go_wp2_with fail
  go_ret
  exact ⟨rfl, HG.out⟩
end Go.Proofs.YtgaenpbdfelhhaaDoor

namespace Go.Proofs.YtgaenpbdfelhhaaDoor
open Go.RowKit
attribute [local irreducible] shaL

theorem half_bits {k s : ByteArray} {d b : Nat} (hb : b ≤ 1) (h : ∀ i, bitS s i = if i < d + 1 then (2 * bandN k d + b) / 2 ^ (d + 1 - 1 - i) % 2 else 0) : (∀ i, i < d → bitS s i = bitS k i) ∧ bitS s d = b := by
  constructor
  · intro i hi
    rw [h i, if_pos (by omega), ← bandN_bit k d i hi, show d + 1 - 1 - i = (d - 1 - i) + 1 by omega, Nat.pow_succ, Nat.mul_comm (2 ^ _) 2, ← Nat.div_div_eq_div_mul]
    congr 2
    omega
  · rw [h d, if_pos (by omega), show d + 1 - 1 - d = 0 by omega]
    omega
theorem start_half {M : List PairS} {k s : ByteArray} {d b : Nat} (h1 : ∀ i, i < d → bitS s i = bitS k i) (h2 : bitS s d = b) : startM M s (d + 1) = side b d (startM M k d) := by
  unfold startM side
  rw [List.filter_filter]
  refine List.filter_congr fun x _ => ?_
  have e : belowB x.1 s d = belowB x.1 k d := by
    rw [Bool.eq_iff_iff, belowB_iff, belowB_iff]
    exact ⟨fun h i hi => (h i hi).trans (h1 i hi), fun h i hi => (h i hi).trans (h1 i hi).symm⟩
  rw [belowB_succ, e, h2, Bool.and_comm]
theorem join_half (l : List PairS) (d : Nat) (hd : d ≤ 15) : joinN (nodeN (127 - d) (side 0 d l) (d + 1)) (nodeN (127 - d) (side 1 d l) (d + 1)) = nodeN (128 - d) l d := by
  by_cases h2 : 2 ≤ l.length
  · rw [show 128 - d = (127 - d) + 1 by omega, nodeN_more _ _ _ h2]
  · match l, h2 with
    | [], _ =>
      show joinN (nodeN _ [] _) (nodeN _ [] _) = _
      rw [nodeN_nil, nodeN_nil]
      unfold joinN
      rw [if_pos ⟨rfl, .inl rfl⟩]
    | [x], _ =>
      have hb := bitS_le x.1 d
      rw [nodeN_one]
      by_cases h : bitS x.1 d = 0
      · have e0 : side 0 d [x] = [x] := by unfold side; simp [h]
        have e1 : side 1 d [x] = [] := by unfold side; simp [h]
        rw [e0, e1, nodeN_one, nodeN_nil]
        unfold joinN
        rw [if_neg (fun q => leafS_ne _ _ q.1), if_pos ⟨rfl, leafS_leaf _ _⟩]
      · have h1 : bitS x.1 d = 1 := by omega
        have e0 : side 0 d [x] = [] := by unfold side; simp [h1]
        have e1 : side 1 d [x] = [x] := by unfold side; simp [h1]
        rw [e0, e1, nodeN_one, nodeN_nil]
        unfold joinN
        rw [if_pos ⟨rfl, .inr (leafS_leaf _ _)⟩]
    | x :: y :: r, h2 => simp at h2
theorem nodeAt_half {M : List PairS} {k s : ByteArray} {d b : Nat} (hd : d ≤ 15) (hb : b ≤ 1) (h : ∀ i, bitS s i = if i < d + 1 then (2 * bandN k d + b) / 2 ^ (d + 1 - 1 - i) % 2 else 0) : nodeAt M s (d + 1) = nodeN (127 - d) (side b d (startM M k d)) (d + 1) := by
  obtain ⟨h1, h2⟩ := half_bits hb h
  unfold nodeAt
  rw [start_half h1 h2, show 128 - (d + 1) = 127 - d by omega]
theorem nodeAt_join {M : List PairS} {k s0 s1 : ByteArray} {d : Nat} (hd : d ≤ 15) (h0 : ∀ i, bitS s0 i = if i < d + 1 then (2 * bandN k d + 0) / 2 ^ (d + 1 - 1 - i) % 2 else 0) (h1 : ∀ i, bitS s1 i = if i < d + 1 then (2 * bandN k d + 1) / 2 ^ (d + 1 - 1 - i) % 2 else 0) :
    joinN (nodeAt M s0 (d + 1)) (nodeAt M s1 (d + 1)) = nodeAt M k d := by
  rw [nodeAt_half hd (by omega) h0, nodeAt_half hd (by omega) h1, join_half _ d hd]
  rfl
end Go.Proofs.YtgaenpbdfelhhaaDoor

namespace Go.Proofs.YtgaenpbdfelhhaaDoor
attribute [local irreducible] shaL

/-- those on the key's own side, and those on the other one -/
def onS (key : ByteArray) (d : Nat) (l : List PairS) : List PairS := side (bitS key d) d l
def offS (key : ByteArray) (d : Nat) (l : List PairS) : List PairS := side (1 - bitS key d) d l
/-- what stands beside the way to a key -/
def wayB (key : ByteArray) : Nat → List PairS → Nat → List ByteArray
  | 0, _, _ => []
  | f + 1, l, d => if l.length < 2 then [] else nodeN f (offS key d l) (d + 1) :: wayB key f (onS key d l) (d + 1)
/-- who is at its end -/
def restB (key : ByteArray) : Nat → List PairS → Nat → List PairS
  | 0, l, _ => l
  | f + 1, l, d => if l.length < 2 then l else restB key f (onS key d l) (d + 1)
def endS : List PairS → ByteArray
  | [] => emptyS
  | x :: _ => leafS x.1 x.2
/-- up from a node, past what stands beside -/
def climbN (key : ByteArray) : Nat → List ByteArray → ByteArray → ByteArray
  | _, [], x => x
  | d, b :: r, x => if bitS key d = 1 then joinN b (climbN key (d + 1) r x) else joinN (climbN key (d + 1) r x) b
theorem endS_few (f : Nat) (l : List PairS) (d : Nat) (h : l.length ≤ 1) : endS l = nodeN f l d := by
  match l, h with
  | [], _ => rw [nodeN_nil]; rfl
  | [x], _ => rw [nodeN_one]; rfl
theorem way_climb (key : ByteArray) : ∀ (f d : Nat) (l : List PairS), d + f = 128 → Alike d l → climbN key d (wayB key f l d) (endS (restB key f l d)) = nodeN f l d := by
  intro f
  induction f with
  | zero =>
    intro d l hd hA
    exact endS_few 0 l d (hA.few (by omega))
  | succ f ih =>
    intro d l hd hA
    unfold wayB restB
    by_cases h : l.length < 2
    · rw [if_pos h, if_pos h]
      exact endS_few (f + 1) l d (by omega)
    · rw [if_neg h, if_neg h, nodeN_more f d l (by omega)]
      unfold climbN
      rw [ih (d + 1) (onS key d l) (by omega) hA.side]
      have hb := bitS_le key d
      unfold onS offS
      by_cases h1 : bitS key d = 1
      · rw [if_pos h1, h1]
      · have h0 : bitS key d = 0 := by omega
        rw [if_neg h1, h0]
theorem rest_few (key : ByteArray) : ∀ (f d : Nat) (l : List PairS), d + f = 128 → Alike d l → (restB key f l d).length ≤ 1 := by
  intro f
  induction f with
  | zero =>
    intro d l hd hA
    exact hA.few (by omega)
  | succ f ih =>
    intro d l hd hA
    unfold restB
    by_cases h : l.length < 2
    · rw [if_pos h]; omega
    · rw [if_neg h]
      exact ih (d + 1) (onS key d l) (by omega) hA.side
theorem way_len (key : ByteArray) : ∀ (f d : Nat) (l : List PairS), (wayB key f l d).length ≤ f := by
  intro f
  induction f with
  | zero => intro d l; exact Nat.le_refl _
  | succ f ih =>
    intro d l
    unfold wayB
    by_cases h : l.length < 2
    · rw [if_pos h]; exact Nat.zero_le _
    · rw [if_neg h, List.length_cons]
      have := ih (d + 1) (onS key d l)
      omega
theorem start_on (M : List PairS) (key : ByteArray) (d : Nat) : onS key d (startM M key d) = startM M key (d + 1) := (start_half (fun _ _ => rfl) rfl).symm
/-- at its end: those that begin as the key does, by as many bits as the way is long -/
theorem rest_start (M : List PairS) (key : ByteArray) : ∀ (f d : Nat), restB key f (startM M key d) d = startM M key (d + (wayB key f (startM M key d) d).length) := by
  intro f
  induction f with
  | zero => intro d; rfl
  | succ f ih =>
    intro d
    unfold restB wayB
    by_cases h : (startM M key d).length < 2
    · rw [if_pos h, if_pos h]; rfl
    · rw [if_neg h, if_neg h, start_on, ih (d + 1), List.length_cons]
      congr 1
      omega
/-- two keys or more: a node that is no leaf's -/
theorem nodeN_both : ∀ (f d : Nat) (l : List PairS), d + f = 128 → Alike d l → 2 ≤ l.length → ∃ a b, nodeN f l d = bothS a b := by
  intro f
  induction f with
  | zero =>
    intro d l hd hA h
    have := hA.few (by omega)
    omega
  | succ f ih =>
    intro d l hd hA h
    rw [nodeN_more f d l h]
    have hl := side_len d l
    have hne : ∀ b, side b d l ≠ [] → nodeN f (side b d l) (d + 1) ≠ emptyS := fun b hq => nodeN_some f (d + 1) _ (by omega) hA.side hq
    unfold joinN
    by_cases h0 : side 0 d l = []
    · have h1 : 2 ≤ (side 1 d l).length := by rw [h0] at hl; simp at hl; omega
      obtain ⟨a, b, e⟩ := ih (d + 1) (side 1 d l) (by omega) hA.side h1
      rw [h0, nodeN_nil, e, if_neg (by rw [bothS_leaf]; exact fun q => by rcases q.2 with q | q; exact bothS_ne _ _ q; cases q), if_neg (fun q => bothS_ne _ _ q.1)]
      exact ⟨_, _, rfl⟩
    · by_cases h1 : side 1 d l = []
      · have h2 : 2 ≤ (side 0 d l).length := by rw [h1] at hl; simp at hl; omega
        obtain ⟨a, b, e⟩ := ih (d + 1) (side 0 d l) (by omega) hA.side h2
        rw [h1, nodeN_nil, e, if_neg (fun q => bothS_ne _ _ q.1), if_neg (by rw [bothS_leaf]; exact fun q => by cases q.2)]
        exact ⟨_, _, rfl⟩
      · rw [if_neg (fun q => hne 0 h0 q.1), if_neg (fun q => hne 1 h1 q.1)]
        exact ⟨_, _, rfl⟩
theorem node_ok {n : ByteArray} (h : NodeS n) : okN n = true := by
  unfold okN beginsB
  cases h
  · simp
  · rename_i k v
    have e : headB (leafS k v) = 1 := head_app 1 _
    rw [leafS_size, e]
    simp
  · rename_i a b
    have e : headB (bothS a b) = 2 := head_app 2 _
    rw [bothS_size, e]
    simp
theorem way_nodes (key : ByteArray) : ∀ (f d : Nat) (l : List PairS), ∀ n ∈ wayB key f l d, NodeS n := by
  intro f
  induction f with
  | zero => intro d l n h; cases h
  | succ f ih =>
    intro d l n h
    unfold wayB at h
    by_cases h2 : l.length < 2
    · rw [if_pos h2] at h; cases h
    · rw [if_neg h2] at h
      rcases List.mem_cons.1 h with rfl | h
      · exact nodeN_node _ _ _
      · exact ih _ _ n h
theorem off_len (key : ByteArray) (d : Nat) (l : List PairS) : (onS key d l).length + (offS key d l).length = l.length := by
  have h := side_len d l
  have hb := bitS_le key d
  unfold onS offS
  by_cases h1 : bitS key d = 1
  · rw [h1, Nat.sub_self]; omega
  · have h0 : bitS key d = 0 := by omega
    rw [h0]; exact h
theorem way_end (key : ByteArray) : ∀ (f d : Nat) (l : List PairS), d + f = 128 → Alike d l → endN (wayB key f l d) (decide ((restB key f l d) ≠ [])) = true := by
  intro f
  induction f with
  | zero => intro d l _ _; rfl
  | succ f ih =>
    intro d l hd hA
    unfold wayB restB
    by_cases h : l.length < 2
    · rw [if_pos h]; rfl
    · rw [if_neg h, if_neg h]
      have h1 := ih (d + 1) (onS key d l) (by omega) hA.side
      rcases hw : wayB key f (onS key d l) (d + 1) with _ | ⟨b, r⟩
      · have hfew : (onS key d l).length ≤ 1 := by
          match f, hw with
          | 0, _ => exact (Alike.side (b := bitS key d) hA).few (by omega)
          | f + 1, hw =>
            unfold wayB at hw
            by_cases q : (onS key d l).length < 2
            · omega
            · rw [if_neg q] at hw; cases hw
        have hrest : restB key f (onS key d l) (d + 1) = onS key d l := by
          match f with
          | 0 => rfl
          | f + 1 => unfold restB; rw [if_pos (by omega)]
        have hol := off_len key d l
        rw [hrest]
        unfold endN
        show (beginsB _ 2 || (_ && !decide (_ = emptyS))) = true
        by_cases h2 : 2 ≤ (offS key d l).length
        · obtain ⟨a, b, e⟩ := nodeN_both f (d + 1) (offS key d l) (by omega) hA.side h2
          have eh : headB (bothS a b) = 2 := head_app 2 _
          rw [e]
          show ((decide ((bothS a b).size = 17) && (headB (bothS a b) == 2)) || (_ && !decide (bothS a b = emptyS))) = true
          rw [bothS_size, eh]
          simp
        · have hon : onS key d l ≠ [] := fun q => by rw [q] at hol; simp at hol; omega
          have hoff : offS key d l ≠ [] := fun q => by rw [q] at hol; simp at hol; omega
          have hne := nodeN_some f (d + 1) (offS key d l) (by omega) hA.side hoff
          simp [hon, hne]
      · rw [hw] at h1
        unfold endN at h1 ⊢
        rw [List.getLast?_cons_cons]
        exact h1
/-- what stands beside a way may be -/
theorem way_may (key : ByteArray) (f d : Nat) (l : List PairS) (hd : d + f = 128) (hA : Alike d l) : besideB (wayB key f l d) (decide ((restB key f l d) ≠ [])) = true := by
  unfold besideB
  rw [way_end key f d l hd hA, Bool.and_true, List.all_eq_true]
  exact fun n hn => node_ok (way_nodes key f d l n hn)
/-- a way from further down: the same, without what stands beside above -/
theorem way_drop (M : List PairS) (key : ByteArray) : ∀ (k f a : Nat), k ≤ (wayB key f (startM M key a) a).length → wayB key (f - k) (startM M key (a + k)) (a + k) = (wayB key f (startM M key a) a).drop k := by
  intro k
  induction k with
  | zero => intro f a _; rfl
  | succ k ih =>
    intro f a h
    match f with
    | 0 => exact absurd h (Nat.not_succ_le_zero k)
    | f + 1 =>
      unfold wayB at h
      by_cases h2 : (startM M key a).length < 2
      · rw [if_pos h2] at h; exact absurd h (Nat.not_succ_le_zero k)
      · rw [if_neg h2, List.length_cons, start_on] at h
        have e := ih f (a + 1) (by omega)
        have e2 : wayB key (f + 1) (startM M key a) a = nodeN f (offS key a (startM M key a)) (a + 1) :: wayB key f (startM M key (a + 1)) (a + 1) := by
          rw [← start_on]
          show (if (startM M key a).length < 2 then [] else _) = _
          rw [if_neg h2]
        rw [e2, List.drop_succ_cons, ← e, show f + 1 - (k + 1) = f - k by omega, show a + (k + 1) = a + 1 + k by omega]
def keyOf : List PairS → ByteArray
  | [] => ⟨#[]⟩
  | x :: _ => x.1
def valOf : List PairS → ByteArray
  | [] => ⟨#[]⟩
  | x :: _ => x.2
/-- a tree's own proof is good -/
theorem way_good (M : List PairS) (key : ByteArray) (d : Nat) (hd : d ≤ 128) (hone : M.Pairwise (fun p q => p.1 ≠ q.1)) (h16 : ∀ x ∈ M, x.1.size = 16) :
    goodB (wayB key (128 - d) (startM M key d) d) (decide ((restB key (128 - d) (startM M key d) d) ≠ [])) (keyOf (restB key (128 - d) (startM M key d) d)) (valOf (restB key (128 - d) (startM M key d) d)) key d = true := by
  have hA := start_alike hone h16 key d
  have h1 := way_may key (128 - d) d (startM M key d) (by omega) hA
  have h2 := rest_start M key (128 - d) d
  unfold goodB
  rw [h1, Bool.true_and]
  generalize wayB key (128 - d) (startM M key d) d = L at h2
  rw [h2]
  rcases hr : startM M key (d + L.length) with _ | ⟨x, r⟩
  · rfl
  · have hx : x ∈ startM M key (d + L.length) := by rw [hr]; exact List.mem_cons_self
    have hx2 := List.mem_filter.1 hx
    have e1 : belowB x.1 key (d + L.length) = true := hx2.2
    have e2 := h16 x hx2.1
    rw [show decide (x :: r ≠ []) = true from rfl, if_pos rfl]
    show (decide (x.1.size = 16) && belowB x.1 key (d + L.length)) = true
    rw [e1, e2]
    rfl
end Go.Proofs.YtgaenpbdfelhhaaDoor

namespace Go.Proofs.YtgaenpbdfelhhaaDoor
attribute [local irreducible] shaL

theorem likeL_like (key : ByteArray) (d : Nat) (L : List ByteArray) : likeL key (d + 1) (likeL key d L) = likeL key (d + 1) L := by
  unfold likeL
  rw [List.filter_filter]
  refine List.filter_congr fun x _ => ?_
  rw [Bool.eq_iff_iff, Bool.and_eq_true]
  refine ⟨fun h => h.1, fun h => ⟨h, ?_⟩⟩
  exact (belowB_iff x key d).2 (fun i hi => (belowB_iff x key (d + 1)).1 h i (by omega))
theorem keysM_perm (M : List PairS) : (keysM M).Perm (M.map Prod.fst) := by
  have h1 : (keysM M).Perm (((M.filter fun _ => true).map fun x => x.1.data.toList).map str) := (List.mergeSort_perm _ _).map str
  rw [List.map_map] at h1
  have e : (M.filter fun _ => true) = M := List.filter_eq_self.2 (fun _ _ => rfl)
  rw [e] at h1
  exact h1
theorem like_perm (M : List PairS) (key : ByteArray) (d : Nat) : (likeL key d (keysM M)).Perm ((startM M key d).map Prod.fst) := by
  have h := (keysM_perm M).filter (fun x => belowB x key d)
  rw [List.filter_map] at h
  exact h
theorem like_len (M : List PairS) (key : ByteArray) (d : Nat) : (likeL key d (keysM M)).length = (startM M key d).length := by
  have := (like_perm M key d).length_eq
  rwa [List.length_map] at this
theorem like_one (M : List PairS) (key : ByteArray) (d : Nat) (h : (startM M key d).length = 1) : likeL key d (keysM M) = [keyOf (startM M key d)] := by
  have hp := like_perm M key d
  match hs : startM M key d, h with
  | [x], _ =>
    rw [hs] at hp
    exact List.perm_singleton.1 hp
theorem like_mem {M : List PairS} {key : ByteArray} {d : Nat} {s : ByteArray} (h16 : ∀ x ∈ M, x.1.size = 16) (h : s ∈ likeL key d (keysM M)) : s.size = 16 := by
  obtain ⟨x, hx, rfl⟩ := List.mem_map.1 ((keysM_perm M).mem_iff.1 (List.mem_filter.1 h).1)
  exact h16 x hx
theorem keys16 {M : List PairS} {s : ByteArray} (h16 : ∀ x ∈ M, x.1.size = 16) (h : s ∈ keysM M) : s.size = 16 := by
  obtain ⟨x, hx, rfl⟩ := List.mem_map.1 ((keysM_perm M).mem_iff.1 h)
  exact h16 x hx
theorem keys_len (M : List PairS) : (keysM M).length = M.length := by rw [(keysM_perm M).length_eq, List.length_map]
theorem val_one {M : List PairS} (hone : M.Pairwise (fun p q => p.1 ≠ q.1)) (key : ByteArray) (d : Nat) (h : (startM M key d).length = 1) : valM M (keyOf (startM M key d)) = valOf (startM M key d) := by
  match hs : startM M key d, h with
  | [x], _ =>
    have hx : x ∈ startM M key d := by rw [hs]; exact List.mem_cons_self
    exact valM_mem hone x (List.mem_filter.1 hx).1
/-- what stands beside the way to a key in a tree, from a depth on; who is at its end -/
def wayT (M : List PairS) (key : ByteArray) (d : Nat) : List ByteArray := wayB key (128 - d) (startM M key d) d
def restT (M : List PairS) (key : ByteArray) (d : Nat) : List PairS := restB key (128 - d) (startM M key d) d
theorem wayT_more {M : List PairS} {key : ByteArray} {d : Nat} (hd : d < 128) (h : 2 ≤ (startM M key d).length) : wayT M key d = nodeN (128 - (d + 1)) (offS key d (startM M key d)) (d + 1) :: wayT M key (d + 1) ∧ restT M key d = restT M key (d + 1) := by
  unfold wayT restT
  have e1 : ∀ (f : Nat) (l : List PairS) (d : Nat), wayB key (f + 1) l d = if l.length < 2 then [] else nodeN f (offS key d l) (d + 1) :: wayB key f (onS key d l) (d + 1) := fun _ _ _ => rfl
  have e2 : ∀ (f : Nat) (l : List PairS) (d : Nat), restB key (f + 1) l d = if l.length < 2 then l else restB key f (onS key d l) (d + 1) := fun _ _ _ => rfl
  rw [show 128 - d = (128 - (d + 1)) + 1 by omega, e1, e2, if_neg (by omega), if_neg (by omega), start_on]
  exact ⟨rfl, rfl⟩
theorem wayT_end {M : List PairS} {key : ByteArray} {d : Nat} (h : (startM M key d).length < 2) : wayT M key d = [] ∧ restT M key d = startM M key d := by
  unfold wayT restT
  match 128 - d with
  | 0 => exact ⟨rfl, rfl⟩
  | f + 1 =>
    unfold wayB restB
    rw [if_pos h, if_pos h]
    exact ⟨rfl, rfl⟩
theorem beside_node {M : List PairS} {key s : ByteArray} {d : Nat} (hd : d < 128) (hs : ∀ i, i < 128 → bitS s i = if i = d then 1 - bitS key i else bitS key i) : nodeAt M s (d + 1) = nodeN (128 - (d + 1)) (offS key d (startM M key d)) (d + 1) := by
  unfold nodeAt offS
  rw [start_half (k := key) (b := 1 - bitS key d) (fun i hi => by rw [hs i (by omega), if_neg (by omega)]) (by rw [hs d hd, if_pos rfl])]
theorem start_two {M : List PairS} (hone : M.Pairwise (fun p q => p.1 ≠ q.1)) (h16 : ∀ x ∈ M, x.1.size = 16) {key : ByteArray} {d : Nat} (hd : d ≤ 128) (h : 2 ≤ (startM M key d).length) : d < 128 := by
  rcases Nat.lt_or_ge d 128 with q | q
  · exact q
  · have := (start_alike hone h16 key d).few q
    omega
theorem capD_at (d : Nat) (h : d ≤ 128) : capD (d : Int) = d := by unfold capD; omega
end Go.Proofs.YtgaenpbdfelhhaaDoor

namespace Go.Proofs.YtgaenpbdfelhhaaDoor
open Go.RowKit Go.Maps
attribute [local irreducible] shaL

def ofBand (d b : Nat) (L : List ByteArray) : List ByteArray := L.filter fun x => bandN x d == b
theorem delete_band (B : Nat) (v : Value) (L : List ByteArray) (d b : Nat) (hd : d ≤ 16) (w : World) (hv : w.ownsRow B 9 1 v L.length (strsV L)) (hl : L.length ≤ 1000000) (hs : ∀ s ∈ L, s.size ≤ maxLen) (B1 B2 : Nat) (h1 : w.cell? ⟨B1, 0, none⟩ = some (.int .i64 d)) (h2 : w.cell? ⟨B2, 0, none⟩ = some (.int .i64 b)) (hB : B1 < B ∧ B2 < B) :
    Calls Tryd.prog 34 #[v, .func (Fn.func 36) #[] #[.pointer (some ⟨B1, 0, none⟩), .pointer (some ⟨B2, 0, none⟩)]] w fun e w' => ∃ v', e = .returned v' ∧ w'.ownsRow B 9 1 v' (ofBand d b L).length (strsV (ofBand d b L)) ∧ w.grownBy w' v.ownBlock := by
  have hlt := hv.lt
  rcases hv.2 with ⟨rfl, h0⟩ | ⟨g, cap, cur, rfl, hB', hg, hnc, hm, hcs, htake⟩
  · obtain rfl : L = [] := List.length_eq_zero_iff.1 h0
    refine (delete_bnil _ _ _).mono ?_
    rintro e w' ⟨rfl, g'⟩
    exact ⟨_, rfl, World.ownsRow_nil _ _ _ _, g'⟩
  · have hgl := (hlt g rfl).1
    refine (delete_bkeys (fun x => (bandN x d : Int) != (b : Int)) B g L.length cap L w _ _ hv hl hnc (fun k w' hk' g' => ?_)).mono ?_
    · exact bkeys1_any k (hs k hk') d hd b B1 B2 w' (g'.cell h1 (by simp; omega)) (g'.cell h2 (by simp; omega))
    · rintro e w' ⟨m, rfl, ho, g'⟩
      have e1 : (L.filter fun x => !((bandN x d : Int) != (b : Int))) = ofBand d b L := by
        unfold ofBand
        refine List.filter_congr fun x _ => ?_
        rw [Bool.eq_iff_iff]
        simp
        omega
      rw [e1] at ho
      have hm2 : m = (ofBand d b L).length := by have := ho.1; rw [strsV_length] at this; omega
      rw [hm2] at ho ⊢
      exact ⟨_, rfl, ho, g'⟩
set_option maxRecDepth 100000 in
set_option maxHeartbeats 3200000 in
theorem bkeys_any (n0 : Nat) (X : List Nat) (w : World) (tb : Nat) (M : List PairS) (b d : Nat) (hT : TreeK n0 X w tb M) (hP : Plain M) (hd : d ≤ 4) (hb : b < 2 ^ d) :
    Calls Tryd.prog 16 #[.pointer (some ⟨tb, 0, none⟩), .int .i64 b, .int .i64 d] w fun e w' => ∃ v, e = .returned (.tuple #[v, .int .i64 0]) ∧ w'.ownsRow w.heap.size 9 1 v (ofBand d b (keysM M)).length (strsV (ofBand d b (keysM M))) ∧ w.grownBy w' none := by
  have hb1 := heap_alloc_at w (.cells #[.int .i64 b] 3) _ rfl
  have hg1 : w.grownBy (w.alloc (.cells #[.int .i64 b] 3)) none := World.grownBy_alloc _ _ _
  have hb2 := heap_alloc_at (w.alloc (.cells #[.int .i64 b] 3)) (.cells #[.int .i64 d] 3) _ rfl
  have hg2 : (w.alloc (.cells #[.int .i64 b] 3)).grownBy ((w.alloc (.cells #[.int .i64 b] 3)).alloc (.cells #[.int .i64 d] 3)) none := World.grownBy_alloc _ _ _
  have hsz : (w.alloc (.cells #[.int .i64 b] 3)).heap.size = w.heap.size + 1 := by simp
  rw [hsz] at hb2
  have hsz2 : ((w.alloc (.cells #[.int .i64 b] 3)).alloc (.cells #[.int .i64 d] 3)).heap.size = w.heap.size + 2 := by simp
  have hb3 := hg2.heap hb1 (by simp)
  have hg3 := grownBy_trans hg1 hg2
  obtain ⟨W0, hW0⟩ : ∃ W0, (w.alloc (.cells #[.int .i64 b] 3)).alloc (.cells #[.int .i64 d] 3) = W0 := ⟨_, rfl⟩
  rw [hW0] at hb2 hb3 hg3 hsz2
  have HW0 := Lib.hid hW0
  obtain ⟨n, hn⟩ : ∃ n, w.heap.size = n := ⟨_, rfl⟩
  rw [hn] at hb2 hb3 hsz2
  have HN := Lib.hid hn
  have c1 : W0.cell? ⟨n, 0, none⟩ = some (.int .i64 b) := by rw [cell_of hb3]; rfl
  have c2 : W0.cell? ⟨n + 1, 0, none⟩ = some (.int .i64 d) := by rw [cell_of hb2]; rfl
  have c1' : W0.cell? ⟨w.heap.size, 0, none⟩ = some (.int .i64 b) := by rw [hn]; exact c1
  have c2' : W0.cell? ⟨w.heap.size + 1, 0, none⟩ = some (.int .i64 d) := by rw [hn]; exact c2
  have HK := Lib.hid (tkeys_any n0 X W0.drew tb M ((hT.grown hg3).grown (grownBy_drew (World.grownBy.refl _ _))) hP.few)
  have HC := Lib.hid (fun w' => bcount_in d hd w')
  have HDEL : Hid (∀ (v : Value) (w' : World), W0.grownBy w' none → w'.ownsRow (n + 2) 9 1 v (keysM M).length (strsV (keysM M)) → Calls Tryd.prog 34 #[v, .func (Fn.func 36) #[] #[.pointer (some ⟨n + 1, 0, none⟩), .pointer (some ⟨n, 0, none⟩)]] w' fun e w'' => ∃ v', e = .returned v' ∧ w''.ownsRow (n + 2) 9 1 v' (ofBand d b (keysM M)).length (strsV (ofBand d b (keysM M))) ∧ w'.grownBy w'' v.ownBlock) := by
    intro v w' g ho
    exact delete_band (n + 2) v (keysM M) d b (by omega) w' ho (by rw [keys_len]; exact hP.few) (fun s hs => by rw [keys16 hP.k16 hs]; unfold maxLen; omega) (n + 1) n (g.cell c2 (by simp)) (g.cell c1 (by simp)) ⟨by omega, by omega⟩
  have hpow : ((2 ^ d : Nat) : Int) > (b : Int) := by omega
  have hp0 : (((2 ^ d : Nat) : Int) == 0) = false := beq_eq_false_iff_ne.2 (by omega)
  have hp1 : ¬ (b : Int) ≥ ((2 ^ d : Nat) : Int) := by omega
  have hp2 : ¬ (b : Int) < 0 := by omega
  have H0 := Lib.hid (And.intro hg3 hsz2)
  generalize ((2 ^ d : Nat) : Int) = Z at HC hpow hp0 hp1
  clear hb1 hg1 hb2 hg2 hsz hb3 hg3 hW0 hn hT hP hd hb hpow hsz2
  go_enter Tryd.func16, Tryd.ntmps16
  go_wp2_with (rw [HW0.out])
  refine (HC.out _).mono ?_
  rintro e w1 ⟨rfl, rfl⟩
  rw [HN.out]
  clear c1' c2'
  go_wp2_with fail
  go_region_held3 (fun w' => w'.cell? ⟨n, 0, none⟩ = some (.int .i64 b) ∧ w'.cell? ⟨n + 1, 0, none⟩ = some (.int .i64 d)) (first | exact ck | exact ⟨c1, c2⟩)
    (first
      | (go_at_call 14; (with_reducible refine (HC.out _).mono ?_); rintro e w6 ⟨rfl, rfl⟩; have ck : W0.drew.cell? ⟨n, 0, none⟩ = some (.int .i64 b) ∧ W0.drew.cell? ⟨n + 1, 0, none⟩ = some (.int .i64 d) := ⟨c1, c2⟩))
  go_wp2_with fail
  refine HK.out.mono ?_
  rintro e w2 ⟨v2, rfl, ho2, g2⟩
  have g02 : W0.grownBy w2 none := grownBy_trans (grownBy_drew (World.grownBy.refl W0 none)) g2
  have ho2' : w2.ownsRow (n + 2) 9 1 v2 (keysM M).length (strsV (keysM M)) := own_low ho2 (by show n + 2 ≤ W0.heap.size; rw [H0.out.2]; exact Nat.le_refl _)
  have HD2 := Lib.hid (HDEL.out v2 w2 g02 ho2')
  have H2 := Lib.hid (And.intro g02 (fun g e => (ho2'.lt g e).1))
  clear ho2 g2 g02 ho2' HK HDEL c1 c2
  go_wp2_with fail
  refine HD2.out.mono ?_
  rintro e w3 ⟨v3, rfl, ho3, g3⟩
  have H3 := Lib.hid (And.intro ho3 (grown_row (grownBy_trans H0.out.1 H2.out.1) g3 (fun x e => by have := H2.out.2 x e; have := HN.out; omega)))
  clear ho3 g3
  go_wp2_with fail
  go_returns
  exact ⟨_, rfl, own_low H3.out.1 (by have := HN.out; omega), H3.out.2⟩
end Go.Proofs.YtgaenpbdfelhhaaDoor

namespace Go.Proofs.YtgaenpbdfelhhaaDoor
open Go.RowKit Go.Maps
attribute [local irreducible] shaL

theorem two_boxes (w : World) (b d : Int) (n : Nat) (hn : w.heap.size = n) : ∃ W0, (w.alloc (.cells #[.int .i64 b] 3)).alloc (.cells #[.int .i64 d] 3) = W0 ∧ W0.cell? ⟨w.heap.size, 0, none⟩ = some (.int .i64 b) ∧ W0.cell? ⟨w.heap.size + 1, 0, none⟩ = some (.int .i64 d) ∧ w.grownBy W0 none := by
  have hb1 := heap_alloc_at w (.cells #[.int .i64 b] 3) _ rfl
  have hg1 : w.grownBy (w.alloc (.cells #[.int .i64 b] 3)) none := World.grownBy_alloc _ _ _
  have hb2 := heap_alloc_at (w.alloc (.cells #[.int .i64 b] 3)) (.cells #[.int .i64 d] 3) _ rfl
  have hg2 : (w.alloc (.cells #[.int .i64 b] 3)).grownBy ((w.alloc (.cells #[.int .i64 b] 3)).alloc (.cells #[.int .i64 d] 3)) none := World.grownBy_alloc _ _ _
  have hsz : (w.alloc (.cells #[.int .i64 b] 3)).heap.size = w.heap.size + 1 := by simp
  rw [hsz] at hb2
  exact ⟨_, rfl, by rw [cell_of (hg2.heap hb1 (by simp))]; rfl, by rw [cell_of hb2]; rfl, grownBy_trans hg1 hg2⟩
set_option maxRecDepth 100000 in
set_option maxHeartbeats 1600000 in
theorem bkeys_out (t : Value) (b z : Int) (hz : z < 0 ∨ z > 4) (w : World) : Calls Tryd.prog 16 #[t, .int .i64 b, .int .i64 z] w fun e w' => e = .returned (.tuple #[.slice none 0 0, .int .i64 1]) ∧ w.grownBy w' none := by
  obtain ⟨W0, hW0, c1, c2, hg⟩ := two_boxes w b z _ rfl
  have HW0 := Lib.hid hW0
  have HC := Lib.hid (fun w' => bcount_out z hz w')
  have HG := Lib.hid hg
  clear hz hW0 hg
  go_enter Tryd.func16, Tryd.ntmps16
  go_wp2_with (rw [HW0.out])
  refine (HC.out _).mono ?_
  rintro e w1 ⟨rfl, rfl⟩
  go_wp2_with fail
  go_returns
  exact ⟨rfl, HG.out⟩
set_option maxRecDepth 100000 in
set_option maxHeartbeats 1600000 in
theorem bkeys_range (t : Value) (b d : Nat) (hd : d ≤ 4) (hb : 2 ^ d ≤ b) (w : World) : Calls Tryd.prog 16 #[t, .int .i64 b, .int .i64 d] w fun e w' => e = .returned (.tuple #[.slice none 0 0, .int .i64 10]) ∧ w.grownBy w' none := by
  obtain ⟨W0, hW0, c1, c2, hg⟩ := two_boxes w b d _ rfl
  have HW0 := Lib.hid hW0
  have HC := Lib.hid (fun w' => bcount_in d hd w')
  have HG := Lib.hid hg
  have hpos : 0 < 2 ^ d := Nat.pow_pos (by decide)
  have hp0 : (((2 ^ d : Nat) : Int) == 0) = false := beq_eq_false_iff_ne.2 (by omega)
  have hp1 : (b : Int) ≥ ((2 ^ d : Nat) : Int) := by omega
  have hp2 : ¬ (b : Int) < 0 := by omega
  generalize ((2 ^ d : Nat) : Int) = Z at HC hp0 hp1
  obtain ⟨n, hn⟩ : ∃ n, w.heap.size = n := ⟨_, rfl⟩
  have HN := Lib.hid hn
  clear hd hb hW0 hg hpos hn
  go_enter Tryd.func16, Tryd.ntmps16
  go_wp2_with (rw [HW0.out])
  refine (HC.out _).mono ?_
  rintro e w1 ⟨rfl, rfl⟩
  rw [HN.out] at c1 c2 ⊢
  go_wp2_with fail
  go_region_held3 (fun w' => w'.cell? ⟨n, 0, none⟩ = some (.int .i64 b) ∧ w'.cell? ⟨n + 1, 0, none⟩ = some (.int .i64 d)) (first | exact ck | exact ⟨c1, c2⟩)
    (first
      | (go_at_call 14; (with_reducible refine (HC.out _).mono ?_); rintro e w6 ⟨rfl, rfl⟩; have ck : W0.drew.cell? ⟨n, 0, none⟩ = some (.int .i64 b) ∧ W0.drew.cell? ⟨n + 1, 0, none⟩ = some (.int .i64 d) := ⟨c1, c2⟩))
  go_wp2_with fail
  go_returns
  exact ⟨rfl, grownBy_drew HG.out⟩
end Go.Proofs.YtgaenpbdfelhhaaDoor

namespace Go.Proofs.YtgaenpbdfelhhaaDoor
open Go.RowKit Go.Maps
attribute [local irreducible] shaL

/-- the pairs of a band -/
def bandS (M : List PairS) (d b : Nat) : List PairS := M.filter fun x => bandN x.1 d == b
def nodesB (M : List PairS) (d : Nat) : List ByteArray := (List.range (2 ^ d)).map fun b => nodeN (128 - d) (bandS M d b) d
theorem nodesB_len (M : List PairS) (d : Nat) : (nodesB M d).length = 2 ^ d := by simp [nodesB]
theorem band_first {s : ByteArray} {b d : Nat} (hb : b < 2 ^ d) (hs : ∀ i, bitS s i = if i < d then b / 2 ^ (d - 1 - i) % 2 else 0) (k : ByteArray) : belowB k s d = (bandN k d == b) := by
  have hN : bandN s d = b := by
    have h := band_of_bits s b d (fun i hi => by rw [hs i, if_pos hi]) d (Nat.le_refl _)
    rw [h, Nat.sub_self, Nat.pow_zero, Nat.div_one, Nat.mod_eq_of_lt hb]
  rw [Bool.eq_iff_iff, belowB_iff, beq_iff_eq]
  constructor
  · intro h
    rw [bandN_same k s d h, hN]
  · intro h i hi
    rw [← bandN_bit k d i hi, ← bandN_bit s d i hi, h, hN]
theorem start_band {s : ByteArray} {b d : Nat} (hb : b < 2 ^ d) (hs : ∀ i, bitS s i = if i < d then b / 2 ^ (d - 1 - i) % 2 else 0) (M : List PairS) : startM M s d = bandS M d b := by
  unfold startM bandS
  exact List.filter_congr fun x _ => band_first hb hs x.1
theorem first_intB (b d : Nat) (hd : d ≤ 16) (hb : b < 2 ^ d) (w : World) :
    Calls Tryd.prog 32 #[.int .i64 b, .int .i64 d] w fun e w' => ∃ s : ByteArray, e = .returned (.string s) ∧ (s.size ≤ maxLen ∧ ∀ i, bitS s i = if i < d then b / 2 ^ (d - 1 - i) % 2 else 0) ∧ w.grownBy w' none := by
  refine (first_any b d hd hb w).mono ?_
  rintro e w' ⟨l, rfl, ⟨hl, hbits⟩, g⟩
  exact ⟨str l, rfl, ⟨by show l.length ≤ maxLen; unfold maxLen; omega, hbits⟩, g⟩
set_option maxRecDepth 100000 in
set_option maxHeartbeats 3200000 in
theorem bnodes_any (n0 : Nat) (X : List Nat) (w : World) (tb : Nat) (M : List PairS) (d : Nat) (hT : TreeK n0 X w tb M) (hP : Plain M) (hd : d ≤ 4) (hr : ShaReady w) :
    Calls Tryd.prog 12 #[.pointer (some ⟨tb, 0, none⟩), .int .i64 d] w fun e w' => ∃ v, e = .returned (.tuple #[v, .int .i64 0]) ∧ w'.ownsRow w.heap.size 9 1 v (nodesB M d).length (strsV (nodesB M d)) ∧ w.grownBy w' none := by
  obtain ⟨i0, hti, hz0, hz1, hz2⟩ := info_parts infoStrW
  have HC := Lib.hid (fun w' => bcount_in d hd w')
  have hpos : 0 < 2 ^ d := Nat.pow_pos (by decide)
  have hle : 2 ^ d ≤ 2 ^ 4 := Nat.pow_le_pow_right (by decide) hd
  have HF := Lib.hid (fun (b : Nat) (hb : b < 2 ^ d) (w' : World) => first_intB b d (by omega) hb w')
  have HN : Hid (∀ (b : Nat) (s : ByteArray) (w' : World), b < 2 ^ d → (s.size ≤ maxLen ∧ ∀ i, bitS s i = if i < d then b / 2 ^ (d - 1 - i) % 2 else 0) → w.grownBy w' none → Calls Tryd.prog 31 #[.pointer (some ⟨tb, 0, none⟩), .string s, .int .i64 d] w' fun e w'' => e = .returned (.string (nodeN (128 - d) (bandS M d b) d)) ∧ w'.grownBy w'' none) := by
    intro b s w' hb hs g
    have h := tnode_any n0 X w' tb M s (d : Int) (hT.grown g) hP hs.1 (hr.grown g)
    rw [capD_at d (by omega)] at h
    unfold nodeAt at h
    rw [start_band hb hs.2] at h
    exact h
  have hlen := nodesB_len M d
  have hat : ∀ i, i < 2 ^ d → (nodesB M d)[i]? = some (nodeN (128 - d) (bandS M d i) d) := fun i hi => by unfold nodesB; rw [List.getElem?_map, List.getElem?_range hi]; rfl
  obtain ⟨NB, hNB⟩ : ∃ l, nodesB M d = l := ⟨_, rfl⟩
  rw [hNB] at hlen hat ⊢
  obtain ⟨N, hN⟩ : ∃ N, 2 ^ d = N := ⟨_, rfl⟩
  rw [hN] at HC HF HN hlen hat hpos hle
  have HLA := Lib.hid (And.intro hlen hat)
  have hp0 : ((N : Int) == 0) = false := beq_eq_false_iff_ne.2 (by omega)
  have h16 : N ≤ 16 := hle
  clear hT hP hd hr hlen hat hNB hN hle
  go_enter Tryd.func12, Tryd.ntmps12
  go_wp2_with fail
  refine (HC.out _).mono ?_
  rintro e w1 ⟨rfl, rfl⟩
  go_wp2_with fail
  refine (HC.out _).mono ?_
  rintro e w1 ⟨rfl, rfl⟩
  go_wp2_with fail
  go_loopw [6, 7, 13] (fun vv _ iv wr => ∃ i : Nat, i ≤ N ∧ iv = .int .i64 i ∧ Hid (wr.ownsRow w.heap.size 9 1 vv i (strsV (NB.take i))) ∧ Hid (w.grownBy wr none)) (fun _ _ iv _ => N - (intOf iv).toNat)
  case atStart => exact ⟨0, Nat.zero_le _, rfl, World.ownsRow_nil _ _ _ _, World.grownBy.refl _ _⟩
  case round =>
    obtain ⟨i, hi, rfl, HO, HG⟩ := hrel
    obtain ⟨av, cv, rfl⟩ := slice_own' HO.out
    by_cases hlt : i < N
    · have e1 : (i : Int) < (N : Int) := by omega
      have htk := take_succ_at (HLA.out.2 i hlt)
      obtain ⟨x, hx⟩ : ∃ x, nodeN (128 - d) (bandS M d i) d = x := ⟨_, rfl⟩
      rw [hx] at htk
      have hnn := HN.out i
      rw [hx] at hnn
      have HNN := Lib.hid (fun s w' hs g => hnn s w' hlt hs g)
      have HTK := Lib.hid htk
      have HFF := Lib.hid (HF.out i hlt)
      have hlm : i + 1 ≤ maxLen := by unfold maxLen; omega
      have hlm2 : (i + 1) * 16 ≤ 140737488355328 := by omega
      have HLM := Lib.hid (And.intro hlm (And.intro hlm2 (show ∀ u ∈ [Value.string x], u.oneCell' = true from fun u hu => by rw [List.mem_singleton.1 hu]; rfl)))
      clear htk hx hnn hlm hlm2
      go_wp2_with fail
      refine (HFF.out _).mono ?_
      rintro e w2 ⟨s, rfl, hs, g2⟩
      have HN2 := Lib.hid (HNN.out s w2 hs (grownBy_trans HG.out g2))
      have HG2 := Lib.hid (And.intro (grownBy_trans HG.out g2) g2)
      clear hs g2
      go_wp2_with fail
      refine HN2.out.mono ?_
      rintro e w3 ⟨rfl, g3⟩
      have g3' := grownBy_trans HG2.out.2 g3
      have HO3 := Lib.hid (And.intro (own_keep HO.out g3' (fun _ _ e => by cases e)) (grownBy_trans HG2.out.1 g3))
      clear g3 g3'
      go_wp2_with (at_builtin; refine wpList_append_own _ rfl _ _ 34 rfl w.heap.size 9 i0 (.string ⟨#[]⟩) 1 16 Tryd.underlying34 hti hz0 hz1 hz2 rfl (by decide) _ _ _ rfl (HO3.out.1.alloc _) ⟨w3.heap.size, 0, none⟩ 1 1 [.string x] rfl rfl (cell_one_new _ _ _) HLM.out.2.2 HLM.out.1 HLM.out.2.1 (Nat.le_trans HO3.out.2.size (by simp)) ?_)
      intro v' w4 ho hg4 _
      have HO4 := Lib.hid (And.intro ho hg4)
      clear ho hg4
      go_wp2_with fail
      go_roundw
      case rel =>
        refine ⟨i + 1, by omega, by go_num, ?_, ?_⟩
        · show World.ownsRow _ _ _ _ _ _ _
          have ho := HO4.out.1
          rw [push_strs] at ho
          rw [HTK.out]
          exact ho
        · exact grown_row (grownBy_alloc' HO3.out.2 _) HO4.out.2 (fun g e => (HO3.out.1.lt g e).1)
      case measure => simp [intOf]; omega
    · have e1 : ¬ (i : Int) < (N : Int) := by omega
      have hin : NB.take i = NB := List.take_of_length_le (by have := HLA.out.1; omega)
      have hiN : i = NB.length := by have := HLA.out.1; omega
      rw [hin] at HO
      have HIN := Lib.hid hiN
      clear hin hiN
      go_wp2_with fail
      go_returns
      refine ⟨_, rfl, ?_, HG.out⟩
      rw [← HIN.out]
      exact HO.out
end Go.Proofs.YtgaenpbdfelhhaaDoor

namespace Go.Proofs.YtgaenpbdfelhhaaDoor
open Go.RowKit Go.Maps
attribute [local irreducible] shaL

abbrev TwoS := UInt8 × UInt8
/-- a list of pairs of bytes, as it came in -/
def TwosAt (w : World) (v : Value) (L : List TwoS) : Prop :=
  ∃ a cap, v = .slice a L.length cap ∧ ∀ i (h : i < L.length), ∃ g o, a = some ⟨g, o, none⟩ ∧ w.cell? ⟨g, o + i * 2, none⟩ = some (.int .u8 (UInt8.toNat L[i].1)) ∧ w.cell? ⟨g, o + i * 2 + 1, none⟩ = some (.int .u8 (UInt8.toNat L[i].2))
def vS : ByteArray := ⟨#[118]⟩
/-- the pairs that they make -/
def twosM (L : List TwoS) : List PairS := L.foldl (fun M p => setM M (keyS14 p.1 p.2, vS)) []
theorem twosM_snoc (L : List TwoS) (p : TwoS) : twosM (L ++ [p]) = setM (twosM L) (keyS14 p.1 p.2, vS) := by
  unfold twosM
  rw [List.foldl_append]
  rfl
theorem setM_len' (M : List PairS) (x : PairS) : (setM M x).length ≤ M.length + 1 := by
  unfold setM
  rw [List.length_append, List.length_singleton]
  have := List.length_filter_le (fun p : PairS => !decide (p.1 = x.1)) M
  omega
theorem twosM_all : ∀ (L : List TwoS) (M : List PairS), (∀ x ∈ M, x.1.size = 16 ∧ x.2.size ≤ 20) → (∀ x ∈ L.foldl (fun M p => setM M (keyS14 p.1 p.2, vS)) M, x.1.size = 16 ∧ x.2.size ≤ 20) ∧ (L.foldl (fun M p => setM M (keyS14 p.1 p.2, vS)) M).length ≤ M.length + L.length
  | [], M, h => ⟨h, by simp⟩
  | p :: r, M, h => by
    have h1 := twosM_all r (setM M (keyS14 p.1 p.2, vS)) (by
      intro y hy
      rcases List.mem_append.1 hy with hy | hy
      · exact h y (List.mem_filter.1 hy).1
      · rw [List.mem_singleton.1 hy]; exact ⟨keyS14_size _ _, by show 1 ≤ 20; decide⟩)
    refine ⟨h1.1, Nat.le_trans h1.2 ?_⟩
    have := setM_len' M (keyS14 p.1 p.2, vS)
    simp only [List.length_cons]
    omega
theorem twosM_ok (L : List TwoS) (hL : L.length ≤ 14) : (∀ x ∈ twosM L, x.1.size = 16 ∧ x.2.size ≤ 20) ∧ (twosM L).length ≤ 14 := by
  have h := twosM_all L [] (fun x hx => by cases hx)
  refine ⟨h.1, ?_⟩
  have := h.2
  simp only [List.length_nil] at this
  unfold twosM
  omega
theorem plain14 {M : List PairS} (h : ∀ x ∈ M, x.1.size = 16 ∧ x.2.size ≤ 20) (hl : M.length ≤ 14) : Plain M := ⟨fun x hx => (h x hx).1, fun x hx => by have := (h x hx).2; omega, by omega⟩
theorem band_alike {M : List PairS} (hone : M.Pairwise (fun p q => p.1 ≠ q.1)) (h16 : ∀ x ∈ M, x.1.size = 16) (d b : Nat) : Alike d (bandS M d b) := by
  refine ⟨fun x hx => h16 x (List.mem_filter.1 hx).1, hone.filter _, fun x hx y hy i hi => ?_⟩
  have h1 := (List.mem_filter.1 hx).2
  have h2 := (List.mem_filter.1 hy).2
  simp only [beq_iff_eq] at h1 h2
  rw [← bandN_bit x.1 d i hi, ← bandN_bit y.1 d i hi, h1, h2]
theorem ofBand_len (M : List PairS) (d b : Nat) : (ofBand d b (keysM M)).length = (bandS M d b).length := by
  have h := (keysM_perm M).filter (fun x => bandN x d == b)
  unfold ofBand bandS
  rw [h.length_eq, List.filter_map, List.length_map]
  rfl
theorem bandS_len (M : List PairS) (d b : Nat) : (bandS M d b).length ≤ M.length := List.length_filter_le _ M
theorem nodesB_at (M : List PairS) (d b : Nat) (hb : b < 2 ^ d) : (nodesB M d)[b]? = some (nodeN (128 - d) (bandS M d b) d) := by
  unfold nodesB
  rw [List.getElem?_map, List.getElem?_range hb]
  rfl
theorem bandS_take (M : List PairS) (d b i : Nat) (h : i < M.length) : bandS (M.take (i + 1)) d b = bandS (M.take i) d b ++ (if bandN M[i].1 d == b then [M[i]] else []) := filter_step M (fun x => bandN x.1 d == b) i h
theorem bnodes_out (t : Value) (z : Int) (hz : z < 0 ∨ z > 4) (w : World) :
    Calls Tryd.prog 12 #[t, .int .i64 z] w fun e w' => e = .returned (.tuple #[.slice none 0 0, .int .i64 1]) ∧ w = w' := by
  have HC := Lib.hid (fun w' => bcount_out z hz w')
  go_enter Tryd.func12, Tryd.ntmps12
  go_wp2_with fail
  refine (HC.out _).mono ?_
  rintro e w1 ⟨rfl, rfl⟩
  go_wp2_with fail
  go_returns
  exact ⟨rfl, rfl⟩
end Go.Proofs.YtgaenpbdfelhhaaDoor

namespace Go.Proofs.YtgaenpbdfelhhaaDoor
open Go.RowKit Go.Maps
attribute [local irreducible] shaL

abbrev PutS := UInt8 × UInt8 × ByteArray
/-- a list of puts, as it came in -/
def PutsAt (w : World) (v : Value) (L : List PutS) : Prop :=
  ∃ a cap, v = .slice a L.length cap ∧ ∀ i (h : i < L.length), ∃ g o, a = some ⟨g, o, none⟩ ∧ w.cell? ⟨g, o + i * 3, none⟩ = some (.int .u8 (UInt8.toNat L[i].1)) ∧ w.cell? ⟨g, o + i * 3 + 1, none⟩ = some (.int .u8 (UInt8.toNat L[i].2.1)) ∧ w.cell? ⟨g, o + i * 3 + 2, none⟩ = some (.string L[i].2.2)
def cut20 (s : ByteArray) : ByteArray := s.extract 0 (min s.size 20)
theorem cut20_size (s : ByteArray) : (cut20 s).size ≤ 20 := by
  unfold cut20
  rw [ByteArray.size_extract]
  omega
theorem cut20_eq (s : ByteArray) : s.extract 0 (min (s.size : Int) 20).toNat = cut20 s := by
  unfold cut20
  congr 1
  omega
/-- the pairs that they make -/
def bothM (L : List PutS) : List PairS := L.foldl (fun M p => setM M (keyS14 p.1 p.2.1, cut20 p.2.2)) []
theorem bothM_snoc (L : List PutS) (p : PutS) : bothM (L ++ [p]) = setM (bothM L) (keyS14 p.1 p.2.1, cut20 p.2.2) := by
  unfold bothM
  rw [List.foldl_append]
  rfl
theorem setM_len (M : List PairS) (x : PairS) : (setM M x).length ≤ M.length + 1 := by
  unfold setM
  rw [List.length_append, List.length_singleton]
  have := List.length_filter_le (fun p : PairS => !decide (p.1 = x.1)) M
  omega
theorem setM_all {M : List PairS} {x : PairS} {P : PairS → Prop} (h : ∀ y ∈ M, P y) (hx : P x) : ∀ y ∈ setM M x, P y := by
  intro y hy
  rcases List.mem_append.1 hy with hy | hy
  · exact h y (List.mem_filter.1 hy).1
  · rw [List.mem_singleton.1 hy]; exact hx
theorem bothM_all : ∀ (L : List PutS) (M : List PairS), (∀ x ∈ M, x.1.size = 16 ∧ x.2.size ≤ 20) → (∀ x ∈ L.foldl (fun M p => setM M (keyS14 p.1 p.2.1, cut20 p.2.2)) M, x.1.size = 16 ∧ x.2.size ≤ 20) ∧ (L.foldl (fun M p => setM M (keyS14 p.1 p.2.1, cut20 p.2.2)) M).length ≤ M.length + L.length
  | [], M, h => ⟨h, by simp⟩
  | p :: r, M, h => by
    have h1 := bothM_all r (setM M (keyS14 p.1 p.2.1, cut20 p.2.2)) (setM_all h ⟨keyS14_size _ _, cut20_size _⟩)
    refine ⟨h1.1, Nat.le_trans h1.2 ?_⟩
    have := setM_len M (keyS14 p.1 p.2.1, cut20 p.2.2)
    simp only [List.length_cons]
    omega
theorem bothM_ok (L : List PutS) (hL : L.length ≤ 12) : (∀ x ∈ bothM L, x.1.size = 16 ∧ x.2.size ≤ 20) ∧ (bothM L).length ≤ 12 := by
  have h := bothM_all L [] (fun x hx => by cases hx)
  refine ⟨h.1, ?_⟩
  have := h.2
  simp only [List.length_nil] at this
  unfold bothM
  omega
theorem plain_of {M : List PairS} (h : ∀ x ∈ M, x.1.size = 16 ∧ x.2.size ≤ 20) (hl : M.length ≤ 12) : Plain M := ⟨fun x hx => (h x hx).1, fun x hx => by have := (h x hx).2; omega, by omega⟩
def ownL (v : Value) : List Nat := v.ownBlock.toList
theorem ownL_mem {v : Value} {x : Nat} : x ∈ ownL v ↔ v.ownBlock = some x := by unfold ownL; simp
theorem puts_ck {w w' : World} {g : Nat} {i j : Nat} {x y : Value} (k : w.grownBy w' none) (h : w.cell? ⟨g, i, none⟩ = some x ∧ w.cell? ⟨g, j, none⟩ = some y) : w'.cell? ⟨g, i, none⟩ = some x ∧ w'.cell? ⟨g, j, none⟩ = some y := ⟨k.cell h.1 (by simp), k.cell h.2 (by simp)⟩
theorem own_keep2' {w w' : World} {B n s : Nat} {t : TypeId} {v : Value} {xs : List Value} (h : w.ownsRow B t s v n xs) (k : w.grownBy w' none) : w'.ownsRow B t s v n xs := by
  refine ⟨h.1, ?_⟩
  rcases h.2 with h' | ⟨g, cap, cur, rfl, hB, hg, r⟩
  · exact .inl h'
  · exact .inr ⟨g, cap, cur, rfl, hB, (k.block g (Array.getElem?_eq_some_iff.1 hg).1 (by simp)).trans hg, r⟩
end Go.Proofs.YtgaenpbdfelhhaaDoor

namespace Go.Proofs.YtgaenpbdfelhhaaDoor
open Go.RowKit Go.Maps
attribute [local irreducible] shaL

theorem strs_grown {w w' : World} {v : Value} {L : List ByteArray} (hv : StrsAt w v L) (q : w.grownBy w' none) : StrsAt w' v L := by
  obtain ⟨a, cap, e, hc⟩ := hv
  refine ⟨a, cap, e, fun i hi => ?_⟩
  obtain ⟨g, o, e2, h1⟩ := hc i hi
  exact ⟨g, o, e2, q.cell h1 (by simp)⟩
end Go.Proofs.YtgaenpbdfelhhaaDoor

namespace Go.Proofs.YtgaenpbdfelhhaaDoor
open Go.RowKit Go.Shelf
attribute [local irreducible] shaL
attribute [local go_sem] Oper.semAt_some

/-- the places of a list, the last one first, as far as the k-th -/
def downs (m : Nat) (k : Nat) : List Nat := (List.range k).map fun j => m - 1 - j
theorem downs_succ (m k : Nat) : downs m (k + 1) = downs m k ++ [m - 1 - k] := by simp [downs, List.range_succ]
theorem downs_length (m k : Nat) : (downs m k).length = k := by simp [downs]
/-- the k-th text (behind the last one: none) -/
def entT (L : List ByteArray) (k : Nat) : ByteArray := L.getD k ⟨#[]⟩
theorem entT_at (L : List ByteArray) (k : Nat) (h : k < L.length) : L[k]? = some (entT L k) := by
  unfold entT
  rw [List.getD_eq_getElem?_getD, List.getElem?_eq_getElem h]
  rfl
/-- all that lay when the loop began lies on, but for one block -/
def butOne (n0 n : Nat) (i : Nat) : Prop := n0 ≤ i ∨ i = n
/-- what a range over slices.Backward(s) hands on -/
def encT (es : List ByteArray) (x : Nat) : Array Value := #[.int .i64 (min x es.length : Nat), .string (entT es x)]
end Go.Proofs.YtgaenpbdfelhhaaDoor

namespace Go.Proofs.YtgaenpbdfelhhaaDoor
attribute [local irreducible] shaL

/-- the nodes above each two -/
def joinedL (L : List ByteArray) : List ByteArray := (List.range (L.length / 2)).map fun k => joinN (entT L (2 * k)) (entT L (2 * k + 1))
theorem joinedL_len (L : List ByteArray) : (joinedL L).length = L.length / 2 := by simp [joinedL]
theorem band_side (M : List PairS) (d b c : Nat) (hc : c ≤ 1) : side c d (bandS M d b) = bandS M (d + 1) (2 * b + c) := by
  unfold side bandS
  rw [List.filter_filter]
  refine List.filter_congr fun x _ => ?_
  have hb := bitS_le x.1 d
  rw [Bool.eq_iff_iff, Bool.and_eq_true, beq_iff_eq, beq_iff_eq, beq_iff_eq]
  show _ ↔ 2 * bandN x.1 d + bitS x.1 d = 2 * b + c
  omega
theorem entT_nodes (M : List PairS) (d k : Nat) (hk : k < 2 ^ d) : entT (nodesB M d) k = nodeN (128 - d) (bandS M d k) d := by
  unfold entT nodesB
  rw [List.getD_eq_getElem?_getD, List.getElem?_map, List.getElem?_range hk]
  rfl
theorem nodes_join (M : List PairS) (d : Nat) (hd : d ≤ 15) : joinedL (nodesB M (d + 1)) = nodesB M d := by
  have h2 : 2 ^ (d + 1) / 2 = 2 ^ d := by rw [Nat.pow_succ, Nat.mul_div_cancel _ (by decide)]
  unfold joinedL
  rw [nodesB_len, h2]
  show _ = (List.range (2 ^ d)).map fun b => nodeN (128 - d) (bandS M d b) d
  refine List.map_congr_left fun k hk => ?_
  have hk2 : k < 2 ^ d := List.mem_range.1 hk
  have hp : 2 ^ (d + 1) = 2 * 2 ^ d := by rw [Nat.pow_succ, Nat.mul_comm]
  rw [entT_nodes M (d + 1) (2 * k) (by omega), entT_nodes M (d + 1) (2 * k + 1) (by omega)]
  have e0 : side 0 d (bandS M d k) = bandS M (d + 1) (2 * k) := band_side M d k 0 (by omega)
  have e1 := band_side M d k 1 (by omega)
  rw [← e0, ← e1, show 128 - (d + 1) = 127 - d by omega]
  exact join_half (bandS M d k) d hd
/-- the one that is left -/
theorem nodes_root (M : List PairS) : nodesB M 0 = [nodeN 128 M 0] := by
  unfold nodesB
  have e : bandS M 0 0 = M := List.filter_eq_self.2 (fun _ _ => rfl)
  show [nodeN 128 (bandS M 0 0) 0] = _
  rw [e]
end Go.Proofs.YtgaenpbdfelhhaaDoor

namespace Go.Proofs.YtgaenpbdfelhhaaDoor
open Go.RowKit Go.Shelf

theorem ownsRow_far {W : World} {base : Nat} {e : TypeId} {size k : Nat} {v : Value} {xs : List Value} (h : W.ownsRow base e size v k xs) {j : Nat} (hj : v.ownBlock = some j) : base ≤ j ∧ ∃ o : Obj, W.heap[j]? = some o ∧ o.isCells = true := by
  rcases h.2 with ⟨rfl, _⟩ | ⟨g, cap, cur, rfl, hb, hgb, _⟩
  · simp [Value.ownBlock] at hj
  · obtain rfl : g = j := by simpa [Value.ownBlock] using hj
    exact ⟨hb, _, hgb, rfl⟩
theorem ownsRow_stays {W W' : World} {base : Nat} {e : TypeId} {size k : Nat} {v : Value} {xs : List Value} (h : W.ownsRow base e size v k xs) (hg : W.grownBy W' none) : W'.ownsRow base e size v k xs := by
  refine h.kept hg ?_
  cases hv : v.ownBlock with
  | none => exact .inl rfl
  | some g => exact .inr (by simp)
theorem append_round {W4 W w2 w8 : World} {n n₀ B : Nat} {t e : TypeId} {size k m : Nat} {v v' : Value} {xs ys : List Value} {tmp : Obj} (hte : t ≠ e) (hn : n < n₀) (hn₀ : n₀ ≤ W.heap.size) (hB : Below n W4 W) (b1 : Boxed W n t v) (hO : W.ownsRow n₀ e size v k xs) (g2 : W.grownBy w2 none)
    (ho8 : w8.ownsRow n₀ e size v' m ys) (hg8 : (w2.alloc tmp).grownBy w8 v.ownBlock) :
    (w8.cell? ⟨n, 0, none⟩ = some v ∧ w8.frozen? ⟨n, 0, none⟩ = false) ∧
    (KeepsFrom B W (w8.setCell ⟨n, 0, none⟩ v') ∧ Turn (butOne n₀ n) W (w8.setCell ⟨n, 0, none⟩ v') ∧ (∃ v, Boxed (w8.setCell ⟨n, 0, none⟩ v') n t v ∧ (w8.setCell ⟨n, 0, none⟩ v').ownsRow n₀ e size v m ys ∧ True) ∧ Below n W4 (w8.setCell ⟨n, 0, none⟩ v')) := by
  have b2 := b1.kept g2 (by simp)
  have hO2 := ownsRow_stays hO g2
  have hO3 := ownsRow_stays hO2 (World.grownBy_alloc w2 tmp none)
  have g3 : W.grownBy (w2.alloc tmp) none := grownBy_trans g2 (World.grownBy_alloc w2 tmp none)
  have b3 := b2.alloc tmp
  have b8 : Boxed w8 n t v := b3.kept hg8 (b3.not_row hte hO3)
  refine ⟨⟨b8.cell, b8.frozen⟩, ?_, ?_, ⟨v', b8.set v', ho8.kept (grownBy_setCell' w8 n v') (.inr (b8.not_row hte ho8).symm), trivial⟩, ?_⟩
  · refine (((KeepsOthers.of_grownBy g3 (fun j o ej _ => by cases ej)).trans (KeepsOthers.of_grownBy hg8 fun j o ej hj => ?_)).trans (KeepsOthers.setCell _ _ _)).from _
    obtain ⟨_, o', h1, h2⟩ := ownsRow_far hO3 ej
    rw [h1] at hj
    cases hj
    exact h2
  · have h0 : Turn (butOne n₀ n) W (w2.alloc tmp) := Turn.of_grown g3
    have h1 : Turn (butOne n₀ n) W w8 := h0.row hg8 (fun i _ ei => Or.inl (ownsRow_far hO3 ei).1)
    exact h1.setCell (k := n) (fun _ => Or.inr rfl) 0 v'
  · have hs := hB.size
    have h1 : Below n W4 (w2.alloc tmp) := hB.grown g3 (by omega) (fun k e => by cases e)
    have h2 : Below n W4 w8 := h1.grown hg8 (by have := g3.size; omega) (fun j ej => by have := (ownsRow_far hO3 ej).1; omega)
    exact h2.setCell (p := ⟨n, 0, none⟩) (Nat.le_refl _) v'
end Go.Proofs.YtgaenpbdfelhhaaDoor

namespace Go.Proofs.YtgaenpbdfelhhaaDoor
open Go.RowKit Go.Maps
attribute [local irreducible] shaL

theorem one_textP (r : ByteArray) : ∀ u ∈ [Value.string r], u.oneCell' = true := by
  intro u hu
  simp at hu
  subst hu
  rfl
theorem size_allocP {w w' : World} {row : Option Nat} (h : w.grownBy w' row) (o : Obj) : w.heap.size ≤ (w'.alloc o).heap.size := by
  have := h.size
  simp
  omega
def emptyP : Array Value := #[.slice none 0 0, .bool false, .string ⟨#[]⟩, .string ⟨#[]⟩]
theorem heap4 {w : World} {n : Nat} {a0 a1 a2 a3 : Value} {t : TypeId} (h : w.heap[n]? = some (.cells #[a0, a1, a2, a3] t (0, 0))) (v0 v1 v2 v3 : Value) :
    ((((w.setCell ⟨n, 0, none⟩ v0).setCell ⟨n, 1, none⟩ v1).setCell ⟨n, 2, none⟩ v2).setCell ⟨n, 3, none⟩ v3).heap[n]? = some (.cells #[v0, v1, v2, v3] t (0, 0)) := by
  have h1 := heap_setCell (heap_setCell (heap_setCell (heap_setCell h 0 v0) 1 v1) 2 v2) 3 v3
  rw [h1]
  rfl
theorem grown4 (w : World) (n : Nat) (v0 v1 v2 v3 : Value) : w.grownBy ((((w.setCell ⟨n, 0, none⟩ v0).setCell ⟨n, 1, none⟩ v1).setCell ⟨n, 2, none⟩ v2).setCell ⟨n, 3, none⟩ v3) (some n) :=
  grownBy_setCell (grownBy_setCell (grownBy_setCell (grownBy_setCell (World.grownBy.refl w _) 0 _) 1 _) 2 _) 3 _
end Go.Proofs.YtgaenpbdfelhhaaDoor

namespace Go.Proofs.YtgaenpbdfelhhaaDoor
open Go.RowKit Go.Shelf
attribute [local irreducible] shaL
attribute [local go_sem] Oper.semAt_some

theorem joinN_few (a b : ByteArray) (ha : a.size ≤ 1000) (hb : b.size ≤ 1000) : (joinN a b).size ≤ 1000 := by
  unfold joinN
  split
  · exact hb
  · split
    · exact ha
    · rw [bothS_size]; omega
theorem climb_few (key : ByteArray) : ∀ (L : List ByteArray) (d : Nat) (x : ByteArray), (∀ s ∈ L, s.size ≤ 1000) → x.size ≤ 1000 → (climbN key d L x).size ≤ 1000
  | [], _, _, _, hx => hx
  | b :: r, d, x, hL, hx => by
    have h1 := climb_few key r (d + 1) x (fun s hs => hL s (List.mem_cons_of_mem _ hs)) hx
    have h2 := hL b List.mem_cons_self
    unfold climbN
    split
    · exact joinN_few _ _ h2 h1
    · exact joinN_few _ _ h1 h2
/-- the node behind some rounds -/
def climbed (key : ByteArray) (d : Nat) (L : List ByteArray) (x : ByteArray) (k : Nat) : ByteArray := climbN key (d + (L.length - k)) (L.drop (L.length - k)) x
theorem climbed_zero (key : ByteArray) (d : Nat) (L : List ByteArray) (x : ByteArray) : climbed key d L x 0 = x := by
  unfold climbed
  rw [Nat.sub_zero, List.drop_length]
  rfl
theorem climbed_all (key : ByteArray) (d : Nat) (L : List ByteArray) (x : ByteArray) : climbed key d L x L.length = climbN key d L x := by
  unfold climbed
  rw [Nat.sub_self]
  rfl
theorem climbed_succ (key : ByteArray) (d : Nat) (L : List ByteArray) (x : ByteArray) (k : Nat) (hk : k < L.length) :
    climbed key d L x (k + 1) = if bitS key (d + (L.length - 1 - k)) = 1 then joinN (entT L (L.length - 1 - k)) (climbed key d L x k) else joinN (climbed key d L x k) (entT L (L.length - 1 - k)) := by
  have e1 : L.length - (k + 1) = L.length - 1 - k := by omega
  have e2 : L.length - k = (L.length - 1 - k) + 1 := by omega
  have hi : L.length - 1 - k < L.length := by omega
  have e3 : L.drop (L.length - 1 - k) = entT L (L.length - 1 - k) :: L.drop (L.length - 1 - k + 1) := by
    have h := entT_at L _ hi
    rw [List.getElem?_eq_getElem hi] at h
    rw [List.drop_eq_getElem_cons hi, Option.some.inj h]
  unfold climbed
  rw [e1, e3, e2]
  rfl
theorem climbed_few (key : ByteArray) (d : Nat) (L : List ByteArray) (x : ByteArray) (k : Nat) (hL : ∀ s ∈ L, s.size ≤ 1000) (hx : x.size ≤ 1000) : (climbed key d L x k).size ≤ 1000 :=
  climb_few _ _ _ _ (fun s hs => hL s (List.mem_of_mem_drop hs)) hx
theorem entT_few (L : List ByteArray) (k : Nat) (hL : ∀ s ∈ L, s.size ≤ 1000) : (entT L k).size ≤ 1000 := by
  by_cases h : k < L.length
  · exact hL _ (List.mem_of_getElem? (entT_at L k h))
  · unfold entT
    rw [List.getD_eq_getElem?_getD, List.getElem?_eq_none (by omega)]
    exact Nat.zero_le _
theorem read_put {w W : World} {n D : Nat} {o : Obj} (h : Below n w W) (hd : n ≤ D) : Below n w (W.putObj D o) :=
  h.trans ⟨rfl, rfl, rfl, by simp, fun k hk => World.putObj_heap_other (by omega)⟩
/-- a round: past what stands beside at a place -/
def stepC (key : ByteArray) (d : Nat) (L : List ByteArray) (nd : ByteArray) (i : Nat) : ByteArray := if bitS key (d + min i L.length) = 1 then joinN (entT L i) nd else joinN nd (entT L i)
theorem fold_climbed (key : ByteArray) (d : Nat) (L : List ByteArray) (x : ByteArray) : ∀ k, k ≤ L.length → (downs L.length k).foldl (stepC key d L) x = climbed key d L x k := by
  intro k
  induction k with
  | zero => intro _; rw [climbed_zero]; rfl
  | succ k ih =>
    intro hk
    rw [downs_succ, List.foldl_append, ih (by omega), climbed_succ key d L x k (by omega)]
    show stepC key d L _ _ = _
    unfold stepC
    rw [Nat.min_eq_left (by omega)]
theorem fold_few (key : ByteArray) (d : Nat) (L : List ByteArray) (hL : ∀ s ∈ L, s.size ≤ 1000) : ∀ (pre : List Nat) (x : ByteArray), x.size ≤ 1000 → (pre.foldl (stepC key d L) x).size ≤ 1000
  | [], _, hx => hx
  | i :: r, x, hx => fold_few key d L hL r _ (by
    unfold stepC
    split
    · exact joinN_few _ _ (entT_few L i hL) hx
    · exact joinN_few _ _ hx (entT_few L i hL))
end Go.Proofs.YtgaenpbdfelhhaaDoor
