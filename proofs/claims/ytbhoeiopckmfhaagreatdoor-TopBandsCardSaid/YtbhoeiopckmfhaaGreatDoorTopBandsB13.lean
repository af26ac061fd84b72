/- The walks of above (at any keys), Node, Root. · The walks of the document's Leaf and Node. · The walks of Node, Root. · Plain words: a node of both its halves. No walk. · The walk of a proof's Good, where key and depth may be. · Plain words: the way to a key, what stands beside it, the climb back. No walk. · Plain words for Prove: the keys that go on, the way so far. No walk. · The walk of proof's turned. · The walk of a proof's Node, by what climb is said to do. · slices.Backward over texts. -/
import Derived.Test.YtbhoeiopckmfhaaGreatDoorTopBandsB12
import Derived.Test.YtbhoeiopckmfhaaGreatDoorTopBandsB2
import Derived.Deep.DeepCutAuto
import Derived.Test.YtbhoeiopckmfhaaGreatDoorTopBandsB10
import Derived.Test.YtbhoeiopckmfhaaGreatDoorTopBandsB11
import Derived.Laws.BitsAllLaws
import Derived.Lib.ConvBytes
import Derived.Test.YtbhoeiopckmfhaaGreatDoorTopBandsB1
import Derived.RangeFuncNested
import Derived.RangeFuncBound
import Derived.RangeFuncCalls
import Derived.RangeFuncLeaves
import Derived.Shelf.Abstract
import Derived.Shelf.RegionOpen
import Derived.OwnWalkIn
import Derived.TacticsInMore
import Derived.LoopNIn
import Derived.LoopIn
namespace Go.Proofs.YtbhoeiopckmfhaaGreatDoor
open Go.RowKit Go.Maps
attribute [local irreducible] shaL

theorem above_zero (b : Nat) (a : Option Addr) (c : Nat) (d : Int) (w : World) :
    Calls Tryz.prog 111 #[.pointer (some ⟨b, 0, none⟩), .slice a 0 c, .int .i64 d] w fun e w' => e = .returned (.string emptyS) ∧ w.grownBy w' none := by
  go_enter Tryz.func111, Tryz.ntmps111
  go_wp2_with fail
  go_ret
  exact ⟨rfl, World.grownBy.refl _ _ |> fun h => grownBy_alloc' h _⟩
theorem strs_front {w : World} {g o n c : Nat} {L : List ByteArray} (h : StrsAt w (.slice (some ⟨g, o, none⟩) n c) L) (k : Nat) (hk : k ≤ n) (c2 : Nat) : StrsAt w (.slice (some ⟨g, o, none⟩) k c2) (L.take k) := by
  obtain ⟨a, cap, he, hc⟩ := h
  injection he with e1 e2 e3
  refine ⟨some ⟨g, o, none⟩, c2, by rw [List.length_take]; congr 1; omega, fun i hi => ?_⟩
  rw [List.length_take] at hi
  obtain ⟨g', o', e4, h1⟩ := hc i (by omega)
  rw [← e1] at e4
  cases e4
  exact ⟨g, o, rfl, by rw [List.getElem_take]; exact h1⟩
theorem strs_back {w : World} {g o n c : Nat} {L : List ByteArray} (h : StrsAt w (.slice (some ⟨g, o, none⟩) n c) L) (k : Nat) (hk : k ≤ n) (c2 : Nat) : StrsAt w (.slice (some ⟨g, o + k, none⟩) (n - k) c2) (L.drop k) := by
  obtain ⟨a, cap, he, hc⟩ := h
  injection he with e1 e2 e3
  refine ⟨some ⟨g, o + k, none⟩, c2, by rw [List.length_drop, e2], fun i hi => ?_⟩
  rw [List.length_drop] at hi
  obtain ⟨g', o', e4, h1⟩ := hc (k + i) (by omega)
  rw [← e1] at e4
  cases e4
  exact ⟨g, o + k, rfl, by rw [List.getElem_drop, Nat.add_assoc]; exact h1⟩
theorem pairs_key (M : List PairS) (L : List ByteArray) (d : Nat) (hA : Alike d (pairsM M L)) : (∀ k ∈ L, k.size = 16) ∧ (∀ x ∈ L, ∀ y ∈ L, ∀ i, i < d → bitS x i = bitS y i) :=
  ⟨fun k hk => hA.len (k, valM M k) (List.mem_map.2 ⟨k, hk, rfl⟩), fun x hx y hy i hi => hA.bits (x, valM M x) (List.mem_map.2 ⟨x, hx, rfl⟩) (y, valM M y) (List.mem_map.2 ⟨y, hy, rfl⟩) i hi⟩
def vals_small (M : List PairS) : Prop := ∀ x ∈ M, x.2.size ≤ 1000000
theorem val_small {M : List PairS} (h : vals_small M) (k : ByteArray) : (valM M k).size ≤ 1000000 := by
  unfold valM
  cases hf : M.find? (fun p => decide (p.1 = k)) with
  | none => exact Nat.zero_le _
  | some p => exact h p (List.mem_of_find?_eq_some hf)
set_option maxRecDepth 100000 in
set_option maxHeartbeats 6400000 in
theorem tabove_any (n0 : Nat) (X : List Nat) (b : Nat) (M : List PairS) (hS : vals_small M) : ∀ (f d : Nat) (a : Option Addr) (n c : Nat) (L : List ByteArray) (w : World), d + f = 128 → n ≤ 1000000 → n ≤ c → c ≤ maxLen → TreeK n0 X w b M → StrsAt w (.slice a n c) L → Rises L → (∀ k ∈ L, hasM M k = true) → Alike d (pairsM M L) → ShaReady w →
    Calls Tryz.prog 111 #[.pointer (some ⟨b, 0, none⟩), .slice a n c, .int .i64 d] w fun e w' => e = .returned (.string (nodeN f (pairsM M L) d)) ∧ w.grownBy w' none := by
  intro f
  induction f with
  | zero =>
    intro d a n c L w hd hn hnc hcm hT hv hR hh hA hr
    have hln : L.length = n := by obtain ⟨_, _, e, _⟩ := hv; injection e with _ e _; exact e.symm
    have h1 := hA.few (by omega)
    unfold pairsM at h1
    rw [List.length_map] at h1
    match L, hln, h1 with
    | [], hln, _ => subst hln; exact above_zero b a c d w
    | [k], hln, _ =>
      subst hln
      exact above_one n0 X b M a c k d w hT hv (by have := (pairs_key M [k] d hA).1 k (by simp); omega) (val_small hS k) (hh k (by simp)) hr
  | succ f ih =>
    intro d a n c L w hd hn hnc hcm hT hv hR hh hA hr
    have hln : L.length = n := by obtain ⟨_, _, e, _⟩ := hv; injection e with _ e _; exact e.symm
    by_cases h2 : 2 ≤ n
    · obtain ⟨k0, hk0⟩ : ∃ k0, L[0]? = some k0 := ⟨_, List.getElem?_eq_getElem (by omega)⟩
      obtain ⟨g, o, rfl, _⟩ := hv.at_ 0 k0 hk0
      obtain ⟨hk16, hbits⟩ := pairs_key M L d hA
      obtain ⟨hs0, hs1⟩ := cut_sides L d (by omega) hR hk16 hbits
      have hle := cutK_le L d
      have hfc := firstI_cut L d
      have hres : nodeN (f + 1) (pairsM M L) d = joinN (nodeN f (pairsM M (L.take (cutK L d))) (d + 1)) (nodeN f (pairsM M (L.drop (cutK L d))) (d + 1)) := by
        rw [nodeN_more f d _ (by unfold pairsM; rw [List.length_map]; omega), side_pairs, side_pairs, hs0, hs1]
      have hA0 : Alike (d + 1) (pairsM M (L.take (cutK L d))) := by rw [hs0, ← side_pairs]; exact hA.side
      have hA1 : Alike (d + 1) (pairsM M (L.drop (cutK L d))) := by rw [hs1, ← side_pairs]; exact hA.side
      rw [hres]
      have hg1 : w.grownBy (w.alloc (.cells #[.int .i64 d] 3)) none := World.grownBy_alloc _ _ _
      obtain ⟨d1, hd1⟩ : ∃ d1, d + 1 = d1 := ⟨_, rfl⟩
      have hplus : (d : Int) + 1 = (d1 : Int) := by omega
      have hwr : IntKind.i64.wrap (d1 : Int) = (d1 : Int) := wrap_i64_nat d1 (by omega)
      rw [hd1] at hA0 hA1 ⊢
      have HIX := Lib.hid (fun (w1 : World) (q : w.grownBy w1 none) (hc : w1.cell? ⟨w.heap.size, 0, none⟩ = some (.int .i64 d)) => index_bit (fun k => bitS k d == 1) (some ⟨g, o, none⟩) n c L w1 (.pointer (some ⟨w.heap.size, 0, none⟩)) (hv.grown q) hn (fun k w' hk q2 => above1_any k (by have := hk16 k hk; unfold maxLen; omega) d w.heap.size (by omega) w' (q2.cell hc (by simp))))
      have HL0 := Lib.hid (fun (w' : World) (q : w.grownBy w' none) => ih d1 (some ⟨g, o, none⟩) (cutK L d) c (L.take (cutK L d)) w' (by omega) (by omega) (by omega) hcm (hT.grown q) (strs_front (hv.grown q) _ (by omega) c) (hR.sub (List.take_sublist _ _)) (fun k hk => hh k (List.mem_of_mem_take hk)) hA0 (hr.grown q))
      have HL1 := Lib.hid (fun (w' : World) (q : w.grownBy w' none) => ih d1 (some ⟨g, o + cutK L d, none⟩) (n - cutK L d) (c - cutK L d) (L.drop (cutK L d)) w' (by omega) (by omega) (by omega) (by omega) (hT.grown q) (strs_back (hv.grown q) _ (by omega) _) (hR.sub (List.drop_sublist _ _)) (fun k hk => hh k (List.mem_of_mem_drop hk)) hA1 (hr.grown q))
      have hn0 := (nodeN_node f (pairsM M (L.take (cutK L d))) d1).size
      have hn1 := (nodeN_node f (pairsM M (L.drop (cutK L d))) d1).size
      have hz1 : cutK L d = n → nodeN f (pairsM M (L.drop (cutK L d))) d1 = emptyS := by
        intro e
        rw [e, ← hln, List.drop_length]
        exact nodeN_nil f d1
      generalize nodeN f (pairsM M (L.take (cutK L d))) d1 = x0 at HL0 hn0 ⊢
      generalize nodeN f (pairsM M (L.drop (cutK L d))) d1 = x1 at HL1 hn1 hz1 ⊢
      rw [hln] at hfc hle
      generalize firstI L (fun k => bitS k d == 1) = fi at HIX hfc
      generalize cutK L d = ct at HL0 HL1 hz1 hfc hle
      have HJ := Lib.hid (fun (w' : World) (q : w.grownBy w' none) => join_any x0 x1 (by omega) (by omega) w' (hr.grown q))
      have HG1 := Lib.hid hg1
      have hbox : (w.alloc (.cells #[.int .i64 d] 3)).cell? ⟨w.heap.size, 0, none⟩ = some (.int .i64 d) := cell_of (heap_alloc_at w (.cells #[.int .i64 d] 3) _ rfl) 0
      have m0 : ((n : Int) == 0) = false := by simp; omega
      have m1 : ((n : Int) == 1) = false := by simp; omega
      have hcm2 : c ≤ 9223372036854775807 := hcm
      clear hT hv hR hh hA hr hk0 hk16 hbits hs0 hs1 hres hA0 hA1 hg1 ih hS hln hd1 hd hcm
      go_enter Tryz.func111, Tryz.ntmps111
      go_wp2_with fail
      generalize w.alloc (.cells #[.int .i64 d] 3) = w1 at HG1 hbox ⊢
      obtain ⟨DB, hDB⟩ : ∃ DB, w.heap.size = DB := ⟨_, rfl⟩
      rw [hDB] at HIX hbox ⊢
      clear hDB
      refine (HIX.out w1 HG1.out hbox).mono ?_
      rintro e w2 ⟨rfl, g2⟩
      have HG2 := Lib.hid (grownBy_trans HG1.out g2)
      have hbox2 := g2.cell hbox (by simp)
      have HBX := Lib.hid hbox2
      clear g2 HIX hbox
      rcases hfc with ⟨hc0, rfl⟩ | ⟨hc0, rfl⟩
      · subst hc0
        have hx1 := hz1 rfl
        subst hx1
        have HZ := Lib.hid (fun (a1 : Option Addr) (c1 : Nat) (w' : World) => above_zero b a1 c1 (d1 : Int) w')
        clear hz1 HL1 hle
        rcases Nat.lt_or_ge ct c with hcc | hcc
        · have k5 : ¬ (ct = c) := by omega
          have k6 : ¬ (c = ct) := by omega
          have k1 : (ct : Int) ≤ (c : Int) := by omega
          have k4 : (0 : Int) ≤ (ct : Int) := by omega
          go_wp2_with fail
          go_region_held3 (fun w' => w'.cell? ⟨DB, 0, none⟩ = some (.int .i64 d)) (first | exact ck.cell HBX.out (by simp) | exact HBX.out) (first
            | (go_at_call 111; (with_reducible refine (HL0.out _ (grownBy_trans HG2.out ck)).mono ?_); rintro e w4 ⟨rfl, g4⟩; have ck := grownBy_trans ck g4)
            | (go_at_call 111; (with_reducible refine (HL0.out _ (grownBy_drew HG2.out)).mono ?_); rintro e w4 ⟨rfl, g4⟩; have ck := grownBy_trans (grownBy_drew (World.grownBy.refl w2 none)) g4)
            | (go_at_call 111; (with_reducible refine (HZ.out _ _ _).mono ?_); rintro e w4 ⟨rfl, g4⟩; have ck := grownBy_trans ck g4)
            | (go_at_call 111; (with_reducible refine (HZ.out _ _ _).mono ?_); rintro e w4 ⟨rfl, g4⟩; have ck := grownBy_trans (grownBy_drew (World.grownBy.refl w2 none)) g4)
            | (go_at_call 120; (with_reducible refine (HJ.out _ (grownBy_trans HG2.out ck)).mono ?_); rintro e w4 ⟨rfl, g4⟩; have ck := grownBy_trans ck g4)
            | (go_at_call 120; (with_reducible refine (HJ.out _ (grownBy_drew HG2.out)).mono ?_); rintro e w4 ⟨rfl, g4⟩; have ck := grownBy_trans (grownBy_drew (World.grownBy.refl w2 none)) g4))
          go_wp2_with fail
          go_ret
          exact ⟨rfl, grownBy_trans HG2.out ck⟩
        · obtain rfl : c = ct := by omega
          clear hcc
          have k1 : (c : Int) ≤ (c : Int) := by omega
          have k4 : (0 : Int) ≤ (c : Int) := by omega
          go_wp2_with fail
          go_region_held3 (fun w' => w'.cell? ⟨DB, 0, none⟩ = some (.int .i64 d)) (first | exact ck.cell HBX.out (by simp) | exact HBX.out) (first
            | (go_at_call 111; (with_reducible refine (HL0.out _ (grownBy_trans HG2.out ck)).mono ?_); rintro e w4 ⟨rfl, g4⟩; have ck := grownBy_trans ck g4)
            | (go_at_call 111; (with_reducible refine (HL0.out _ (grownBy_drew HG2.out)).mono ?_); rintro e w4 ⟨rfl, g4⟩; have ck := grownBy_trans (grownBy_drew (World.grownBy.refl w2 none)) g4)
            | (go_at_call 111; (with_reducible refine (HZ.out _ _ _).mono ?_); rintro e w4 ⟨rfl, g4⟩; have ck := grownBy_trans ck g4)
            | (go_at_call 111; (with_reducible refine (HZ.out _ _ _).mono ?_); rintro e w4 ⟨rfl, g4⟩; have ck := grownBy_trans (grownBy_drew (World.grownBy.refl w2 none)) g4)
            | (go_at_call 120; (with_reducible refine (HJ.out _ (grownBy_trans HG2.out ck)).mono ?_); rintro e w4 ⟨rfl, g4⟩; have ck := grownBy_trans ck g4)
            | (go_at_call 120; (with_reducible refine (HJ.out _ (grownBy_drew HG2.out)).mono ?_); rintro e w4 ⟨rfl, g4⟩; have ck := grownBy_trans (grownBy_drew (World.grownBy.refl w2 none)) g4))
          go_wp2_with fail
          go_ret
          exact ⟨rfl, grownBy_trans HG2.out ck⟩
      · have k0 : ¬ ((ct : Int) < 0) := by omega
        have k1 : (ct : Int) ≤ (n : Int) := by omega
        have k2 : ¬ (ct = c) := by omega
        clear hz1
        have k3 : (ct : Int) ≤ (c : Int) := by omega
        have k4 : (0 : Int) ≤ (ct : Int) := by omega
        go_wp2_with fail
        go_region_held3 (fun w' => w'.cell? ⟨DB, 0, none⟩ = some (.int .i64 d)) (first | exact ck.cell HBX.out (by simp) | exact HBX.out) (first
          | (go_at_call 111; (with_reducible refine (HL0.out _ (grownBy_trans HG2.out ck)).mono ?_); rintro e w4 ⟨rfl, g4⟩; have ck := grownBy_trans ck g4)
          | (go_at_call 111; (with_reducible refine (HL0.out _ (grownBy_drew HG2.out)).mono ?_); rintro e w4 ⟨rfl, g4⟩; have ck := grownBy_trans (grownBy_drew (World.grownBy.refl w2 none)) g4)
          | (go_at_call 111; (with_reducible refine (HL1.out _ (grownBy_trans HG2.out ck)).mono ?_); rintro e w4 ⟨rfl, g4⟩; have ck := grownBy_trans ck g4)
          | (go_at_call 111; (with_reducible refine (HL1.out _ (grownBy_drew HG2.out)).mono ?_); rintro e w4 ⟨rfl, g4⟩; have ck := grownBy_trans (grownBy_drew (World.grownBy.refl w2 none)) g4)
          | (go_at_call 120; (with_reducible refine (HJ.out _ (grownBy_trans HG2.out ck)).mono ?_); rintro e w4 ⟨rfl, g4⟩; have ck := grownBy_trans ck g4)
          | (go_at_call 120; (with_reducible refine (HJ.out _ (grownBy_drew HG2.out)).mono ?_); rintro e w4 ⟨rfl, g4⟩; have ck := grownBy_trans (grownBy_drew (World.grownBy.refl w2 none)) g4))
        go_wp2_with fail
        go_ret
        exact ⟨rfl, grownBy_trans HG2.out ck⟩
    · match L, hln, h2 with
      | [], hln, _ => subst hln; rw [show pairsM M [] = [] from rfl, nodeN_nil]; exact above_zero b a c d w
      | [k], hln, _ =>
        subst hln
        rw [show pairsM M [k] = [(k, valM M k)] from rfl, nodeN_one]
        exact above_one n0 X b M a c k d w hT hv (by have := (pairs_key M [k] d hA).1 k (by simp); omega) (val_small hS k) (hh k (by simp)) hr
      | _ :: _ :: _, hln, h2 => simp at hln; omega
end Go.Proofs.YtbhoeiopckmfhaaGreatDoor

namespace Go.Proofs.YtbhoeiopckmfhaaGreatDoor
open Go.RowKit Go.Maps
attribute [local irreducible] shaL

theorem own_keep2 {w w' : World} {B n s : Nat} {t : TypeId} {v : Value} {xs : List Value} {row : Option Nat} (h : w.ownsRow B t s v n xs) (k : w.grownBy w' row) (hne : ∀ x, v.ownBlock = some x → row ≠ some x) : w'.ownsRow B t s v n xs := by
  refine ⟨h.1, ?_⟩
  rcases h.2 with h' | ⟨g, cap, cur, rfl, hB, hg, r⟩
  · exact .inl h'
  · exact .inr ⟨g, cap, cur, rfl, hB, (k.block g (Array.getElem?_eq_some_iff.1 hg).1 (fun e => hne g rfl e.symm)).trans hg, r⟩
theorem side_take (b d : Nat) (M : List PairS) (i : Nat) (h : i < M.length) : side b d (M.take (i + 1)) = side b d (M.take i) ++ (if bitS M[i].1 d == b then [M[i]] else []) := filter_step M (fun x => bitS x.1 d == b) i h
theorem head_of {y : ByteArray} (hn : NodeS y) (hne : y ≠ emptyS) : ∃ h : 0 < y.size, (leafB y = true ∧ y[0] = 1) ∨ (leafB y = false ∧ y[0] = 2) := by
  cases hn with
  | none => exact absurd rfl hne
  | leaf k v => exact ⟨by rw [leafS_size]; decide, .inl ⟨leafS_leaf k v, rfl⟩⟩
  | both a b => exact ⟨by rw [bothS_size]; decide, .inr ⟨bothS_leaf a b, rfl⟩⟩
/-- of some keys the node isn't empty -/
theorem nodeN_some : ∀ (f d : Nat) (l : List PairS), d + f = 128 → Alike d l → l ≠ [] → nodeN f l d ≠ emptyS
  | 0, d, l, hd, hA, hne => by
    have := hA.few (by omega)
    match l, this, hne with
    | [x], _, _ => exact leafS_ne _ _
  | f + 1, d, l, hd, hA, hne => by
    match l, hne, hA with
    | [x], _, _ => exact leafS_ne _ _
    | x :: y :: r, _, hA =>
      rw [nodeN_more f d _ (by simp)]
      have hl := side_len d (x :: y :: r)
      have h0 := nodeN_some f (d + 1) (side 0 d (x :: y :: r)) (by omega) hA.side
      have h1 := nodeN_some f (d + 1) (side 1 d (x :: y :: r)) (by omega) hA.side
      unfold joinN
      split
      · rename_i h
        by_cases he : side 1 d (x :: y :: r) = []
        · by_cases he0 : side 0 d (x :: y :: r) = []
          · rw [he, he0] at hl; simp at hl
          · exact absurd h.1 (h0 he0)
        · exact h1 he
      · split
        · rename_i h
          by_cases he0 : side 0 d (x :: y :: r) = []
          · by_cases he : side 1 d (x :: y :: r) = []
            · rw [he, he0] at hl; simp at hl
            · exact absurd h.1 (h1 he)
          · exact h0 he0
        · exact bothS_ne _ _
end Go.Proofs.YtbhoeiopckmfhaaGreatDoor

namespace Go.Proofs.YtbhoeiopckmfhaaGreatDoor
open Go.RowKit Go.Maps
attribute [local irreducible] shaL

theorem own_form' {w : World} {B n : Nat} {t : TypeId} {v : Value} {xs : List Value} (h : w.ownsRow B t 1 v n xs) : (v = .slice none 0 0 ∧ n = 0) ∨ ∃ g cap, v = .slice (some ⟨g, 0, none⟩) n cap ∧ n ≤ cap ∧ cap ≤ maxLen := by
  rcases h.2 with ⟨e, h0⟩ | ⟨g, cap, cur, e, hB, hg, h1, h2, _⟩
  · exact .inl ⟨e, h0⟩
  · exact .inr ⟨g, cap, e, h1, h2⟩
theorem node1_any (k s : ByteArray) (z : Int) (B1 B2 : Nat) (hk : k.size ≤ maxLen) (hs : s.size ≤ maxLen) (w : World) (h1 : w.cell? ⟨B1, 0, none⟩ = some (.string s)) (h2 : w.cell? ⟨B2, 0, none⟩ = some (.int .i64 z)) :
    Calls Tryz.prog 109 #[.string k, .pointer (some ⟨B1, 0, none⟩), .pointer (some ⟨B2, 0, none⟩)] w fun e w' => e = .returned (.bool (belowB k s (capD z))) ∧ w.grownBy w' none := by
  have HB := Lib.hid (below_int k s hk hs z w)
  clear hk hs
  go_enter Tryz.func109, Tryz.ntmps109
  go_wp2_with fail
  refine HB.out.mono ?_
  rintro e w2 ⟨rfl, g2⟩
  have HG := Lib.hid g2
  clear g2
  go_wp2_with fail
  go_ret
  exact ⟨rfl, HG.out⟩
/-- those that begin as s does, by so many bits -/
def startM (M : List PairS) (s : ByteArray) (d : Nat) : List PairS := M.filter fun x => belowB x.1 s d
def nodeAt (M : List PairS) (s : ByteArray) (d : Nat) : ByteArray := nodeN (128 - d) (startM M s d) d
theorem pairs_perm {M : List PairS} (hone : M.Pairwise (fun p q => p.1 ≠ q.1)) (P : ByteArray → Bool) : (pairsM M (sortK M P)).Perm (M.filter fun x => P x.1) := by
  have h1 : (sortK M P).Perm (((M.filter fun x => P x.1).map fun x => x.1.data.toList).map str) := (List.mergeSort_perm _ _).map str
  have h2 : ((M.filter fun x => P x.1).map fun x => x.1.data.toList).map str = (M.filter fun x => P x.1).map Prod.fst := by
    rw [List.map_map]
    rfl
  rw [h2] at h1
  have h3 := h1.map (fun k => (k, valM M k))
  have h4 : ((M.filter fun x => P x.1).map Prod.fst).map (fun k => (k, valM M k)) = M.filter fun x => P x.1 := by
    rw [List.map_map]
    refine (List.map_congr_left (g := id) fun x hx => ?_).trans (List.map_id _)
    show (x.1, valM M x.1) = x
    rw [valM_mem hone x (List.mem_filter.1 hx).1]
  rw [h4] at h3
  exact h3
theorem start_alike {M : List PairS} (hone : M.Pairwise (fun p q => p.1 ≠ q.1)) (h16 : ∀ x ∈ M, x.1.size = 16) (s : ByteArray) (d : Nat) : Alike d (startM M s d) := by
  refine ⟨fun x hx => h16 x (List.mem_filter.1 hx).1, hone.filter _, fun x hx y hy i hi => ?_⟩
  have e1 := (belowB_iff x.1 s d).1 (List.mem_filter.1 hx).2 i hi
  have e2 := (belowB_iff y.1 s d).1 (List.mem_filter.1 hy).2 i hi
  rw [e1, e2]
theorem sortK_has {M : List PairS} {P : ByteArray → Bool} {k : ByteArray} (h : k ∈ sortK M P) : hasM M k = true := by
  unfold sortK at h
  obtain ⟨l, hl, rfl⟩ := List.mem_map.1 h
  obtain ⟨x, hx, rfl⟩ := List.mem_map.1 ((List.mergeSort_perm _ _).mem_iff.1 hl)
  exact List.any_eq_true.2 ⟨x, (List.mem_filter.1 hx).1, by simp; rfl⟩
theorem sortK_len (M : List PairS) (P : ByteArray → Bool) : (sortK M P).length ≤ M.length := by
  unfold sortK
  rw [List.length_map, List.length_mergeSort, List.length_map]
  exact List.length_filter_le _ _
/-- a tree as the laws make it -/
structure Plain (M : List PairS) : Prop where
  k16 : ∀ x ∈ M, x.1.size = 16
  small : vals_small M
  few : M.length ≤ 1000000
set_option maxRecDepth 100000 in
set_option maxHeartbeats 3200000 in
theorem tnode_any (n0 : Nat) (X : List Nat) (w : World) (b : Nat) (M : List PairS) (s : ByteArray) (z : Int) (hT : TreeK n0 X w b M) (hP : Plain M) (hs : s.size ≤ maxLen) (hr : ShaReady w) :
    Calls Tryz.prog 61 #[.pointer (some ⟨b, 0, none⟩), .string s, .int .i64 z] w fun e w' => e = .returned (.string (nodeAt M s (capD z))) ∧ w.grownBy w' none := by
  have hone := hT.one
  have hg2 : w.grownBy ((w.alloc (.cells #[.string s] 9)).alloc (.cells #[.int .i64 z] 3)) none := grownBy_alloc' (World.grownBy_alloc _ _ _) _
  have hb1 : ((w.alloc (.cells #[.string s] 9)).alloc (.cells #[.int .i64 z] 3)).cell? ⟨w.heap.size, 0, none⟩ = some (.string s) := (World.cell?_alloc_lt _ _ _ (by simp)).trans (cell_of (heap_alloc_at w (.cells #[.string s] 9) _ rfl) 0)
  have hb2 : ((w.alloc (.cells #[.string s] 9)).alloc (.cells #[.int .i64 z] 3)).cell? ⟨w.heap.size + 1, 0, none⟩ = some (.int .i64 z) := cell_of (heap_alloc_at (w.alloc (.cells #[.string s] 9)) (.cells #[.int .i64 z] 3) _ (by simp)) 0
  have HSO := Lib.hid (fun (w2 : World) (q : w.grownBy w2 none) (h1 : w2.cell? ⟨w.heap.size, 0, none⟩ = some (.string s)) (h2 : w2.cell? ⟨w.heap.size + 1, 0, none⟩ = some (.int .i64 z)) =>
    tsort_some n0 X (.pointer (some ⟨w.heap.size, 0, none⟩)) (.pointer (some ⟨w.heap.size + 1, 0, none⟩)) (fun k => belowB k s (capD z)) w2 b M (hT.grown q) hP.few (fun k w' hk q2 => by
      obtain ⟨x, hx, hxk⟩ := List.any_eq_true.1 hk
      have hxk' : x.1 = k := by simpa using hxk
      exact node1_any k s z _ _ (by have := hP.k16 x hx; rw [← hxk']; unfold maxLen; omega) hs w' (q2.cell h1 (by simp)) (q2.cell h2 (by simp))))
  have hperm := pairs_perm hone (fun k => belowB k s (capD z))
  have hal : Alike (capD z) (pairsM M (sortK M fun k => belowB k s (capD z))) := (start_alike hone hP.k16 s (capD z)).perm hperm.symm
  have hris := rises_sortK M (fun k => belowB k s (capD z))
  have hlen := sortK_len M (fun k => belowB k s (capD z))
  have hres : nodeAt M s (capD z) = nodeN (128 - capD z) (pairsM M (sortK M fun k => belowB k s (capD z))) (capD z) := (nodeN_perm _ _ _ _ hperm).symm
  rw [hres]
  have hcd := capD_le z
  have hhas : ∀ k ∈ sortK M (fun k => belowB k s (capD z)), hasM M k = true := fun k hk => sortK_has hk
  generalize sortK M (fun k => belowB k s (capD z)) = L at HSO hal hris hlen hhas ⊢
  obtain ⟨mz, hmz⟩ : ∃ mz, max z 0 = mz := ⟨_, rfl⟩
  have HAB : Hid (∀ (a : Option Addr) (c : Nat) (w' : World), w.grownBy w' none → L.length ≤ c → c ≤ maxLen → StrsAt w' (.slice a L.length c) L → Calls Tryz.prog 111 #[.pointer (some ⟨b, 0, none⟩), .slice a L.length c, .int .i64 mz] w' fun e w'' => e = .returned (.string (nodeN (128 - capD z) (pairsM M L) (capD z))) ∧ w'.grownBy w'' none) := by
    refine Lib.hid (fun a c w' q hc1 hc2 hv => ?_)
    by_cases hz : z ≤ 128
    · have e1 : mz = ((capD z : Nat) : Int) := by rw [← hmz]; unfold capD; omega
      rw [e1]
      exact tabove_any n0 X b M hP.small (128 - capD z) (capD z) a L.length c L w' (by omega) (by have := hP.few; omega) hc1 hc2 (hT.grown q) hv hris hhas hal (hr.grown q)
    · have e1 : capD z = 128 := by unfold capD; omega
      rw [e1] at hal ⊢
      have h1 := hal.few (Nat.le_refl _)
      unfold pairsM at h1
      rw [List.length_map] at h1
      match L, h1, hv, hal, hhas with
      | [], _, _, _, _ => exact above_zero b a c mz w'
      | [k], _, hv, hal, hhas => exact above_one n0 X b M a c k mz w' (hT.grown q) hv (by have := (pairs_key M [k] 128 hal).1 k (by simp); omega) (val_small hP.small k) (hhas k (by simp)) (hr.grown q)
  have HG2 := Lib.hid hg2
  have HB := Lib.hid (And.intro hb1 hb2)
  have HMZ := Lib.hid hmz
  generalize nodeN (128 - capD z) (pairsM M L) (capD z) = R at HAB ⊢
  clear hT hP hs hr hone hperm hal hris hlen hhas hres hcd hg2 hb1 hb2
  go_enter Tryz.func61, Tryz.ntmps61
  clear hmz
  go_wp2_with fail
  refine (HSO.out _ HG2.out HB.out.1 HB.out.2).mono ?_
  rintro e w3 ⟨v, rfl, ho, g3⟩
  have HB3 : Hid (w3.cell? ⟨w.heap.size + 1, 0, none⟩ = some (.int .i64 z)) := Lib.hid (g3.cell HB.out.2 (by simp))
  have HG3 := Lib.hid (grownBy_trans HG2.out g3)
  obtain ⟨a, c, rfl⟩ := slice_own' ho
  have hcc : L.length ≤ c ∧ c ≤ maxLen := by
    rcases own_form' ho with ⟨e1, e2⟩ | ⟨g, c2, e1, e2, e3⟩
    · injection e1 with _ e3 e4; exact ⟨by omega, by unfold maxLen; omega⟩
    · injection e1 with _ e4 e5; subst e5; exact ⟨e2, e3⟩
  have HAA := Lib.hid (HAB.out a c w3 HG3.out hcc.1 hcc.2 (strs_own ho))
  have c3 := HB3.out
  have HMM := HMZ.out
  clear ho g3 hcc HB HG2 HSO
  go_wp2_with fail
  refine HAA.out.mono ?_
  rintro e w4 ⟨rfl, g4⟩
  have HG4 := Lib.hid (grownBy_trans HG3.out g4)
  clear g4
  go_wp2_with fail
  go_ret
  exact ⟨rfl, HG4.out⟩
theorem troot_any (n0 : Nat) (X : List Nat) (w : World) (b : Nat) (M : List PairS) (hT : TreeK n0 X w b M) (hP : Plain M) (hr : ShaReady w) :
    Calls Tryz.prog 34 #[.pointer (some ⟨b, 0, none⟩)] w fun e w' => e = .returned (.string (nodeN 128 M 0)) ∧ w.grownBy w' none := by
  have H := tnode_any n0 X w b M ⟨#[]⟩ 0 hT hP (Nat.zero_le _) hr
  have e : nodeAt M ⟨#[]⟩ (capD 0) = nodeN 128 M 0 := by
    have e1 : capD 0 = 0 := by decide
    have e2 : startM M ⟨#[]⟩ 0 = M := by
      unfold startM
      exact List.filter_eq_self.2 (fun x _ => rfl)
    rw [e1]
    unfold nodeAt
    rw [e2]
  rw [e] at H
  have HN := Lib.hid H
  clear H e hT hP hr
  go_enter Tryz.func34, Tryz.ntmps34
  go_wp2_with fail
  refine HN.out.mono ?_
  rintro e w2 ⟨rfl, g2⟩
  have HG := Lib.hid g2
  clear g2
  go_wp2_with fail
  go_ret
  exact ⟨rfl, HG.out⟩
end Go.Proofs.YtbhoeiopckmfhaaGreatDoor

namespace Go.Proofs.YtbhoeiopckmfhaaGreatDoor
open Go.RowKit
attribute [local irreducible] shaL

theorem half_bits {k s : ByteArray} {d b : Nat} (hb : b ≤ 1) (h : ∀ i, bitS s i = if i < d + 1 then (2 * bandN k d + b) / 2 ^ (d + 1 - 1 - i) % 2 else 0) : (∀ i, i < d → bitS s i = bitS k i) ∧ bitS s d = b := by
  constructor
  · intro i hi
    rw [h i, if_pos (by omega), ← bandN_bit k d i hi, show d + 1 - 1 - i = (d - 1 - i) + 1 by omega, Nat.pow_succ, Nat.mul_comm (2 ^ _) 2, ← Nat.div_div_eq_div_mul]
    congr 2
    omega
  · rw [h d, if_pos (by omega), show d + 1 - 1 - d = 0 by omega]
    omega
theorem start_half {M : List PairS} {k s : ByteArray} {d b : Nat} (h1 : ∀ i, i < d → bitS s i = bitS k i) (h2 : bitS s d = b) : startM M s (d + 1) = side b d (startM M k d) := by
  unfold startM side
  rw [List.filter_filter]
  refine List.filter_congr fun x _ => ?_
  have e : belowB x.1 s d = belowB x.1 k d := by
    rw [Bool.eq_iff_iff, belowB_iff, belowB_iff]
    exact ⟨fun h i hi => (h i hi).trans (h1 i hi), fun h i hi => (h i hi).trans (h1 i hi).symm⟩
  rw [belowB_succ, e, h2, Bool.and_comm]
theorem join_half (l : List PairS) (d : Nat) (hd : d ≤ 15) : joinN (nodeN (127 - d) (side 0 d l) (d + 1)) (nodeN (127 - d) (side 1 d l) (d + 1)) = nodeN (128 - d) l d := by
  by_cases h2 : 2 ≤ l.length
  · rw [show 128 - d = (127 - d) + 1 by omega, nodeN_more _ _ _ h2]
  · match l, h2 with
    | [], _ =>
      show joinN (nodeN _ [] _) (nodeN _ [] _) = _
      rw [nodeN_nil, nodeN_nil]
      unfold joinN
      rw [if_pos ⟨rfl, .inl rfl⟩]
    | [x], _ =>
      have hb := bitS_le x.1 d
      rw [nodeN_one]
      by_cases h : bitS x.1 d = 0
      · have e0 : side 0 d [x] = [x] := by unfold side; simp [h]
        have e1 : side 1 d [x] = [] := by unfold side; simp [h]
        rw [e0, e1, nodeN_one, nodeN_nil]
        unfold joinN
        rw [if_neg (fun q => leafS_ne _ _ q.1), if_pos ⟨rfl, leafS_leaf _ _⟩]
      · have h1 : bitS x.1 d = 1 := by omega
        have e0 : side 0 d [x] = [] := by unfold side; simp [h1]
        have e1 : side 1 d [x] = [x] := by unfold side; simp [h1]
        rw [e0, e1, nodeN_one, nodeN_nil]
        unfold joinN
        rw [if_pos ⟨rfl, .inr (leafS_leaf _ _)⟩]
    | x :: y :: r, h2 => simp at h2
theorem nodeAt_half {M : List PairS} {k s : ByteArray} {d b : Nat} (hd : d ≤ 15) (hb : b ≤ 1) (h : ∀ i, bitS s i = if i < d + 1 then (2 * bandN k d + b) / 2 ^ (d + 1 - 1 - i) % 2 else 0) : nodeAt M s (d + 1) = nodeN (127 - d) (side b d (startM M k d)) (d + 1) := by
  obtain ⟨h1, h2⟩ := half_bits hb h
  unfold nodeAt
  rw [start_half h1 h2, show 128 - (d + 1) = 127 - d by omega]
theorem nodeAt_join {M : List PairS} {k s0 s1 : ByteArray} {d : Nat} (hd : d ≤ 15) (h0 : ∀ i, bitS s0 i = if i < d + 1 then (2 * bandN k d + 0) / 2 ^ (d + 1 - 1 - i) % 2 else 0) (h1 : ∀ i, bitS s1 i = if i < d + 1 then (2 * bandN k d + 1) / 2 ^ (d + 1 - 1 - i) % 2 else 0) :
    joinN (nodeAt M s0 (d + 1)) (nodeAt M s1 (d + 1)) = nodeAt M k d := by
  rw [nodeAt_half hd (by omega) h0, nodeAt_half hd (by omega) h1, join_half _ d hd]
  rfl
end Go.Proofs.YtbhoeiopckmfhaaGreatDoor

namespace Go.Proofs.YtbhoeiopckmfhaaGreatDoor
open Go.RowKit Go.Maps
attribute [local irreducible] shaL

def goodB (L : List ByteArray) (t : Bool) (pk pv key : ByteArray) (d : Nat) : Bool :=
  besideB L t && (if t then decide (pk.size = 16) && belowB pk key (d + L.length) else decide (pk.size = 0) && decide (pv.size = 0))
theorem is_nil (s : ByteArray) : (s.toList == []) = decide (s.size = 0) := by
  rw [ByteArray.toList_eq, Bool.eq_iff_iff, beq_iff_eq, decide_eq_true_iff]
  show s.data.toList = [] ↔ s.data.size = 0
  rw [← Array.length_toList, List.length_eq_zero_iff]
set_option maxRecDepth 100000 in
set_option maxHeartbeats 3200000 in
theorem good_fine (v : Value) (L : List ByteArray) (t : Bool) (pk pv key : ByteArray) (d : Nat) (w : World) (hv : StrsAt w v L) (hs : ∀ s ∈ L, s.size ≤ maxLen) (hk : key.size = 16) (hd : d + L.length ≤ 128) (hpk : pk.size ≤ maxLen) :
    Calls Tryz.prog 115 #[.agg #[v, .bool t, .string pk, .string pv], .string key, .int .i64 d] w fun e w' => e = .returned (.bool (goodB L t pk pv key d)) ∧ w.grownBy w' none := by
  have HMAY := Lib.hid (fun (w' : World) (q : w.grownBy w' none) => beside_may v L t pk pv w' (by
    obtain ⟨a, cap, e, hc⟩ := hv
    refine ⟨a, cap, e, fun i hi => ?_⟩
    obtain ⟨g, o, e2, h1⟩ := hc i hi
    exact ⟨g, o, e2, q.cell h1 (by simp)⟩) (by omega) hs)
  obtain ⟨a, cap, rfl, hc⟩ := hv
  have HBEL := Lib.hid (fun (w' : World) => below_any pk key hpk (by unfold maxLen; omega) (d + L.length) (by omega) w')
  have HGD := Lib.hid (show goodB L t pk pv key d = (besideB L t && (if t then decide (pk.size = 16) && belowB pk key (d + L.length) else decide (pk.size = 0) && decide (pv.size = 0))) from rfl)
  obtain ⟨n, hn⟩ : ∃ n, L.length = n := ⟨_, rfl⟩
  rw [hn] at hd HBEL HGD ⊢
  rw [hn] at HMAY
  generalize goodB L t pk pv key d = G at HGD ⊢
  generalize besideB L t = MB at HGD HMAY
  obtain ⟨bb, hbb⟩ : ∃ b, belowB pk key (d + n) = b := ⟨_, rfl⟩
  rw [hbb] at HBEL HGD
  have k16 : ((key.size : Int) != 16) = false := by simp; omega
  have d0 : ¬ (d : Int) < 0 := by omega
  have n0 : (0 : Int) ≤ (n : Int) := by omega
  have n1 : (n : Int) ≤ 128 := by omega
  have n2 : ¬ (128 : Int) < (n : Int) := by omega
  have e0 : (0 : Int) ≤ (d : Int) := by omega
  have e1 : (d : Int) ≤ 128 := by omega
  have nd : ¬ (128 : Int) - (n : Int) < (d : Int) := by omega
  have wn : IntKind.i64.wrap ((128 : Int) - (n : Int)) = (128 : Int) - (n : Int) := by
    rw [show (128 : Int) - (n : Int) = ((128 - n : Nat) : Int) by omega]
    exact wrap_i64_nat _ (by omega)
  have wd : IntKind.i64.wrap ((d : Int) + (n : Int)) = (d : Int) + (n : Int) := wrap_i64_nat (d + n) (by omega)
  have HBEL2 : Hid (∀ w' : World, Calls Tryz.prog 110 #[.string pk, .string key, .int .i64 ((d : Int) + (n : Int))] w' fun e w'' => e = .returned (.bool bb) ∧ w'.grownBy w'' none) := HBEL
  have hg1 : w.grownBy (w.alloc (.cells #[.slice a n cap, .bool t, .string pk, .string pv] 92)) none := World.grownBy_alloc _ _ _
  have hb1 := heap_alloc_at w (.cells #[.slice a n cap, .bool t, .string pk, .string pv] 92) _ rfl
  have ek := is_nil pk
  have ev := is_nil pv
  have HP := Lib.hid hpk
  clear hc hn hs hbb HBEL hpk hk hd
  go_enter Tryz.func115, Tryz.ntmps115
  go_wp2_with fail
  refine (HMAY.out _ hg1).mono ?_
  rintro e w2 ⟨rfl, g2⟩
  have hb2 := g2.heap hb1 (by simp)
  have hg2 := grownBy_trans hg1 g2
  generalize w.alloc (.cells #[.slice a n cap, .bool t, .string pk, .string pv] 92) = w1 at *
  obtain ⟨XB, hXB⟩ : ∃ XB, w.heap.size = XB := ⟨_, rfl⟩
  rw [hXB] at hb2 ⊢
  have x0 := cell_of hb2 0
  have x1 := cell_of hb2 1
  have x2 := cell_of hb2 2
  have x3 := cell_of hb2 3
  simp at x0 x1 x2 x3
  have HG2 := Lib.hid hg2
  clear hg1 hb1 hXB g2 hg2 hb2 HMAY
  cases MB
  · have HE : Hid (G = false) := Lib.hid (by rw [HGD.out]; rfl)
    clear ek ev
    go_wp2_with fail
    go_ret
    exact ⟨by rw [HE.out]; rfl, HG2.out⟩
  · cases t
    · by_cases h1 : pk.size = 0
      · have q1 : (pk.toList == []) = true := by rw [ek]; simpa using h1
        by_cases h2 : pv.size = 0
        · have q2 : (pv.toList == []) = true := by rw [ev]; simpa using h2
          have HE : Hid (G = true) := Lib.hid (by rw [HGD.out]; simp [h1, h2])
          clear ek ev h1 h2
          go_wp2_with fail
          go_ret
          exact ⟨by rw [HE.out]; rfl, HG2.out⟩
        · have q2 : (pv.toList == []) = false := by rw [ev]; simpa using h2
          have HE : Hid (G = false) := Lib.hid (by rw [HGD.out]; simp [h2])
          clear ek ev h1 h2
          go_wp2_with fail
          go_ret
          exact ⟨by rw [HE.out]; rfl, HG2.out⟩
      · have q1 : (pk.toList == []) = false := by rw [ek]; simpa using h1
        have HE : Hid (G = false) := Lib.hid (by rw [HGD.out]; simp [h1])
        clear ek ev h1
        go_wp2_with fail
        go_ret
        exact ⟨by rw [HE.out]; rfl, HG2.out⟩
    · clear ek ev
      by_cases h1 : pk.size = 16
      · have q1 : ((pk.size : Int) == 16) = true := by simp; omega
        have HE : Hid (G = bb) := Lib.hid (by rw [HGD.out]; simp [h1])
        have hpm : (pk.size : Int) ≤ 9223372036854775807 := by omega
        clear h1
        go_wp2_with fail
        refine (HBEL2.out _).mono ?_
        rintro e w3 ⟨rfl, g3⟩
        have HG3 := Lib.hid (grownBy_trans HG2.out g3)
        clear g3
        go_wp2_with fail
        go_ret
        exact ⟨by rw [HE.out]; rfl, HG3.out⟩
      · have q1 : ((pk.size : Int) == 16) = false := by simp; omega
        have HE : Hid (G = false) := Lib.hid (by rw [HGD.out]; simp [h1])
        clear h1
        go_wp2_with fail
        go_ret
        exact ⟨by rw [HE.out]; rfl, HG2.out⟩
/-- a key that is none: no proof is good for it -/
theorem good_short (v : Value) (t : Bool) (pk pv key : ByteArray) (z : Int) (w : World) (hk : key.size ≠ 16) :
    Calls Tryz.prog 115 #[.agg #[v, .bool t, .string pk, .string pv], .string key, .int .i64 z] w fun e w' => e = .returned (.bool false) ∧ w.grownBy w' none := by
  have k16 : ((key.size : Int) != 16) = true := by simp; omega
  have hg1 : w.grownBy (w.alloc (.cells #[v, .bool t, .string pk, .string pv] 92)) none := World.grownBy_alloc _ _ _
  have HG1 := Lib.hid hg1
  clear hg1 hk
  go_enter Tryz.func115, Tryz.ntmps115
  go_wp2_with fail
  go_ret
  exact ⟨rfl, HG1.out⟩
end Go.Proofs.YtbhoeiopckmfhaaGreatDoor

namespace Go.Proofs.YtbhoeiopckmfhaaGreatDoor
attribute [local irreducible] shaL

/-- those on the key's own side, and those on the other one -/
def onS (key : ByteArray) (d : Nat) (l : List PairS) : List PairS := side (bitS key d) d l
def offS (key : ByteArray) (d : Nat) (l : List PairS) : List PairS := side (1 - bitS key d) d l
/-- what stands beside the way to a key -/
def wayB (key : ByteArray) : Nat → List PairS → Nat → List ByteArray
  | 0, _, _ => []
  | f + 1, l, d => if l.length < 2 then [] else nodeN f (offS key d l) (d + 1) :: wayB key f (onS key d l) (d + 1)
/-- who is at its end -/
def restB (key : ByteArray) : Nat → List PairS → Nat → List PairS
  | 0, l, _ => l
  | f + 1, l, d => if l.length < 2 then l else restB key f (onS key d l) (d + 1)
def endS : List PairS → ByteArray
  | [] => emptyS
  | x :: _ => leafS x.1 x.2
/-- up from a node, past what stands beside -/
def climbN (key : ByteArray) : Nat → List ByteArray → ByteArray → ByteArray
  | _, [], x => x
  | d, b :: r, x => if bitS key d = 1 then joinN b (climbN key (d + 1) r x) else joinN (climbN key (d + 1) r x) b
theorem endS_few (f : Nat) (l : List PairS) (d : Nat) (h : l.length ≤ 1) : endS l = nodeN f l d := by
  match l, h with
  | [], _ => rw [nodeN_nil]; rfl
  | [x], _ => rw [nodeN_one]; rfl
theorem way_climb (key : ByteArray) : ∀ (f d : Nat) (l : List PairS), d + f = 128 → Alike d l → climbN key d (wayB key f l d) (endS (restB key f l d)) = nodeN f l d := by
  intro f
  induction f with
  | zero =>
    intro d l hd hA
    exact endS_few 0 l d (hA.few (by omega))
  | succ f ih =>
    intro d l hd hA
    unfold wayB restB
    by_cases h : l.length < 2
    · rw [if_pos h, if_pos h]
      exact endS_few (f + 1) l d (by omega)
    · rw [if_neg h, if_neg h, nodeN_more f d l (by omega)]
      unfold climbN
      rw [ih (d + 1) (onS key d l) (by omega) hA.side]
      have hb := bitS_le key d
      unfold onS offS
      by_cases h1 : bitS key d = 1
      · rw [if_pos h1, h1]
      · have h0 : bitS key d = 0 := by omega
        rw [if_neg h1, h0]
theorem rest_few (key : ByteArray) : ∀ (f d : Nat) (l : List PairS), d + f = 128 → Alike d l → (restB key f l d).length ≤ 1 := by
  intro f
  induction f with
  | zero =>
    intro d l hd hA
    exact hA.few (by omega)
  | succ f ih =>
    intro d l hd hA
    unfold restB
    by_cases h : l.length < 2
    · rw [if_pos h]; omega
    · rw [if_neg h]
      exact ih (d + 1) (onS key d l) (by omega) hA.side
theorem way_len (key : ByteArray) : ∀ (f d : Nat) (l : List PairS), (wayB key f l d).length ≤ f := by
  intro f
  induction f with
  | zero => intro d l; exact Nat.le_refl _
  | succ f ih =>
    intro d l
    unfold wayB
    by_cases h : l.length < 2
    · rw [if_pos h]; exact Nat.zero_le _
    · rw [if_neg h, List.length_cons]
      have := ih (d + 1) (onS key d l)
      omega
theorem start_on (M : List PairS) (key : ByteArray) (d : Nat) : onS key d (startM M key d) = startM M key (d + 1) := (start_half (fun _ _ => rfl) rfl).symm
/-- at its end: those that begin as the key does, by as many bits as the way is long -/
theorem rest_start (M : List PairS) (key : ByteArray) : ∀ (f d : Nat), restB key f (startM M key d) d = startM M key (d + (wayB key f (startM M key d) d).length) := by
  intro f
  induction f with
  | zero => intro d; rfl
  | succ f ih =>
    intro d
    unfold restB wayB
    by_cases h : (startM M key d).length < 2
    · rw [if_pos h, if_pos h]; rfl
    · rw [if_neg h, if_neg h, start_on, ih (d + 1), List.length_cons]
      congr 1
      omega
/-- two keys or more: a node that is no leaf's -/
theorem nodeN_both : ∀ (f d : Nat) (l : List PairS), d + f = 128 → Alike d l → 2 ≤ l.length → ∃ a b, nodeN f l d = bothS a b := by
  intro f
  induction f with
  | zero =>
    intro d l hd hA h
    have := hA.few (by omega)
    omega
  | succ f ih =>
    intro d l hd hA h
    rw [nodeN_more f d l h]
    have hl := side_len d l
    have hne : ∀ b, side b d l ≠ [] → nodeN f (side b d l) (d + 1) ≠ emptyS := fun b hq => nodeN_some f (d + 1) _ (by omega) hA.side hq
    unfold joinN
    by_cases h0 : side 0 d l = []
    · have h1 : 2 ≤ (side 1 d l).length := by rw [h0] at hl; simp at hl; omega
      obtain ⟨a, b, e⟩ := ih (d + 1) (side 1 d l) (by omega) hA.side h1
      rw [h0, nodeN_nil, e, if_neg (by rw [bothS_leaf]; exact fun q => by rcases q.2 with q | q; exact bothS_ne _ _ q; cases q), if_neg (fun q => bothS_ne _ _ q.1)]
      exact ⟨_, _, rfl⟩
    · by_cases h1 : side 1 d l = []
      · have h2 : 2 ≤ (side 0 d l).length := by rw [h1] at hl; simp at hl; omega
        obtain ⟨a, b, e⟩ := ih (d + 1) (side 0 d l) (by omega) hA.side h2
        rw [h1, nodeN_nil, e, if_neg (fun q => bothS_ne _ _ q.1), if_neg (by rw [bothS_leaf]; exact fun q => by cases q.2)]
        exact ⟨_, _, rfl⟩
      · rw [if_neg (fun q => hne 0 h0 q.1), if_neg (fun q => hne 1 h1 q.1)]
        exact ⟨_, _, rfl⟩
theorem node_ok {n : ByteArray} (h : NodeS n) : okN n = true := by
  unfold okN beginsB
  cases h
  · simp
  · rename_i k v
    have e : headB (leafS k v) = 1 := head_app 1 _
    rw [leafS_size, e]
    simp
  · rename_i a b
    have e : headB (bothS a b) = 2 := head_app 2 _
    rw [bothS_size, e]
    simp
theorem way_nodes (key : ByteArray) : ∀ (f d : Nat) (l : List PairS), ∀ n ∈ wayB key f l d, NodeS n := by
  intro f
  induction f with
  | zero => intro d l n h; cases h
  | succ f ih =>
    intro d l n h
    unfold wayB at h
    by_cases h2 : l.length < 2
    · rw [if_pos h2] at h; cases h
    · rw [if_neg h2] at h
      rcases List.mem_cons.1 h with rfl | h
      · exact nodeN_node _ _ _
      · exact ih _ _ n h
theorem off_len (key : ByteArray) (d : Nat) (l : List PairS) : (onS key d l).length + (offS key d l).length = l.length := by
  have h := side_len d l
  have hb := bitS_le key d
  unfold onS offS
  by_cases h1 : bitS key d = 1
  · rw [h1, Nat.sub_self]; omega
  · have h0 : bitS key d = 0 := by omega
    rw [h0]; exact h
theorem way_end (key : ByteArray) : ∀ (f d : Nat) (l : List PairS), d + f = 128 → Alike d l → endN (wayB key f l d) (decide ((restB key f l d) ≠ [])) = true := by
  intro f
  induction f with
  | zero => intro d l _ _; rfl
  | succ f ih =>
    intro d l hd hA
    unfold wayB restB
    by_cases h : l.length < 2
    · rw [if_pos h]; rfl
    · rw [if_neg h, if_neg h]
      have h1 := ih (d + 1) (onS key d l) (by omega) hA.side
      rcases hw : wayB key f (onS key d l) (d + 1) with _ | ⟨b, r⟩
      · have hfew : (onS key d l).length ≤ 1 := by
          match f, hw with
          | 0, _ => exact (Alike.side (b := bitS key d) hA).few (by omega)
          | f + 1, hw =>
            unfold wayB at hw
            by_cases q : (onS key d l).length < 2
            · omega
            · rw [if_neg q] at hw; cases hw
        have hrest : restB key f (onS key d l) (d + 1) = onS key d l := by
          match f with
          | 0 => rfl
          | f + 1 => unfold restB; rw [if_pos (by omega)]
        have hol := off_len key d l
        rw [hrest]
        unfold endN
        show (beginsB _ 2 || (_ && !decide (_ = emptyS))) = true
        by_cases h2 : 2 ≤ (offS key d l).length
        · obtain ⟨a, b, e⟩ := nodeN_both f (d + 1) (offS key d l) (by omega) hA.side h2
          have eh : headB (bothS a b) = 2 := head_app 2 _
          rw [e]
          show ((decide ((bothS a b).size = 17) && (headB (bothS a b) == 2)) || (_ && !decide (bothS a b = emptyS))) = true
          rw [bothS_size, eh]
          simp
        · have hon : onS key d l ≠ [] := fun q => by rw [q] at hol; simp at hol; omega
          have hoff : offS key d l ≠ [] := fun q => by rw [q] at hol; simp at hol; omega
          have hne := nodeN_some f (d + 1) (offS key d l) (by omega) hA.side hoff
          simp [hon, hne]
      · rw [hw] at h1
        unfold endN at h1 ⊢
        rw [List.getLast?_cons_cons]
        exact h1
/-- what stands beside a way may be -/
theorem way_may (key : ByteArray) (f d : Nat) (l : List PairS) (hd : d + f = 128) (hA : Alike d l) : besideB (wayB key f l d) (decide ((restB key f l d) ≠ [])) = true := by
  unfold besideB
  rw [way_end key f d l hd hA, Bool.and_true, List.all_eq_true]
  exact fun n hn => node_ok (way_nodes key f d l n hn)
/-- a way from further down: the same, without what stands beside above -/
theorem way_drop (M : List PairS) (key : ByteArray) : ∀ (k f a : Nat), k ≤ (wayB key f (startM M key a) a).length → wayB key (f - k) (startM M key (a + k)) (a + k) = (wayB key f (startM M key a) a).drop k := by
  intro k
  induction k with
  | zero => intro f a _; rfl
  | succ k ih =>
    intro f a h
    match f with
    | 0 => exact absurd h (Nat.not_succ_le_zero k)
    | f + 1 =>
      unfold wayB at h
      by_cases h2 : (startM M key a).length < 2
      · rw [if_pos h2] at h; exact absurd h (Nat.not_succ_le_zero k)
      · rw [if_neg h2, List.length_cons, start_on] at h
        have e := ih f (a + 1) (by omega)
        have e2 : wayB key (f + 1) (startM M key a) a = nodeN f (offS key a (startM M key a)) (a + 1) :: wayB key f (startM M key (a + 1)) (a + 1) := by
          rw [← start_on]
          show (if (startM M key a).length < 2 then [] else _) = _
          rw [if_neg h2]
        rw [e2, List.drop_succ_cons, ← e, show f + 1 - (k + 1) = f - k by omega, show a + (k + 1) = a + 1 + k by omega]
def keyOf : List PairS → ByteArray
  | [] => ⟨#[]⟩
  | x :: _ => x.1
def valOf : List PairS → ByteArray
  | [] => ⟨#[]⟩
  | x :: _ => x.2
/-- a tree's own proof is good -/
theorem way_good (M : List PairS) (key : ByteArray) (d : Nat) (hd : d ≤ 128) (hone : M.Pairwise (fun p q => p.1 ≠ q.1)) (h16 : ∀ x ∈ M, x.1.size = 16) :
    goodB (wayB key (128 - d) (startM M key d) d) (decide ((restB key (128 - d) (startM M key d) d) ≠ [])) (keyOf (restB key (128 - d) (startM M key d) d)) (valOf (restB key (128 - d) (startM M key d) d)) key d = true := by
  have hA := start_alike hone h16 key d
  have h1 := way_may key (128 - d) d (startM M key d) (by omega) hA
  have h2 := rest_start M key (128 - d) d
  unfold goodB
  rw [h1, Bool.true_and]
  generalize wayB key (128 - d) (startM M key d) d = L at h2
  rw [h2]
  rcases hr : startM M key (d + L.length) with _ | ⟨x, r⟩
  · rfl
  · have hx : x ∈ startM M key (d + L.length) := by rw [hr]; exact List.mem_cons_self
    have hx2 := List.mem_filter.1 hx
    have e1 : belowB x.1 key (d + L.length) = true := hx2.2
    have e2 := h16 x hx2.1
    rw [show decide (x :: r ≠ []) = true from rfl, if_pos rfl]
    show (decide (x.1.size = 16) && belowB x.1 key (d + L.length)) = true
    rw [e1, e2]
    rfl
end Go.Proofs.YtbhoeiopckmfhaaGreatDoor

namespace Go.Proofs.YtbhoeiopckmfhaaGreatDoor
attribute [local irreducible] shaL

theorem likeL_like (key : ByteArray) (d : Nat) (L : List ByteArray) : likeL key (d + 1) (likeL key d L) = likeL key (d + 1) L := by
  unfold likeL
  rw [List.filter_filter]
  refine List.filter_congr fun x _ => ?_
  rw [Bool.eq_iff_iff, Bool.and_eq_true]
  refine ⟨fun h => h.1, fun h => ⟨h, ?_⟩⟩
  exact (belowB_iff x key d).2 (fun i hi => (belowB_iff x key (d + 1)).1 h i (by omega))
theorem keysM_perm (M : List PairS) : (keysM M).Perm (M.map Prod.fst) := by
  have h1 : (keysM M).Perm (((M.filter fun _ => true).map fun x => x.1.data.toList).map str) := (List.mergeSort_perm _ _).map str
  rw [List.map_map] at h1
  have e : (M.filter fun _ => true) = M := List.filter_eq_self.2 (fun _ _ => rfl)
  rw [e] at h1
  exact h1
theorem like_perm (M : List PairS) (key : ByteArray) (d : Nat) : (likeL key d (keysM M)).Perm ((startM M key d).map Prod.fst) := by
  have h := (keysM_perm M).filter (fun x => belowB x key d)
  rw [List.filter_map] at h
  exact h
theorem like_len (M : List PairS) (key : ByteArray) (d : Nat) : (likeL key d (keysM M)).length = (startM M key d).length := by
  have := (like_perm M key d).length_eq
  rwa [List.length_map] at this
theorem like_one (M : List PairS) (key : ByteArray) (d : Nat) (h : (startM M key d).length = 1) : likeL key d (keysM M) = [keyOf (startM M key d)] := by
  have hp := like_perm M key d
  match hs : startM M key d, h with
  | [x], _ =>
    rw [hs] at hp
    exact List.perm_singleton.1 hp
theorem like_mem {M : List PairS} {key : ByteArray} {d : Nat} {s : ByteArray} (h16 : ∀ x ∈ M, x.1.size = 16) (h : s ∈ likeL key d (keysM M)) : s.size = 16 := by
  obtain ⟨x, hx, rfl⟩ := List.mem_map.1 ((keysM_perm M).mem_iff.1 (List.mem_filter.1 h).1)
  exact h16 x hx
theorem keys16 {M : List PairS} {s : ByteArray} (h16 : ∀ x ∈ M, x.1.size = 16) (h : s ∈ keysM M) : s.size = 16 := by
  obtain ⟨x, hx, rfl⟩ := List.mem_map.1 ((keysM_perm M).mem_iff.1 h)
  exact h16 x hx
theorem keys_len (M : List PairS) : (keysM M).length = M.length := by rw [(keysM_perm M).length_eq, List.length_map]
theorem val_one {M : List PairS} (hone : M.Pairwise (fun p q => p.1 ≠ q.1)) (key : ByteArray) (d : Nat) (h : (startM M key d).length = 1) : valM M (keyOf (startM M key d)) = valOf (startM M key d) := by
  match hs : startM M key d, h with
  | [x], _ =>
    have hx : x ∈ startM M key d := by rw [hs]; exact List.mem_cons_self
    exact valM_mem hone x (List.mem_filter.1 hx).1
/-- what stands beside the way to a key in a tree, from a depth on; who is at its end -/
def wayT (M : List PairS) (key : ByteArray) (d : Nat) : List ByteArray := wayB key (128 - d) (startM M key d) d
def restT (M : List PairS) (key : ByteArray) (d : Nat) : List PairS := restB key (128 - d) (startM M key d) d
theorem wayT_more {M : List PairS} {key : ByteArray} {d : Nat} (hd : d < 128) (h : 2 ≤ (startM M key d).length) : wayT M key d = nodeN (128 - (d + 1)) (offS key d (startM M key d)) (d + 1) :: wayT M key (d + 1) ∧ restT M key d = restT M key (d + 1) := by
  unfold wayT restT
  have e1 : ∀ (f : Nat) (l : List PairS) (d : Nat), wayB key (f + 1) l d = if l.length < 2 then [] else nodeN f (offS key d l) (d + 1) :: wayB key f (onS key d l) (d + 1) := fun _ _ _ => rfl
  have e2 : ∀ (f : Nat) (l : List PairS) (d : Nat), restB key (f + 1) l d = if l.length < 2 then l else restB key f (onS key d l) (d + 1) := fun _ _ _ => rfl
  rw [show 128 - d = (128 - (d + 1)) + 1 by omega, e1, e2, if_neg (by omega), if_neg (by omega), start_on]
  exact ⟨rfl, rfl⟩
theorem wayT_end {M : List PairS} {key : ByteArray} {d : Nat} (h : (startM M key d).length < 2) : wayT M key d = [] ∧ restT M key d = startM M key d := by
  unfold wayT restT
  match 128 - d with
  | 0 => exact ⟨rfl, rfl⟩
  | f + 1 =>
    unfold wayB restB
    rw [if_pos h, if_pos h]
    exact ⟨rfl, rfl⟩
theorem beside_node {M : List PairS} {key s : ByteArray} {d : Nat} (hd : d < 128) (hs : ∀ i, i < 128 → bitS s i = if i = d then 1 - bitS key i else bitS key i) : nodeAt M s (d + 1) = nodeN (128 - (d + 1)) (offS key d (startM M key d)) (d + 1) := by
  unfold nodeAt offS
  rw [start_half (k := key) (b := 1 - bitS key d) (fun i hi => by rw [hs i (by omega), if_neg (by omega)]) (by rw [hs d hd, if_pos rfl])]
theorem start_two {M : List PairS} (hone : M.Pairwise (fun p q => p.1 ≠ q.1)) (h16 : ∀ x ∈ M, x.1.size = 16) {key : ByteArray} {d : Nat} (hd : d ≤ 128) (h : 2 ≤ (startM M key d).length) : d < 128 := by
  rcases Nat.lt_or_ge d 128 with q | q
  · exact q
  · have := (start_alike hone h16 key d).few q
    omega
theorem capD_at (d : Nat) (h : d ≤ 128) : capD (d : Int) = d := by unfold capD; omega
end Go.Proofs.YtbhoeiopckmfhaaGreatDoor

namespace Go.Proofs.YtbhoeiopckmfhaaGreatDoor
open Go.RowKit Go.Maps

theorem conv_bytes (k : ByteArray) (w : World) : (convert 9 23 (.string k)).run Tryz.prog w = .ok (.slice (some ⟨w.heap.size, 0, none⟩) k.size (grownCap w k.size 0 5)) (Lib.bytesWorld w 5 k) :=
  Lib.run_convert_string_bytes w 9 23 5 k (u := .string) Tryz.underlying9 Tryz.underlying23 Tryz.underlying5
theorem grown_bytes (k : ByteArray) (w : World) (e : TypeId) : w.grownBy (Lib.bytesWorld w e k) none := by
  have h := grownBy_alloc' (grownBy_drew (World.grownBy.refl w none)) (.cells (Lib.bytesCells w e k) e)
  refine ⟨h.os, h.tape, h.output, by rw [Lib.bytesWorld_size]; omega, fun i hi _ => Lib.bytesWorld_at_old w e k i hi⟩
theorem bitL_flip (l : List UInt8) (q r c : Nat) (hq : q < l.length) (hr : r < 8) (hc : ((l[q]?).getD 0).toNat = c) (i : Nat) :
    bitL (l.set q (UInt8.ofNat (c ^^^ 2 ^ (7 - r)))) i = if i = 8 * q + r then 1 - bitL l i else bitL l i := by
  have hp : 2 ^ (7 - r) < 256 := Nat.lt_of_le_of_lt (Nat.pow_le_pow_right (by decide) (by omega : 7 - r ≤ 7)) (by decide)
  have hc8 : c < 256 := by rw [← hc]; exact UInt8.toNat_lt _
  have hor : c ^^^ 2 ^ (7 - r) < 256 := Nat.xor_lt_two_pow (n := 8) hc8 hp
  unfold bitL
  by_cases hiq : i / 8 = q
  · rw [hiq, List.getElem?_set_self hq, Option.getD_some, UInt8.toNat_ofNat_of_lt' hor, hc, bit_test, bit_test, Nat.testBit_xor, Nat.testBit_two_pow]
    by_cases hir : i % 8 = r
    · rw [if_pos (by omega), hir]
      cases c.testBit (7 - r) <;> simp
    · rw [if_neg (by omega)]
      have : decide (7 - r = 7 - i % 8) = false := by simp; omega
      rw [this]
      simp
  · rw [List.getElem?_set_ne (fun e => hiq e.symm), if_neg (by omega)]
theorem half_pow (r : Nat) (h : r < 8) : (128 : Int) / 2 ^ r = ((2 ^ (7 - r) : Nat) : Int) := by
  match r, h with
  | 0, _ | 1, _ | 2, _ | 3, _ | 4, _ | 5, _ | 6, _ | 7, _ => rfl
theorem flip_conv (k : ByteArray) (hk : k.size = 16) (w : World) (KB q : Nat) (hKB : w.heap.size = KB) (u : UInt8) (C : Nat) (W3 : World) (hW : W3.heap = ((Lib.bytesWorld w 5 k).setCell ⟨KB, q, none⟩ (.int .u8 u.toNat)).heap) :
    (convert 23 9 (.slice (some ⟨KB, 0, none⟩) 16 C)).run Tryz.prog W3 = .ok (.string (str (k.data.toList.set q u))) W3 := by
  subst hKB
  have h16 : (k.data.toList.set q u).length = 16 := by rw [List.length_set, Array.length_toList]; exact hk
  have h := run_convert_bytes_back (P := Tryz.prog) W3 23 9 5 ⟨w.heap.size, 0, none⟩ C (k.data.toList.set q u) Tryz.underlying23 Tryz.underlying5 Tryz.underlying9 (fun j hj => by
    have hb := Lib.bytesWorld_at_new w 5 k
    have hj2 : j < k.size := by omega
    have hc := Lib.bytesWorld_cell w 5 k j hj2
    rw [cell_of hb] at hc
    have hs := cell_of (heap_setCell hb q (.int .u8 u.toNat)) j
    have hW3 : W3.cell? ⟨w.heap.size, j, none⟩ = ((Lib.bytesWorld w 5 k).setCell ⟨w.heap.size, q, none⟩ (.int .u8 u.toNat)).cell? ⟨w.heap.size, j, none⟩ := by unfold World.cell?; rw [hW]
    rw [show (⟨w.heap.size, 0, none⟩ : Addr).add j = ⟨w.heap.size, j, none⟩ from (by unfold Addr.add; split <;> simp_all), hW3, hs, Array.getElem?_setIfInBounds]
    have hsz : j < (Lib.bytesCells w 5 k).size := by
      rcases Nat.lt_or_ge j (Lib.bytesCells w 5 k).size with h | h
      · exact h
      · rw [Array.getElem?_eq_none h] at hc; cases hc
    by_cases e : q = j
    · subst e
      simp [hsz]
    · have hl : j < k.data.toList.length := by rw [Array.length_toList]; exact hj2
      rw [if_neg e, hc, List.getElem_set_ne e]
      simp [List.getD, List.getElem?_eq_getElem hl])
  rw [h16] at h
  exact h
set_option maxRecDepth 100000 in
set_option maxHeartbeats 1600000 in
theorem turned_any (k : ByteArray) (hk : k.size = 16) (d : Nat) (hd : d < 128) (w : World) : Calls Tryz.prog 78 #[.string k, .int .i64 d] w fun e w' => ∃ s : ByteArray, e = .returned (.string s) ∧ (s.size = 16 ∧ ∀ i, i < 128 → bitS s i = if i = d then 1 - bitS k i else bitS k i) ∧ w.grownBy w' none := by
  have hcv := conv_bytes k w
  rw [hk] at hcv
  have hg := grown_bytes k w 5
  have hb := Lib.bytesWorld_at_new w 5 k
  obtain ⟨W2, hW2⟩ : ∃ W2, Lib.bytesWorld w 5 k = W2 := ⟨_, rfl⟩
  rw [hW2] at hcv hg hb
  generalize grownCap w 16 0 5 = C at hcv
  obtain ⟨q, hq⟩ : ∃ q, d / 8 = q := ⟨_, rfl⟩
  obtain ⟨r, hr⟩ : ∃ r, d % 8 = r := ⟨_, rfl⟩
  have hq1 : (d : Int) / 8 = (q : Int) := by omega
  have hr1 : (d : Int) % 8 = (r : Int) := by omega
  have hqt : Int.tdiv (d : Int) 8 = (q : Int) := by rw [Int.tdiv_eq_ediv_of_nonneg (by omega)]; exact hq1
  have hrt : Int.tmod (d : Int) 8 = (r : Int) := by rw [Int.tmod_eq_emod_of_nonneg (by omega)]; exact hr1
  have hq16 : (q : Int) < 16 := by omega
  have hq0 : (0 : Int) ≤ (q : Int) := by omega
  have hr8 : (r : Int) < 8 := by omega
  have hr0 : (0 : Int) ≤ (r : Int) := by omega
  obtain ⟨v, hv⟩ : ∃ v : UInt8, k.data.toList.getD q 0 = v := ⟨_, rfl⟩
  have hcell : W2.cell? ⟨w.heap.size, q, none⟩ = some (.int .u8 v.toNat) := by
    rw [← hW2, Lib.bytesWorld_cell w _ k q (by omega), hv]
  have hfree : W2.frozen? ⟨w.heap.size, q, none⟩ = false := by
    have hs : 16 ≤ (Lib.bytesCells w 5 k).size := by unfold Lib.bytesCells; rw [Array.size_append, Array.size_map]; have : k.data.size = 16 := hk; omega
    simp [World.frozen?, hb]
    omega
  have hvl : ((k.data.toList[q]?).getD 0).toNat = v.toNat := by rw [← hv]; rfl
  have hx : bits .xor .u8 (v.toNat : Int) ((128 : Int) / 2 ^ r) = ((UInt8.ofNat (v.toNat ^^^ 2 ^ (7 - r))).toNat : Int) := by
    have hp : 2 ^ (7 - r) < 256 := Nat.lt_of_le_of_lt (Nat.pow_le_pow_right (by decide) (by omega : 7 - r ≤ 7)) (by decide)
    have hor : v.toNat ^^^ 2 ^ (7 - r) < 256 := Nat.xor_lt_two_pow (n := 8) (UInt8.toNat_lt v) hp
    rw [half_pow r (by omega), u8_xor_nat _ _ (UInt8.toNat_lt v) hp, UInt8.toNat_ofNat_of_lt' hor]
  have hbits := fun i => bitL_flip k.data.toList q r v.toNat (by rw [Array.length_toList]; have : k.data.size = 16 := hk; omega) (by omega) hvl i
  generalize UInt8.ofNat (v.toNat ^^^ 2 ^ (7 - r)) = u at hx hbits
  have hfc := flip_conv k hk w w.heap.size q rfl u C
  rw [hW2, ← hx] at hfc
  have hfc1 := hfc (W2.setCell ⟨w.heap.size, q, none⟩ (.int .u8 (bits .xor .u8 (v.toNat : Int) ((128 : Int) / 2 ^ r)))).drew rfl
  have hst : (str (k.data.toList.set q u)).size = 16 := by show (k.data.toList.set q u).length = 16; rw [List.length_set, Array.length_toList]; exact hk
  have hg3 := grownBy_drew (grownBy_setNew hg (Nat.le_refl _) q (.int .u8 (bits .xor .u8 (v.toNat : Int) ((128 : Int) / 2 ^ r))))
  have HB := Lib.hid (And.intro hst (And.intro hg3 hbits))
  have hqr : 8 * q + r = d := by omega
  have HQ := Lib.hid hqr
  obtain ⟨KB, hKB⟩ : ∃ KB, w.heap.size = KB := ⟨_, rfl⟩
  rw [hKB] at hcell hcv hfree hfc1 HB
  clear hb hg hW2 hfc hst hg3 hbits hx hvl hv hqr
  go_enter Tryz.func78, Tryz.ntmps78
  go_wp2_with fail
  go_region
  all_goals
    go_wp2_with fail
    go_ret
    refine ⟨_, rfl, ⟨HB.out.1, fun i _ => ?_⟩, HB.out.2.1⟩
    have := HB.out.2.2 i
    rw [HQ.out] at this
    exact this
end Go.Proofs.YtbhoeiopckmfhaaGreatDoor

namespace Go.Proofs.YtbhoeiopckmfhaaGreatDoor
open Go.RowKit Go.Maps
attribute [local irreducible] shaL

theorem strs_grown {w w' : World} {v : Value} {L : List ByteArray} (hv : StrsAt w v L) (q : w.grownBy w' none) : StrsAt w' v L := by
  obtain ⟨a, cap, e, hc⟩ := hv
  refine ⟨a, cap, e, fun i hi => ?_⟩
  obtain ⟨g, o, e2, h1⟩ := hc i hi
  exact ⟨g, o, e2, q.cell h1 (by simp)⟩
set_option maxRecDepth 100000 in
set_option maxHeartbeats 3200000 in
theorem pnode_fine (v : Value) (L : List ByteArray) (t : Bool) (pk pv key : ByteArray) (d : Nat) (w : World) (hr : ShaReady w) (hv : StrsAt w v L) (hs : ∀ s ∈ L, s.size ≤ maxLen) (hk : key.size = 16) (hd : d + L.length ≤ 128) (hpk : pk.size ≤ 1000) (hpv : pv.size ≤ 1000)
    (hC : ∀ (x : ByteArray) (w' : World), x.size ≤ 17 → w.grownBy w' none → Calls Tryz.prog 117 #[.string x, .string key, .int .i64 d, v] w' fun e w'' => e = .returned (.string (climbN key d L x)) ∧ w'.grownBy w'' none) :
    Calls Tryz.prog 74 #[.agg #[v, .bool t, .string pk, .string pv], .string key, .int .i64 d] w fun e w' => e = .returned (.string (if goodB L t pk pv key d then climbN key d L (if t then leafS pk pv else emptyS) else ⟨#[]⟩)) ∧ w.grownBy w' none := by
  have HGOOD := Lib.hid (fun (w' : World) (q : w.grownBy w' none) => good_fine v L t pk pv key d w' (strs_grown hv q) hs hk hd (by unfold maxLen; omega))
  have HLEAF := Lib.hid (fun (w' : World) (q : w.grownBy w' none) => tleaf_any pk pv (by omega) (by omega) w' (hr.grown q))
  have HC0 := Lib.hid (fun (w' : World) (q : w.grownBy w' none) => hC emptyS w' (by decide) q)
  have HC1 := Lib.hid (fun (w' : World) (q : w.grownBy w' none) => hC (leafS pk pv) w' (by rw [leafS_size]; omega) q)
  generalize leafS pk pv = LF at HLEAF HC1 ⊢
  obtain ⟨R0, hR0⟩ : ∃ R, climbN key d L emptyS = R := ⟨_, rfl⟩
  obtain ⟨R1, hR1⟩ : ∃ R, climbN key d L LF = R := ⟨_, rfl⟩
  rw [hR0] at HC0
  rw [hR1] at HC1
  obtain ⟨G, hG⟩ : ∃ G, goodB L t pk pv key d = G := ⟨_, rfl⟩
  rw [hG] at HGOOD ⊢
  have HRR := Lib.hid (And.intro hR0 hR1)
  have hg1 : w.grownBy (w.alloc (.cells #[v, .bool t, .string pk, .string pv] 92)) none := World.grownBy_alloc _ _ _
  have hb1 := heap_alloc_at w (.cells #[v, .bool t, .string pk, .string pv] 92) _ rfl
  clear hr hv hs hk hd hpk hpv hC hR0 hR1 hG
  go_enter Tryz.func74, Tryz.ntmps74
  go_wp2_with fail
  refine (HGOOD.out _ hg1).mono ?_
  rintro e w2 ⟨rfl, g2⟩
  have hb2 := g2.heap hb1 (by simp)
  have hg2 := grownBy_trans hg1 g2
  obtain ⟨XB, hXB⟩ : ∃ XB, w.heap.size = XB := ⟨_, rfl⟩
  rw [hXB] at hb2 ⊢
  have x0 := cell_of hb2 0
  have x1 := cell_of hb2 1
  have x2 := cell_of hb2 2
  have x3 := cell_of hb2 3
  simp at x0 x1 x2 x3
  have HG2 := Lib.hid hg2
  have HB2 := Lib.hid hb2
  clear hg1 hb1 hXB g2 hg2 hb2 HGOOD
  cases G
  · go_wp2_with fail
    go_ret
    exact ⟨rfl, HG2.out⟩
  · cases t
    · go_wp2_with fail
      refine (HC0.out _ HG2.out).mono ?_
      rintro e w3 ⟨rfl, g3⟩
      have HG3 := Lib.hid (grownBy_trans HG2.out g3)
      clear g3
      go_wp2_with fail
      go_ret
      exact ⟨by rw [← HRR.out.1]; rfl, HG3.out⟩
    · go_wp2_with fail
      refine (HLEAF.out _ HG2.out).mono ?_
      rintro e w3 ⟨rfl, g3⟩
      have x0 := cell_of (g3.heap HB2.out (by simp)) 0
      simp at x0
      have HG3 := Lib.hid (grownBy_trans HG2.out g3)
      clear g3
      go_wp2_with fail
      refine (HC1.out _ HG3.out).mono ?_
      rintro e w4 ⟨rfl, g4⟩
      have HG4 := Lib.hid (grownBy_trans HG3.out g4)
      clear g4
      go_wp2_with fail
      go_ret
      exact ⟨by rw [← HRR.out.2]; rfl, HG4.out⟩
end Go.Proofs.YtbhoeiopckmfhaaGreatDoor

namespace Go.Proofs.YtbhoeiopckmfhaaGreatDoor
open Go.RowKit Go.Shelf
attribute [local irreducible] shaL
attribute [local go_sem] Oper.semAt_some

/-- the places of a list, the last one first, as far as the k-th -/
def downsP (m : Nat) (k : Nat) : List Nat := (List.range k).map fun j => m - 1 - j
theorem downsP_succ (m k : Nat) : downsP m (k + 1) = downsP m k ++ [m - 1 - k] := by simp [downsP, List.range_succ]
theorem downsP_length (m k : Nat) : (downsP m k).length = k := by simp [downsP]
/-- the k-th text (behind the last one: none) -/
def entT (L : List ByteArray) (k : Nat) : ByteArray := L.getD k ⟨#[]⟩
theorem entT_at (L : List ByteArray) (k : Nat) (h : k < L.length) : L[k]? = some (entT L k) := by
  unfold entT
  rw [List.getD_eq_getElem?_getD, List.getElem?_eq_getElem h]
  rfl
theorem backwardT_any (a : Option Addr) (n c : Nat) (w : World) : Calls Tryz.prog 159 #[.slice a n c] w fun e w' => e = .returned (.func (.func 180) #[] #[.pointer (some ⟨w.heap.size, 0, none⟩)]) ∧ w.alloc (.cells #[.slice a n c] 33) = w' := by
  go_enter Tryz.func159, Tryz.ntmps159
  go_wp2_with fail
  go_ret
  exact ⟨rfl, rfl⟩
/-- all that lay when the loop began lies on, but for one block -/
def butOne (n0 n : Nat) (i : Nat) : Prop := n0 ≤ i ∨ i = n
set_option maxRecDepth 100000 in
set_option maxHeartbeats 2000000 in
theorem backwardT1_in (F : Fence) (n : Nat) (h27 : F.fn 180) (hro : F.round = none) (hn : 1 ≤ n) (l Bs n₀ nb m cw : Nat) (v0 : Option Addr) (es : List ByteArray) (hm : es.length = m) (hlen : m ≤ 1000000000) (hBs : Bs < n₀) (hBn : Bs ≠ nb) (J Jx : List Nat → World → Prop)
    (hY : ∀ pre x W, J pre W → pre.length < m → YieldAt F (n - 1) Tryz.prog l #[.int .i64 (min x m : Nat), .string (entT es x)] W fun e W' =>
      (e = .returned (.bool true) ∧ J (pre ++ [x]) W' ∧ Turn (butOne n₀ nb) W W') ∨ (e = .returned (.bool false) ∧ Jx (pre ++ [x]) W'))
    (W : World) (hnW : n₀ ≤ W.heap.size) (hBc : W.cell? ⟨Bs, 0, none⟩ = some (.slice v0 m cw)) (hv : ∀ i, (h : i < m) → ∃ g o, v0 = some ⟨g, o, none⟩ ∧ g < n₀ ∧ g ≠ nb ∧ W.cell? ⟨g, o + i, none⟩ = some (.string (entT es i))) (h0 : J [] W) :
    CallsIn F n Tryz.prog 180 #[.func (.yield l) #[] #[], .pointer (some ⟨Bs, 0, none⟩)] W fun e W' => (∃ v, e = .returned v) ∧
      ((∃ ys, ys = downsP m m ∧ J ys W') ∨ (∃ pre, (∃ k, k < m ∧ pre = downsP m (k + 1)) ∧ Jx pre W')) := by
  have HV := Lib.hid hv
  clear hv
  refine callsIn_of_wp Tryz.func180 rfl h27 ?_ hro
  simp only [Tryz.ntmps180, List.size_toArray, List.length_cons, List.length_nil, Nat.reduceAdd, Nat.reduceSub, Array.replicate_succ, Array.replicate_zero, List.push_toArray, List.append_toArray, List.nil_append, List.cons_append]
  gi_wp2
  gi_loopw [3] (fun i wr => ∃ (z : Int) (r : Nat), i = .int .i64 z ∧ Hid (z = (r : Int) - 1) ∧ r ≤ m ∧ J (downsP m (m - r)) wr ∧ Turn (butOne n₀ nb) W wr)
    (fun i _ => (intOf i + 1).toNat)
  case atStart => exact ⟨_, m, rfl, rfl, Nat.le_refl _, by rw [Nat.sub_self]; exact h0, Turn.refl _ _⟩
  case round =>
    obtain ⟨z, r, rfl, HZ, hr, hJs, hnx⟩ := hrel
    have hBc' : wr.cell? ⟨Bs, 0, none⟩ = some (.slice v0 m cw) := (hnx.cell (by omega) (fun q => by rcases q with q | q <;> omega) 0).trans hBc
    cases r with
    | zero =>
      obtain rfl : z = -1 := by have := HZ.out; omega
      gi_wp2
      go_end0
      exact ⟨⟨_, rfl⟩, .inl ⟨_, rfl, by simpa using hJs⟩⟩
    | succ r =>
      obtain rfl : z = (r : Int) := by have := HZ.out; omega
      have hrm : r < m := hr
      have z0 : (0 : Int) ≤ (r : Int) := by omega
      have z1 : (r : Int) < (m : Int) := by omega
      obtain ⟨gw, ow, rfl, hgw, hgn, hcw⟩ := HV.out r hrm
      have hcr : wr.cell? ⟨gw, ow + r, none⟩ = some (.string (entT es r)) := (hnx.cell (by omega) (fun q => by rcases q with q | q <;> omega) _).trans hcw
      have hY2 := hY _ r wr hJs (by rw [downsP_length]; omega)
      rw [Nat.min_eq_left (by omega : r ≤ m)] at hY2
      obtain ⟨fn, tmps, assign, body, hy, hR⟩ := hY2
      gi_wp2
      have hpre : downsP m (m - (r + 1)) ++ [r] = downsP m (m - r) := by
        have e1 : m - r = (m - (r + 1)) + 1 := by clear HV; omega
        have e2 : m - 1 - (m - (r + 1)) = r := by clear HV; omega
        rw [e1, downsP_succ, e2]
      refine hR.mono ?_
      rintro e W3 (⟨rfl, hJ3, hk3⟩ | ⟨rfl, hJx3⟩)
      · rw [hpre] at hJ3
        gi_wp2
        go_roundw
        case rel => exact ⟨_, r, rfl, rfl, by omega, hJ3, hnx.then hk3⟩
        case measure => simp [intOf]
      · gi_wp2
        refine bodyPost_ret (results_none rfl _ _ _) rfl ?_
        exact ⟨⟨_, rfl⟩, .inr ⟨_, ⟨m - (r + 1), by omega, by rw [hpre, show m - r = m - (r + 1) + 1 from by omega]⟩, hJx3⟩⟩
/-- what a range over slices.Backward(s) hands on -/
def encT (es : List ByteArray) (x : Nat) : Array Value := #[.int .i64 (min x es.length : Nat), .string (entT es x)]
theorem backwardT_stops (F : Fence) (n : Nat) (h27 : F.fn 180) (hro : F.round = none) (hn : 1 ≤ n) (Bs n₀ nb : Nat) (v : Value) (es : List ByteArray) (hlen : es.length ≤ 1000000000) (w : World) (hBs : Bs < n₀) (hBn : Bs ≠ nb) (hn₀ : n₀ ≤ w.heap.size)
    (hc : w.cell? ⟨Bs, 0, none⟩ = some v) (hv : StrsAt w v es) (hvn : ∀ i g o, i < es.length → v.ownBlock = some g → w.cell? ⟨g, o, none⟩ = some (.string (entT es i)) → g < n₀ ∧ g ≠ nb) :
    SeqStopsK F n Tryz.prog 180 #[.pointer (some ⟨Bs, 0, none⟩)] (encT es) (Turn (butOne n₀ nb)) (fun ys => ys = downsP es.length es.length) (fun pre => ∃ k, k < es.length ∧ pre = downsP es.length (k + 1)) es.length w := fun l J Jx W hW _ _ hY h0 => by
  have hc' := (hW.cell (p := ⟨Bs, 0, none⟩) (Nat.lt_of_lt_of_le hBs hn₀)).trans hc
  obtain ⟨a, cap, rfl, hi⟩ := hv
  refine (backwardT1_in F n h27 hro hn l Bs n₀ nb es.length cap a es rfl hlen hBs hBn J Jx hY W (Nat.le_trans hn₀ hW.size) hc' (fun i h => ?_) h0).mono ?_
  · obtain ⟨g, o, rfl, h1⟩ := hi i h
    have e1 : es[i] = entT es i := by have := entT_at es i h; rw [List.getElem?_eq_getElem h] at this; exact Option.some.inj this
    rw [e1] at h1
    have hg := hvn i g (o + i) h rfl h1
    exact ⟨g, o, rfl, hg.1, hg.2, (hW.cell (p := ⟨g, o + i, none⟩) (Nat.lt_of_lt_of_le hg.1 hn₀)).trans h1⟩
  · rintro e W' ⟨he, ⟨ys, rfl, hj⟩ | ⟨pre, hk, hj⟩⟩
    · exact ⟨he, .inl ⟨_, rfl, hj⟩⟩
    · exact ⟨he, .inr ⟨_, hk, hj⟩⟩
end Go.Proofs.YtbhoeiopckmfhaaGreatDoor
