/- The walks of above (at any keys), Node, Root. -/
import Derived.Test.YtgaenpbdfelhhaaDoorBandNodesB3
import Derived.Test.YtgaenpbdfelhhaaDoorBandNodesB1
import Derived.Deep.DeepCutAuto
namespace Go.Proofs.YtgaenpbdfelhhaaDoor
open Go.RowKit Go.Maps
attribute [local irreducible] shaL

theorem above_zero (b : Nat) (a : Option Addr) (c : Nat) (d : Int) (w : World) :
    Calls Tryd.prog 56 #[.pointer (some ⟨b, 0, none⟩), .slice a 0 c, .int .i64 d] w fun e w' => e = .returned (.string emptyS) ∧ w.grownBy w' none := by
  go_enter Tryd.func56, Tryd.ntmps56
  go_wp2_with fail
  go_ret
  exact ⟨rfl, World.grownBy.refl _ _ |> fun h => grownBy_alloc' h _⟩
theorem strs_front {w : World} {g o n c : Nat} {L : List ByteArray} (h : StrsAt w (.slice (some ⟨g, o, none⟩) n c) L) (k : Nat) (hk : k ≤ n) (c2 : Nat) : StrsAt w (.slice (some ⟨g, o, none⟩) k c2) (L.take k) := by
  obtain ⟨a, cap, he, hc⟩ := h
  injection he with e1 e2 e3
  refine ⟨some ⟨g, o, none⟩, c2, by rw [List.length_take]; congr 1; omega, fun i hi => ?_⟩
  rw [List.length_take] at hi
  obtain ⟨g', o', e4, h1⟩ := hc i (by omega)
  rw [← e1] at e4
  cases e4
  exact ⟨g, o, rfl, by rw [List.getElem_take]; exact h1⟩
theorem strs_back {w : World} {g o n c : Nat} {L : List ByteArray} (h : StrsAt w (.slice (some ⟨g, o, none⟩) n c) L) (k : Nat) (hk : k ≤ n) (c2 : Nat) : StrsAt w (.slice (some ⟨g, o + k, none⟩) (n - k) c2) (L.drop k) := by
  obtain ⟨a, cap, he, hc⟩ := h
  injection he with e1 e2 e3
  refine ⟨some ⟨g, o + k, none⟩, c2, by rw [List.length_drop, e2], fun i hi => ?_⟩
  rw [List.length_drop] at hi
  obtain ⟨g', o', e4, h1⟩ := hc (k + i) (by omega)
  rw [← e1] at e4
  cases e4
  exact ⟨g, o + k, rfl, by rw [List.getElem_drop, Nat.add_assoc]; exact h1⟩
theorem pairs_key (M : List PairS) (L : List ByteArray) (d : Nat) (hA : Alike d (pairsM M L)) : (∀ k ∈ L, k.size = 16) ∧ (∀ x ∈ L, ∀ y ∈ L, ∀ i, i < d → bitS x i = bitS y i) :=
  ⟨fun k hk => hA.len (k, valM M k) (List.mem_map.2 ⟨k, hk, rfl⟩), fun x hx y hy i hi => hA.bits (x, valM M x) (List.mem_map.2 ⟨x, hx, rfl⟩) (y, valM M y) (List.mem_map.2 ⟨y, hy, rfl⟩) i hi⟩
def vals_small (M : List PairS) : Prop := ∀ x ∈ M, x.2.size ≤ 1000000
theorem val_small {M : List PairS} (h : vals_small M) (k : ByteArray) : (valM M k).size ≤ 1000000 := by
  unfold valM
  cases hf : M.find? (fun p => decide (p.1 = k)) with
  | none => exact Nat.zero_le _
  | some p => exact h p (List.mem_of_find?_eq_some hf)
set_option maxRecDepth 100000 in
set_option maxHeartbeats 6400000 in
theorem tabove_any (n0 : Nat) (X : List Nat) (b : Nat) (M : List PairS) (hS : vals_small M) : ∀ (f d : Nat) (a : Option Addr) (n c : Nat) (L : List ByteArray) (w : World), d + f = 128 → n ≤ 1000000 → n ≤ c → c ≤ maxLen → TreeK n0 X w b M → StrsAt w (.slice a n c) L → Rises L → (∀ k ∈ L, hasM M k = true) → Alike d (pairsM M L) → ShaReady w →
    Calls Tryd.prog 56 #[.pointer (some ⟨b, 0, none⟩), .slice a n c, .int .i64 d] w fun e w' => e = .returned (.string (nodeN f (pairsM M L) d)) ∧ w.grownBy w' none := by
  intro f
  induction f with
  | zero =>
    intro d a n c L w hd hn hnc hcm hT hv hR hh hA hr
    have hln : L.length = n := by obtain ⟨_, _, e, _⟩ := hv; injection e with _ e _; exact e.symm
    have h1 := hA.few (by omega)
    unfold pairsM at h1
    rw [List.length_map] at h1
    match L, hln, h1 with
    | [], hln, _ => subst hln; exact above_zero b a c d w
    | [k], hln, _ =>
      subst hln
      exact above_one n0 X b M a c k d w hT hv (by have := (pairs_key M [k] d hA).1 k (by simp); omega) (val_small hS k) (hh k (by simp)) hr
  | succ f ih =>
    intro d a n c L w hd hn hnc hcm hT hv hR hh hA hr
    have hln : L.length = n := by obtain ⟨_, _, e, _⟩ := hv; injection e with _ e _; exact e.symm
    by_cases h2 : 2 ≤ n
    · obtain ⟨k0, hk0⟩ : ∃ k0, L[0]? = some k0 := ⟨_, List.getElem?_eq_getElem (by omega)⟩
      obtain ⟨g, o, rfl, _⟩ := hv.at_ 0 k0 hk0
      obtain ⟨hk16, hbits⟩ := pairs_key M L d hA
      obtain ⟨hs0, hs1⟩ := cut_sides L d (by omega) hR hk16 hbits
      have hle := cutK_le L d
      have hfc := firstI_cut L d
      have hres : nodeN (f + 1) (pairsM M L) d = joinN (nodeN f (pairsM M (L.take (cutK L d))) (d + 1)) (nodeN f (pairsM M (L.drop (cutK L d))) (d + 1)) := by
        rw [nodeN_more f d _ (by unfold pairsM; rw [List.length_map]; omega), side_pairs, side_pairs, hs0, hs1]
      have hA0 : Alike (d + 1) (pairsM M (L.take (cutK L d))) := by rw [hs0, ← side_pairs]; exact hA.side
      have hA1 : Alike (d + 1) (pairsM M (L.drop (cutK L d))) := by rw [hs1, ← side_pairs]; exact hA.side
      rw [hres]
      have hg1 : w.grownBy (w.alloc (.cells #[.int .i64 d] 3)) none := World.grownBy_alloc _ _ _
      obtain ⟨d1, hd1⟩ : ∃ d1, d + 1 = d1 := ⟨_, rfl⟩
      have hplus : (d : Int) + 1 = (d1 : Int) := by omega
      have hwr : IntKind.i64.wrap (d1 : Int) = (d1 : Int) := wrap_i64_nat d1 (by omega)
      rw [hd1] at hA0 hA1 ⊢
      have HIX := Lib.hid (fun (w1 : World) (q : w.grownBy w1 none) (hc : w1.cell? ⟨w.heap.size, 0, none⟩ = some (.int .i64 d)) => index_bit (fun k => bitS k d == 1) (some ⟨g, o, none⟩) n c L w1 (.pointer (some ⟨w.heap.size, 0, none⟩)) (hv.grown q) hn (fun k w' hk q2 => above1_any k (by have := hk16 k hk; unfold maxLen; omega) d w.heap.size (by omega) w' (q2.cell hc (by simp))))
      have HL0 := Lib.hid (fun (w' : World) (q : w.grownBy w' none) => ih d1 (some ⟨g, o, none⟩) (cutK L d) c (L.take (cutK L d)) w' (by omega) (by omega) (by omega) hcm (hT.grown q) (strs_front (hv.grown q) _ (by omega) c) (hR.sub (List.take_sublist _ _)) (fun k hk => hh k (List.mem_of_mem_take hk)) hA0 (hr.grown q))
      have HL1 := Lib.hid (fun (w' : World) (q : w.grownBy w' none) => ih d1 (some ⟨g, o + cutK L d, none⟩) (n - cutK L d) (c - cutK L d) (L.drop (cutK L d)) w' (by omega) (by omega) (by omega) (by omega) (hT.grown q) (strs_back (hv.grown q) _ (by omega) _) (hR.sub (List.drop_sublist _ _)) (fun k hk => hh k (List.mem_of_mem_drop hk)) hA1 (hr.grown q))
      have hn0 := (nodeN_node f (pairsM M (L.take (cutK L d))) d1).size
      have hn1 := (nodeN_node f (pairsM M (L.drop (cutK L d))) d1).size
      have hz1 : cutK L d = n → nodeN f (pairsM M (L.drop (cutK L d))) d1 = emptyS := by
        intro e
        rw [e, ← hln, List.drop_length]
        exact nodeN_nil f d1
      generalize nodeN f (pairsM M (L.take (cutK L d))) d1 = x0 at HL0 hn0 ⊢
      generalize nodeN f (pairsM M (L.drop (cutK L d))) d1 = x1 at HL1 hn1 hz1 ⊢
      rw [hln] at hfc hle
      generalize firstI L (fun k => bitS k d == 1) = fi at HIX hfc
      generalize cutK L d = ct at HL0 HL1 hz1 hfc hle
      have HJ := Lib.hid (fun (w' : World) (q : w.grownBy w' none) => join_any x0 x1 (by omega) (by omega) w' (hr.grown q))
      have HG1 := Lib.hid hg1
      have hbox : (w.alloc (.cells #[.int .i64 d] 3)).cell? ⟨w.heap.size, 0, none⟩ = some (.int .i64 d) := cell_of (heap_alloc_at w (.cells #[.int .i64 d] 3) _ rfl) 0
      have m0 : ((n : Int) == 0) = false := by simp; omega
      have m1 : ((n : Int) == 1) = false := by simp; omega
      have hcm2 : c ≤ 9223372036854775807 := hcm
      clear hT hv hR hh hA hr hk0 hk16 hbits hs0 hs1 hres hA0 hA1 hg1 ih hS hln hd1 hd hcm
      go_enter Tryd.func56, Tryd.ntmps56
      go_wp2_with fail
      generalize w.alloc (.cells #[.int .i64 d] 3) = w1 at HG1 hbox ⊢
      obtain ⟨DB, hDB⟩ : ∃ DB, w.heap.size = DB := ⟨_, rfl⟩
      rw [hDB] at HIX hbox ⊢
      clear hDB
      refine (HIX.out w1 HG1.out hbox).mono ?_
      rintro e w2 ⟨rfl, g2⟩
      have HG2 := Lib.hid (grownBy_trans HG1.out g2)
      have hbox2 := g2.cell hbox (by simp)
      have HBX := Lib.hid hbox2
      clear g2 HIX hbox
      rcases hfc with ⟨hc0, rfl⟩ | ⟨hc0, rfl⟩
      · subst hc0
        have hx1 := hz1 rfl
        subst hx1
        have HZ := Lib.hid (fun (a1 : Option Addr) (c1 : Nat) (w' : World) => above_zero b a1 c1 (d1 : Int) w')
        clear hz1 HL1 hle
        rcases Nat.lt_or_ge ct c with hcc | hcc
        · have k5 : ¬ (ct = c) := by omega
          have k6 : ¬ (c = ct) := by omega
          have k1 : (ct : Int) ≤ (c : Int) := by omega
          have k4 : (0 : Int) ≤ (ct : Int) := by omega
          go_wp2_with fail
          go_region_held3 (fun w' => w'.cell? ⟨DB, 0, none⟩ = some (.int .i64 d)) (first | exact ck.cell HBX.out (by simp) | exact HBX.out) (first
            | (go_at_call 56; (with_reducible refine (HL0.out _ (grownBy_trans HG2.out ck)).mono ?_); rintro e w4 ⟨rfl, g4⟩; have ck := grownBy_trans ck g4)
            | (go_at_call 56; (with_reducible refine (HL0.out _ (grownBy_drew HG2.out)).mono ?_); rintro e w4 ⟨rfl, g4⟩; have ck := grownBy_trans (grownBy_drew (World.grownBy.refl w2 none)) g4)
            | (go_at_call 56; (with_reducible refine (HZ.out _ _ _).mono ?_); rintro e w4 ⟨rfl, g4⟩; have ck := grownBy_trans ck g4)
            | (go_at_call 56; (with_reducible refine (HZ.out _ _ _).mono ?_); rintro e w4 ⟨rfl, g4⟩; have ck := grownBy_trans (grownBy_drew (World.grownBy.refl w2 none)) g4)
            | (go_at_call 60; (with_reducible refine (HJ.out _ (grownBy_trans HG2.out ck)).mono ?_); rintro e w4 ⟨rfl, g4⟩; have ck := grownBy_trans ck g4)
            | (go_at_call 60; (with_reducible refine (HJ.out _ (grownBy_drew HG2.out)).mono ?_); rintro e w4 ⟨rfl, g4⟩; have ck := grownBy_trans (grownBy_drew (World.grownBy.refl w2 none)) g4))
          go_wp2_with fail
          go_ret
          exact ⟨rfl, grownBy_trans HG2.out ck⟩
        · obtain rfl : c = ct := by omega
          clear hcc
          have k1 : (c : Int) ≤ (c : Int) := by omega
          have k4 : (0 : Int) ≤ (c : Int) := by omega
          go_wp2_with fail
          go_region_held3 (fun w' => w'.cell? ⟨DB, 0, none⟩ = some (.int .i64 d)) (first | exact ck.cell HBX.out (by simp) | exact HBX.out) (first
            | (go_at_call 56; (with_reducible refine (HL0.out _ (grownBy_trans HG2.out ck)).mono ?_); rintro e w4 ⟨rfl, g4⟩; have ck := grownBy_trans ck g4)
            | (go_at_call 56; (with_reducible refine (HL0.out _ (grownBy_drew HG2.out)).mono ?_); rintro e w4 ⟨rfl, g4⟩; have ck := grownBy_trans (grownBy_drew (World.grownBy.refl w2 none)) g4)
            | (go_at_call 56; (with_reducible refine (HZ.out _ _ _).mono ?_); rintro e w4 ⟨rfl, g4⟩; have ck := grownBy_trans ck g4)
            | (go_at_call 56; (with_reducible refine (HZ.out _ _ _).mono ?_); rintro e w4 ⟨rfl, g4⟩; have ck := grownBy_trans (grownBy_drew (World.grownBy.refl w2 none)) g4)
            | (go_at_call 60; (with_reducible refine (HJ.out _ (grownBy_trans HG2.out ck)).mono ?_); rintro e w4 ⟨rfl, g4⟩; have ck := grownBy_trans ck g4)
            | (go_at_call 60; (with_reducible refine (HJ.out _ (grownBy_drew HG2.out)).mono ?_); rintro e w4 ⟨rfl, g4⟩; have ck := grownBy_trans (grownBy_drew (World.grownBy.refl w2 none)) g4))
          go_wp2_with fail
          go_ret
          exact ⟨rfl, grownBy_trans HG2.out ck⟩
      · have k0 : ¬ ((ct : Int) < 0) := by omega
        have k1 : (ct : Int) ≤ (n : Int) := by omega
        have k2 : ¬ (ct = c) := by omega
        clear hz1
        have k3 : (ct : Int) ≤ (c : Int) := by omega
        have k4 : (0 : Int) ≤ (ct : Int) := by omega
        go_wp2_with fail
        go_region_held3 (fun w' => w'.cell? ⟨DB, 0, none⟩ = some (.int .i64 d)) (first | exact ck.cell HBX.out (by simp) | exact HBX.out) (first
          | (go_at_call 56; (with_reducible refine (HL0.out _ (grownBy_trans HG2.out ck)).mono ?_); rintro e w4 ⟨rfl, g4⟩; have ck := grownBy_trans ck g4)
          | (go_at_call 56; (with_reducible refine (HL0.out _ (grownBy_drew HG2.out)).mono ?_); rintro e w4 ⟨rfl, g4⟩; have ck := grownBy_trans (grownBy_drew (World.grownBy.refl w2 none)) g4)
          | (go_at_call 56; (with_reducible refine (HL1.out _ (grownBy_trans HG2.out ck)).mono ?_); rintro e w4 ⟨rfl, g4⟩; have ck := grownBy_trans ck g4)
          | (go_at_call 56; (with_reducible refine (HL1.out _ (grownBy_drew HG2.out)).mono ?_); rintro e w4 ⟨rfl, g4⟩; have ck := grownBy_trans (grownBy_drew (World.grownBy.refl w2 none)) g4)
          | (go_at_call 60; (with_reducible refine (HJ.out _ (grownBy_trans HG2.out ck)).mono ?_); rintro e w4 ⟨rfl, g4⟩; have ck := grownBy_trans ck g4)
          | (go_at_call 60; (with_reducible refine (HJ.out _ (grownBy_drew HG2.out)).mono ?_); rintro e w4 ⟨rfl, g4⟩; have ck := grownBy_trans (grownBy_drew (World.grownBy.refl w2 none)) g4))
        go_wp2_with fail
        go_ret
        exact ⟨rfl, grownBy_trans HG2.out ck⟩
    · match L, hln, h2 with
      | [], hln, _ => subst hln; rw [show pairsM M [] = [] from rfl, nodeN_nil]; exact above_zero b a c d w
      | [k], hln, _ =>
        subst hln
        rw [show pairsM M [k] = [(k, valM M k)] from rfl, nodeN_one]
        exact above_one n0 X b M a c k d w hT hv (by have := (pairs_key M [k] d hA).1 k (by simp); omega) (val_small hS k) (hh k (by simp)) hr
      | _ :: _ :: _, hln, h2 => simp at hln; omega
end Go.Proofs.YtgaenpbdfelhhaaDoor
