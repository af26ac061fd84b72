/- The walks of the document's step, secret. -/
import Derived.Test.YteabmmockdjhaaaDoorWotsRef
namespace Go.Proofs.YteabmmockdjhaaaDoor
open Go.RowKit
attribute [local irreducible] shaL

theorem cat_place (leaf chain k : Nat) : str (be leaf 4) ++ str [UInt8.ofNat chain, UInt8.ofNat k] = placeS leaf chain k := by
  apply ByteArray.ext
  simp [str, placeS, placeL]
theorem refTagged_new (w : World) (b : Nat) (hb : w.heap.size = b) (tag : UInt8) (L : List ByteArray) (vs : List Value) (n : Nat) (tg : Int) (hv : vs = L.map Value.string) (hn : n = L.length) (ht : (tag.toNat : Int) = tg) (hN : L.length ≤ 10) (hs : ∀ s ∈ L, s.size ≤ 1000) :
    Calls Tryd.prog 9 #[.int .u8 tg, .slice (some ⟨b, 0, none⟩) n n] (w.alloc (.cells vs.toArray 9)) fun e w' => e = .returned (.string (tagS tag L)) ∧ w.grownBy w' none := by
  subst hv
  subst ht
  subst hb
  exact (refTagged_any _ tag _ L (strs_new w L 9 n hn) hN hs).mono fun e w' h => ⟨h.1, grownBy_trans (World.grownBy_alloc _ _ _) h.2⟩
theorem place_cat_size (leaf chain k : Nat) : (str (be leaf 4) ++ str [UInt8.ofNat chain, UInt8.ofNat k]).size = 6 := by rw [cat_place, placeS_size]
theorem grown_from {w w2 w3 : World} {o : Obj} (h1 : w.grownBy w2 none) (h2 : (w2.alloc o).grownBy w3 none) : w.grownBy w3 none := grownBy_trans (grownBy_alloc' h1 o) h2

theorem two_bytes (chain k : Nat) (hc : chain < 256) (hk : k < 256) : [Value.int .u8 (chain : Int), .int .u8 (k : Int)] = u8s [UInt8.ofNat chain, UInt8.ofNat k] := by
  have e1 : (UInt8.ofNat chain).toNat = chain := by simp; omega
  have e2 : (UInt8.ofNat k).toNat = k := by simp; omega
  simp [u8s, e1, e2]
theorem undrew {w w' : World} {row : Option Nat} (g : w.drew.grownBy w' row) : w.grownBy w' row := ⟨g.os, g.tape, g.output, g.size, g.block⟩
theorem conv_after {w0 w4 : World} {ci ki : Int} (g : (w0.alloc (.cells #[.int .u8 ci, .int .u8 ki] 5)).drew.grownBy w4 none) (b : Nat) (hb : w0.heap.size = b) (chain k : Nat) (hc : chain < 256) (hk : k < 256) (ec : (chain : Int) = ci) (ek : (k : Int) = ki) :
    (convert 32 9 (.slice (some ⟨b, 0, none⟩) 2 2)).run Tryd.prog w4 = .ok (.string (str [UInt8.ofNat chain, UInt8.ofNat k])) w4 := by
  subst hb ec ek
  have h : w4.heap[w0.heap.size]? = some (.cells #[.int .u8 (chain : Int), .int .u8 (k : Int)] 5 (0, 0)) := (g.block w0.heap.size (by simp) (by simp)).trans (heap_alloc_at w0 _ _ rfl)
  have e : (#[.int .u8 (chain : Int), .int .u8 (k : Int)] : Array Value) = (u8s [UInt8.ofNat chain, UInt8.ofNat k]).toArray := by rw [← two_bytes chain k hc hk]
  rw [e] at h
  exact row_string h 2
theorem conv_now (chain k : Nat) (ci ki : Int) (hc : chain < 256) (hk : k < 256) (ec : (chain : Int) = ci) (ek : (k : Int) = ki) (w0 : World) :
    (convert 32 9 (.slice (some ⟨w0.heap.size, 0, none⟩) 2 2)).run Tryd.prog (w0.alloc (.cells #[.int .u8 ci, .int .u8 ki] 5)) = .ok (.string (str [UInt8.ofNat chain, UInt8.ofNat k])) (w0.alloc (.cells #[.int .u8 ci, .int .u8 ki] 5)) := by
  subst ec ek
  have h : (w0.alloc (.cells #[.int .u8 (chain : Int), .int .u8 (k : Int)] 5)).heap[w0.heap.size]? = some (.cells #[.int .u8 (chain : Int), .int .u8 (k : Int)] 5 (0, 0)) := heap_alloc_at w0 _ _ rfl
  have e : (#[.int .u8 (chain : Int), .int .u8 (k : Int)] : Array Value) = (u8s [UInt8.ofNat chain, UInt8.ofNat k]).toArray := by rw [← two_bytes chain k hc hk]
  rw [e] at h ⊢
  exact row_string h 2
theorem conv_drew (chain k : Nat) (ci ki : Int) (hc : chain < 256) (hk : k < 256) (ec : (chain : Int) = ci) (ek : (k : Int) = ki) (w0 : World) :
    (convert 32 9 (.slice (some ⟨w0.heap.size, 0, none⟩) 2 2)).run Tryd.prog (w0.alloc (.cells #[.int .u8 ci, .int .u8 ki] 5)).drew = .ok (.string (str [UInt8.ofNat chain, UInt8.ofNat k])) (w0.alloc (.cells #[.int .u8 ci, .int .u8 ki] 5)).drew := by
  subst ec ek
  have h : (w0.alloc (.cells #[.int .u8 (chain : Int), .int .u8 (k : Int)] 5)).drew.heap[w0.heap.size]? = some (.cells #[.int .u8 (chain : Int), .int .u8 (k : Int)] 5 (0, 0)) := heap_alloc_at w0 _ _ rfl
  have e : (#[.int .u8 (chain : Int), .int .u8 (k : Int)] : Array Value) = (u8s [UInt8.ofNat chain, UInt8.ofNat k]).toArray := by rw [← two_bytes chain k hc hk]
  rw [e] at h ⊢
  exact row_string h 2

set_option maxRecDepth 100000 in
set_option maxHeartbeats 1600000 in
theorem refStep_any (w : World) (o x : ByteArray) (leaf chain k : Nat) (hl : leaf ≤ 4294967295) (hc : chain < 256) (hk : k < 256) (ho : o.size ≤ 1000) (hx : x.size ≤ 1000) :
    Calls Tryd.prog 7 #[.string o, .int .i64 leaf, .int .i64 chain, .int .i64 k, .string x] w fun e w' => e = .returned (.string (stepS o leaf chain k x)) ∧ w.grownBy w' none := by
  have hF : Hid (∀ w0 : World, Calls Tryd.prog 16 #[.int .i64 leaf] w0 fun e w' => e = .returned (.string (str (be leaf 4))) ∧ w0.grownBy w' none) := four_any leaf hl
  have hcv := conv_now chain k chain k hc hk rfl rfl
  have hcv2 := conv_drew chain k chain k hc hk rfl rfl
  have hw1 : IntKind.u8.wrap (chain : Int) = chain := IntWalk.u8_in _ (by omega)
  have hw2 : IntKind.u8.wrap (k : Int) = k := IntWalk.u8_in _ (by omega)
  have hsz : Hid (∀ s ∈ [o, str (be leaf 4) ++ str [UInt8.ofNat chain, UInt8.ofNat k], x], s.size ≤ 1000) := by
    intro s hs
    simp only [List.mem_cons, List.not_mem_nil, or_false] at hs
    rcases hs with rfl | rfl | rfl
    · exact ho
    · rw [place_cat_size]; omega
    · exact hx
  go_enter Tryd.func7, Tryd.ntmps7
  go_wp2_with fail
  go_region_with (first
    | (go_at_call 16; refine (hF.out _).mono ?_; rintro e w4 ⟨rfl, g4⟩; try have hcv4 := conv_after g4 w.heap.size (by simp) chain k hc hk rfl rfl)
    | (go_at_call 9; refine (refTagged_new _ _ (by simp) 2 [o, str (be leaf 4) ++ str [UInt8.ofNat chain, UInt8.ofNat k], x] _ 3 2 rfl rfl rfl (by simp) hsz.out).mono ?_; rintro e w5 ⟨rfl, g5⟩))
  all_goals
    have HGf : Hid (w.grownBy w5 none) := by first | exact grown_from (undrew g4) g5 | exact grownBy_trans (grownBy_trans (World.grownBy_alloc _ _ _) (undrew g4)) g5
    clear g4 g5
    go_wp2_with fail
    go_ret
    exact ⟨by rw [cat_place]; rfl, HGf.out⟩

set_option maxRecDepth 100000 in
set_option maxHeartbeats 1600000 in
theorem refSecret_any (w : World) (seed : ByteArray) (leaf chain : Nat) (hl : leaf ≤ 4294967295) (hc : chain < 256) (hs : seed.size ≤ 1000) :
    Calls Tryd.prog 12 #[.string seed, .int .i64 leaf, .int .i64 chain] w fun e w' => e = .returned (.string (secretS seed leaf chain)) ∧ w.grownBy w' none := by
  have hF : Hid (∀ w0 : World, Calls Tryd.prog 16 #[.int .i64 leaf] w0 fun e w' => e = .returned (.string (str (be leaf 4))) ∧ w0.grownBy w' none) := four_any leaf hl
  have hcv := conv_now chain 0 chain 0 hc (by decide) rfl rfl
  have hcv2 := conv_drew chain 0 chain 0 hc (by decide) rfl rfl
  have hw1 : IntKind.u8.wrap (chain : Int) = chain := IntWalk.u8_in _ (by omega)
  have hsz : Hid (∀ s ∈ [seed, str (be leaf 4) ++ str [UInt8.ofNat chain, UInt8.ofNat 0]], s.size ≤ 1000) := by
    intro s hs
    simp only [List.mem_cons, List.not_mem_nil, or_false] at hs
    rcases hs with rfl | rfl
    · assumption
    · rw [place_cat_size]; omega
  go_enter Tryd.func12, Tryd.ntmps12
  go_wp2_with fail
  go_region_with (first
    | (go_at_call 16; refine (hF.out _).mono ?_; rintro e w4 ⟨rfl, g4⟩; try have hcv4 := conv_after g4 w.heap.size (by simp) chain 0 hc (by decide) rfl rfl)
    | (go_at_call 9; refine (refTagged_new _ _ (by simp) 1 [seed, str (be leaf 4) ++ str [UInt8.ofNat chain, UInt8.ofNat 0]] _ 2 1 rfl rfl rfl (by simp) hsz.out).mono ?_; rintro e w5 ⟨rfl, g5⟩))
  all_goals
    have HGf : Hid (w.grownBy w5 none) := by first | exact grown_from (undrew g4) g5 | exact grownBy_trans (grownBy_trans (World.grownBy_alloc _ _ _) (undrew g4)) g5
    clear g4 g5
    go_wp2_with fail
    go_ret
    exact ⟨by rw [show str (be leaf 4) ++ str [UInt8.ofNat chain, 0] = placeS leaf chain 0 from cat_place leaf chain 0]; rfl, HGf.out⟩
end Go.Proofs.YteabmmockdjhaaaDoor
