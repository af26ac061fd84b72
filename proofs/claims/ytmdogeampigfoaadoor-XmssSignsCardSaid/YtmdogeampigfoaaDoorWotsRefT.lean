/- The document's tagged digest of texts in a new block; small laws on places. -/
import Derived.Test.YtmdogeampigfoaaDoorWotsRef
namespace Go.Proofs.YtmdogeampigfoaaDoor
open Go.RowKit
attribute [local irreducible] shaL

theorem cat_place (leaf chain k : Nat) : str (be leaf 4) ++ str [UInt8.ofNat chain, UInt8.ofNat k] = placeS leaf chain k := by
  apply ByteArray.ext
  simp [str, placeS, placeL]
theorem refTagged_new (w : World) (b : Nat) (hb : w.heap.size = b) (tag : UInt8) (L : List ByteArray) (vs : List Value) (n : Nat) (tg : Int) (hv : vs = L.map Value.string) (hn : n = L.length) (ht : (tag.toNat : Int) = tg) (hN : L.length ≤ 10) (hs : ∀ s ∈ L, s.size ≤ 1000) :
    Calls Tryd.prog 26 #[.int .u8 tg, .slice (some ⟨b, 0, none⟩) n n] (w.alloc (.cells vs.toArray 9)) fun e w' => e = .returned (.string (tagS tag L)) ∧ w.grownBy w' none := by
  subst hv
  subst ht
  subst hb
  exact (refTagged_any _ tag _ L (strs_new w L 9 n hn) hN hs).mono fun e w' h => ⟨h.1, grownBy_trans (World.grownBy_alloc _ _ _) h.2⟩
theorem place_cat_size (leaf chain k : Nat) : (str (be leaf 4) ++ str [UInt8.ofNat chain, UInt8.ofNat k]).size = 6 := by rw [cat_place, placeS_size]
theorem grown_from {w w2 w3 : World} {o : Obj} (h1 : w.grownBy w2 none) (h2 : (w2.alloc o).grownBy w3 none) : w.grownBy w3 none := grownBy_trans (grownBy_alloc' h1 o) h2

theorem two_bytes (chain k : Nat) (hc : chain < 256) (hk : k < 256) : [Value.int .u8 (chain : Int), .int .u8 (k : Int)] = u8s [UInt8.ofNat chain, UInt8.ofNat k] := by
  have e1 : (UInt8.ofNat chain).toNat = chain := by simp; omega
  have e2 : (UInt8.ofNat k).toNat = k := by simp; omega
  simp [u8s, e1, e2]
theorem undrew {w w' : World} {row : Option Nat} (g : w.drew.grownBy w' row) : w.grownBy w' row := ⟨g.os, g.tape, g.output, g.size, g.block⟩
theorem conv_after {w0 w4 : World} {ci ki : Int} (g : (w0.alloc (.cells #[.int .u8 ci, .int .u8 ki] 5)).drew.grownBy w4 none) (b : Nat) (hb : w0.heap.size = b) (chain k : Nat) (hc : chain < 256) (hk : k < 256) (ec : (chain : Int) = ci) (ek : (k : Int) = ki) :
    (convert 34 9 (.slice (some ⟨b, 0, none⟩) 2 2)).run Tryd.prog w4 = .ok (.string (str [UInt8.ofNat chain, UInt8.ofNat k])) w4 := by
  subst hb ec ek
  have h : w4.heap[w0.heap.size]? = some (.cells #[.int .u8 (chain : Int), .int .u8 (k : Int)] 5 (0, 0)) := (g.block w0.heap.size (by simp) (by simp)).trans (heap_alloc_at w0 _ _ rfl)
  have e : (#[.int .u8 (chain : Int), .int .u8 (k : Int)] : Array Value) = (u8s [UInt8.ofNat chain, UInt8.ofNat k]).toArray := by rw [← two_bytes chain k hc hk]
  rw [e] at h
  exact row_string h 2
theorem conv_now (chain k : Nat) (ci ki : Int) (hc : chain < 256) (hk : k < 256) (ec : (chain : Int) = ci) (ek : (k : Int) = ki) (w0 : World) :
    (convert 34 9 (.slice (some ⟨w0.heap.size, 0, none⟩) 2 2)).run Tryd.prog (w0.alloc (.cells #[.int .u8 ci, .int .u8 ki] 5)) = .ok (.string (str [UInt8.ofNat chain, UInt8.ofNat k])) (w0.alloc (.cells #[.int .u8 ci, .int .u8 ki] 5)) := by
  subst ec ek
  have h : (w0.alloc (.cells #[.int .u8 (chain : Int), .int .u8 (k : Int)] 5)).heap[w0.heap.size]? = some (.cells #[.int .u8 (chain : Int), .int .u8 (k : Int)] 5 (0, 0)) := heap_alloc_at w0 _ _ rfl
  have e : (#[.int .u8 (chain : Int), .int .u8 (k : Int)] : Array Value) = (u8s [UInt8.ofNat chain, UInt8.ofNat k]).toArray := by rw [← two_bytes chain k hc hk]
  rw [e] at h ⊢
  exact row_string h 2
theorem conv_drew (chain k : Nat) (ci ki : Int) (hc : chain < 256) (hk : k < 256) (ec : (chain : Int) = ci) (ek : (k : Int) = ki) (w0 : World) :
    (convert 34 9 (.slice (some ⟨w0.heap.size, 0, none⟩) 2 2)).run Tryd.prog (w0.alloc (.cells #[.int .u8 ci, .int .u8 ki] 5)).drew = .ok (.string (str [UInt8.ofNat chain, UInt8.ofNat k])) (w0.alloc (.cells #[.int .u8 ci, .int .u8 ki] 5)).drew := by
  subst ec ek
  have h : (w0.alloc (.cells #[.int .u8 (chain : Int), .int .u8 (k : Int)] 5)).drew.heap[w0.heap.size]? = some (.cells #[.int .u8 (chain : Int), .int .u8 (k : Int)] 5 (0, 0)) := heap_alloc_at w0 _ _ rfl
  have e : (#[.int .u8 (chain : Int), .int .u8 (k : Int)] : Array Value) = (u8s [UInt8.ofNat chain, UInt8.ofNat k]).toArray := by rw [← two_bytes chain k hc hk]
  rw [e] at h ⊢
  exact row_string h 2

end Go.Proofs.YtmdogeampigfoaaDoor
