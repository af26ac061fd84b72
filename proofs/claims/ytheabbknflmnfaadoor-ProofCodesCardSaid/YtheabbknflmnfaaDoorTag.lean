/- sha.Tagged of texts in a new block. -/
import Derived.Test.YtheabbknflmnfaaDoorWotsSpec
namespace Go.Proofs.YtheabbknflmnfaaDoor
open Go.RowKit
attribute [local irreducible] shaL

theorem grown_row {a b c : World} {row : Option Nat} (h : a.grownBy b none) (k : b.grownBy c row) (hn : ∀ g, row = some g → a.heap.size ≤ g) : a.grownBy c none :=
  ⟨k.os.trans h.os, k.tape.trans h.tape, k.output.trans h.output, Nat.le_trans h.size k.size, fun i hi hne => (k.block i (Nat.lt_of_lt_of_le hi h.size) (by intro e; have := hn i e.symm; omega)).trans (h.block i hi hne)⟩
theorem ShaReady.grown {w w' : World} (h : ShaReady w) (hg : w.grownBy w' none) : ShaReady w' := h.kept hg (by simp) (by simp)

/-- sha.Tagged of texts in a new block -/
theorem tagged_new (w : World) (tag : UInt8) (L : List ByteArray) (vs : List Value) (n : Nat) (tg : Int) (hv : vs = L.map Value.string) (hn : n = L.length) (ht : (tag.toNat : Int) = tg) (hr : ShaReady w) (hN : L.length ≤ 1000) (hs : ∀ s ∈ L, s.size ≤ 1000000000000) :
    Calls Tryd.prog 76 #[.int .u8 tg, .slice (some ⟨w.heap.size, 0, none⟩) n n] (w.alloc (.cells vs.toArray 9)) fun e w' => e = .returned (.string (tagS tag L)) ∧ w.grownBy w' none := by
  subst hv
  subst ht
  refine (tagged_any _ tag _ L (strs_new w L 9 n hn) (hr.grown (World.grownBy_alloc _ _ _)) (by unfold maxLen; omega) ?_).mono fun e w' h => ⟨h.1, grownBy_trans (World.grownBy_alloc _ _ _) h.2⟩
  have := tagB_length tag L _ hs
  have h2 : L.length * (4 + 1000000000000) ≤ 1000 * (4 + 1000000000000) := Nat.mul_le_mul_right _ hN
  omega

end Go.Proofs.YtheabbknflmnfaaDoor
