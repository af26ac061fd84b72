/- The walk of a bag's Turn. -/
import Derived.Test.YtemgeelgkokpcaaBagF
import Derived.Deep.CutBlock
import Derived.Laws.BitsAllLaws
import Derived.Laws.BytesString
import Derived.Lib.ConvBytes
namespace Go.Proofs.Ytemgeelgkokpcaa
open Go.RowKit

theorem conv_bytesB (k : ByteArray) (w : World) : (convert 9 36 (.string k)).run Try.prog w = .ok (.slice (some ⟨w.heap.size, 0, none⟩) k.size (grownCap w k.size 0 5)) (Lib.bytesWorld w 5 k) :=
  Lib.run_convert_string_bytes w 9 36 5 k (u := .string) Try.underlying9 Try.underlying36 Try.underlying5
theorem grown_bytesB (k : ByteArray) (w : World) (e : TypeId) : w.grownBy (Lib.bytesWorld w e k) none := by
  have h := grownBy_alloc' (grownBy_drew (World.grownBy.refl w none)) (.cells (Lib.bytesCells w e k) e)
  refine ⟨h.os, h.tape, h.output, by rw [Lib.bytesWorld_size]; omega, fun i hi _ => Lib.bytesWorld_at_old w e k i hi⟩
theorem conv_cellsB (L : List UInt8) (N : Nat) (hL : L.length = N) (g C : Nat) (W3 : World) (hc : ∀ j (hj : j < L.length), W3.cell? ((⟨g, 0, none⟩ : Addr).add j) = some (.int .u8 (L[j]'hj).toNat)) :
    (convert 36 9 (.slice (some ⟨g, 0, none⟩) N C)).run Try.prog W3 = .ok (.string (str L)) W3 := by
  subst hL
  exact run_convert_bytes_back W3 36 9 5 ⟨g, 0, none⟩ C L Try.underlying36 Try.underlying5 Try.underlying9 hc
theorem flip_cellsB (k : ByteArray) (w : World) (g q : Nat) (hg : w.heap.size = g) (u : UInt8) : ∀ W3 : World, W3.heap = ((Lib.bytesWorld w 5 k).setCell ⟨g, q, none⟩ (.int .u8 u.toNat)).heap →
    ∀ j (hj : j < (k.data.toList.set q u).length), W3.cell? ((⟨g, 0, none⟩ : Addr).add j) = some (.int .u8 ((k.data.toList.set q u)[j]'hj).toNat) := by
  intro W3 hW j hj
  subst hg
  have hb := Lib.bytesWorld_at_new w 5 k
  have hl : j < k.data.toList.length := by rw [List.length_set] at hj; exact hj
  have hj2 : j < k.size := by rw [Array.length_toList] at hl; exact hl
  have hc := Lib.bytesWorld_cell w 5 k j hj2
  rw [cell_of hb] at hc
  have hs := cell_of (heap_setCell hb q (.int .u8 u.toNat)) j
  have hW3 : W3.cell? ⟨w.heap.size, j, none⟩ = ((Lib.bytesWorld w 5 k).setCell ⟨w.heap.size, q, none⟩ (.int .u8 u.toNat)).cell? ⟨w.heap.size, j, none⟩ := by unfold World.cell?; rw [hW]
  rw [show (⟨w.heap.size, 0, none⟩ : Addr).add j = ⟨w.heap.size, j, none⟩ from (by unfold Addr.add; split <;> simp_all), hW3, hs, Array.getElem?_setIfInBounds]
  have hsz : j < (Lib.bytesCells w 5 k).size := by
    rcases Nat.lt_or_ge j (Lib.bytesCells w 5 k).size with h | h
    · exact h
    · rw [Array.getElem?_eq_none h] at hc; cases hc
  by_cases e : q = j
  · subst e
    simp [hsz]
  · rw [if_neg e, hc, List.getElem_set_ne e]
    simp [List.getD, List.getElem?_eq_getElem hl]
/-- a text's bytes, one of them turned, as a text again: the facts of the whole road -/
structure FlipAt (b : ByteArray) (at_ : Int) (d : Nat) (W : World) (YB q C v : Nat) (W1 W2 : World) : Prop where
  sz : W.heap.size = YB
  cv : (convert 9 36 (.string b)).run Try.prog W = .ok (.slice (some ⟨YB, 0, none⟩) b.size C) W1
  g1 : W.grownBy W1 none
  c1 : W1.cell? ⟨YB, q, none⟩ = some (.int .u8 v)
  f1 : W1.frozen? ⟨YB, q, none⟩ = false
  x1 : bits .xor .u8 (v : Int) (d : Int) = ((v ^^^ d : Nat) : Int)
  w2 : W1.setCell ⟨YB, q, none⟩ (.int .u8 (v ^^^ d : Nat)) = W2
  g2 : W.grownBy W2 none
  back : ∀ w', W2.grownBy w' none → (convert 36 9 (.slice (some ⟨YB, 0, none⟩) b.size C)).run Try.prog w' = .ok (.string (turnB b at_ d)) w'
theorem flip_at (b : ByteArray) (at_ : Int) (d : Nat) (hd : d < 256) (hb : 0 < b.size) (W : World) (q : Nat) (hq : q = placeI at_ b.size) : ∃ YB C v W1 W2, FlipAt b at_ d W YB q C v W1 W2 := by
  have hql : q < b.size := by rw [hq]; exact placeI_lt _ _ hb
  have hql2 : q < b.data.toList.length := by rw [Array.length_toList]; exact hql
  obtain ⟨YB, hYB⟩ : ∃ YB, W.heap.size = YB := ⟨_, rfl⟩
  obtain ⟨v8, hv8⟩ : ∃ v8, b.data.toList.getD q 0 = v8 := ⟨_, rfl⟩
  have hnb := Lib.bytesWorld_at_new W 5 b
  have hc := Lib.bytesWorld_cell W 5 b q hql
  have hor : v8.toNat ^^^ d < 256 := Nat.xor_lt_two_pow (n := 8) (UInt8.toNat_lt v8) hd
  have e8 : ((UInt8.ofNat (v8.toNat ^^^ d)).toNat) = v8.toNat ^^^ d := UInt8.toNat_ofNat_of_lt' hor
  have hfl := flip_cellsB b W YB q hYB (UInt8.ofNat (v8.toNat ^^^ d))
  rw [e8] at hfl
  have hgb := grown_bytesB b W 5
  refine ⟨YB, grownCap W b.size 0 5, v8.toNat, Lib.bytesWorld W 5 b, _, ⟨hYB, by rw [← hYB]; exact conv_bytesB b W, hgb, ?_, ?_, u8_xor_nat _ _ (UInt8.toNat_lt v8) hd, rfl, grownBy_setNew hgb (by omega) _ _, fun w' k => ?_⟩⟩
  · rw [← hYB, hc, ← hv8]
  · have hsz : q < (Lib.bytesCells W 5 b).size := by
      have h1 := hc
      rw [cell_of hnb] at h1
      exact (Array.getElem?_eq_some_iff.1 h1).1
    rw [← hYB]
    simp [World.frozen?, hnb]
    omega
  · have et : turnB b at_ d = str (b.data.toList.set q (UInt8.ofNat (v8.toNat ^^^ d))) := by unfold turnB; rw [← hq, hv8]
    rw [et]
    refine conv_cellsB _ b.size (by rw [List.length_set, Array.length_toList]; rfl) YB _ w' (fun j hj => ?_)
    exact k.cell (hfl _ rfl j hj) (by simp)
end Go.Proofs.Ytemgeelgkokpcaa
