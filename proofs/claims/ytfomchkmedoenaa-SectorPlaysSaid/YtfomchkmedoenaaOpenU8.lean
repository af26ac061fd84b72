/- Slices of bytes that came in: their bytes, their block, and what the form's reach says of how long they are. No walk. -/
import Derived.Test.YtfomchkmedoenaaOpen
import Derived.Test.YtfomchkmedoenaaSecC
import Derived.Deep.Slices
import Derived.SizedLaws
namespace Go.Proofs.Ytfomchkmedoenaa
open Go.RowKit Go.ChangeShapes Go.WideShapes Go.Deep

variable {H : Type} {enc : TypeId × Value → H} {P : Program} {w : World} {base : Nat} {spare : Nat → Bool} {held : Bool}
theorem open_u8_row {t e : TypeId} {a0 : Option Addr} {len cap : Nat} {d : DataW H} {p : List MemPlace} (ht : P.underlying t = some (.slice e)) (he : P.underlying e = some (.int .u8)) (hc : P.cellsOf e = 1)
    (h : DataW.Trod enc P w base spare held t (.slice a0 len cap) d p) : ∃ l : List UInt8, BytesAt w (.slice a0 len cap) l ∧ len ≤ maxLen ∧ (len = 0 ∨ ∃ es sp, d = .slice es sp ∧ len ≤ es.length + sp.length) := by
  obtain ⟨fuel, hf⟩ := h
  rcases open_ints ht he hc hf with ⟨hcs, hx⟩ | ⟨a, len', cap', zs, hcs, _, hl, hm, hz, hx, hcell, hws⟩
  · have hv : Value.slice a0 len cap = .slice none 0 0 := by simpa [Value.cells] using hcs
    cases hv
    exact ⟨[], ⟨none, 0, rfl, fun i h => absurd h (by simp)⟩, by unfold maxLen; omega, .inl rfl⟩
  · have hv : Value.slice a0 len cap = .slice (some a) len' cap' := by simpa [Value.cells] using hcs
    cases hv
    have hls : len ≤ zs.length := by rw [hz]; split <;> omega
    have hlen : ((zs.take len).map fun z => UInt8.ofNat z.toNat).length = len := by simp; omega
    refine ⟨(zs.take len).map fun z => UInt8.ofNat z.toNat, ⟨some a, cap, by rw [hlen], fun i hi => ?_⟩, by omega, .inr ⟨_, _, (Prod.mk.inj hx).1, by simp [lits]; omega⟩⟩
    rw [hlen] at hi
    have hc' := hcell i (by omega)
    have h00 := World.cell?_spot (hcell 0 (by omega))
    obtain ⟨g, o, sp⟩ := a
    obtain rfl : sp = none := by simpa [Addr.add] using h00
    refine ⟨g, o, rfl, ?_⟩
    rw [cell_plain' hc', List.getElem_map, List.getElem_take, List.getD_eq_getElem?_getD, List.getElem?_eq_getElem (by omega), Option.getD_some]
    have hw := hws zs[i] (List.getElem_mem _)
    have hb : 0 ≤ zs[i] ∧ zs[i] ≤ 255 := by simpa [Lit.wf, IntKind.min, IntKind.max, IntKind.signed, IntKind.bits] using hw
    congr 2
    simp
    omega
theorem u8_block {a : Option Addr} {len cap : Nat} {t e : TypeId} (ht : P.underlying t = some (.slice e)) (h : Value.okWide P w .any base t (.slice a len cap)) : ∀ g o, a = some ⟨g, o, none⟩ → g < w.heap.size := by
  intro g o e1
  subst e1
  simp only [Value.okWide, ht, Cell.okWide, Cell.ok] at h
  obtain ⟨_, _, _, _, row, cells, hs, _⟩ := h
  rcases Nat.lt_or_ge g w.heap.size with h1 | h1
  · exact h1
  · simp [World.shape?, Array.getElem?_eq_none h1] at hs
end Go.Proofs.Ytfomchkmedoenaa
