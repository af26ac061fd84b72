/- A slice of texts that came in: a list of texts. -/
import Derived.Test.YtmdogeampigfoaaDoorOpen
import Derived.Test.YtmdogeampigfoaaDoorShaCalls
import Derived.SliceStrings
import Derived.ProofKit
namespace Go.Proofs.YtmdogeampigfoaaDoor
open Go.RowKit Go.ChangeShapes Go.WideShapes Go.ChangeAt

variable {H : Type} {enc : TypeId × Value → H} {P : Program} {w : World} {base : Nat} {spare : Nat → Bool} {held : Bool}

theorem open_str_slice {t e : TypeId} {a0 : Option Addr} {len cap : Nat} {d : DataW H} {p : List MemPlace} (ht : P.underlying t = some (.slice e)) (he : P.underlying e = some .string) (hc : P.cellsOf e = 1)
    (h : DataW.Trod enc P w base spare held t (.slice a0 len cap) d p) : ∃ L : List ByteArray, L.length = len ∧ StrsAt w (.slice a0 len cap) L ∧ len ≤ cap ∧ cap ≤ maxLen ∧ ∀ i (h : i < L.length), L[i].size ≤ maxLen := by
  obtain ⟨fuel, hf⟩ := h
  rcases open_strings ht he hc hf with ⟨hcs, hx⟩ | ⟨a, len', cap', ss, hcs, _, hl, hm, hz, hx, hcell, hws⟩
  · have hv : Value.slice a0 len cap = .slice none 0 0 := by simpa [Value.cells] using hcs
    cases hv
    exact ⟨[], rfl, ⟨none, 0, rfl, fun i h => absurd h (by simp)⟩, Nat.le_refl _, by unfold maxLen; omega, fun i h => absurd h (by simp)⟩
  · have hv : Value.slice a0 len cap = .slice (some a) len' cap' := by simpa [Value.cells] using hcs
    cases hv
    have hls : len ≤ ss.length := by rw [hz]; split <;> omega
    have hlen : (ss.take len).length = len := by simp; omega
    refine ⟨ss.take len, hlen, ⟨some a, cap, by rw [hlen], fun i hi => ?_⟩, hl, hm, fun i hi => hws _ (List.mem_of_mem_take (List.getElem_mem _))⟩
    rw [hlen] at hi
    have hc' := hcell i (by omega)
    have h00 := World.cell?_spot (hcell 0 (by omega))
    obtain ⟨g, o, sp⟩ := a
    obtain rfl : sp = none := by simpa [Addr.add] using h00
    refine ⟨g, o, rfl, ?_⟩
    rw [cell_plain' hc', List.getElem_take, List.getD_eq_getElem?_getD, List.getElem?_eq_getElem (by omega)]
    rfl
end Go.Proofs.YtmdogeampigfoaaDoor
