/- Arguments opened: lists of nodes (layer 4's law). No walk. -/
import Derived.Test.YtemgeelgkokpcaaDoorItmO
import Derived.Test.YtemgeelgkokpcaaDoorOpen
import Derived.Deep.Slices
import Derived.Deep.Fields
namespace Go.Proofs.YtemgeelgkokpcaaDoor
open Go.RowKit Go.ChangeShapes Go.WideShapes Go.Deep

section
variable {H : Type} {enc : TypeId × Value → H} {P : Program} {w : World} {base : Nat} {spare : Nat → Bool} {held : Bool}
theorem open_slice_fieldsN {t e : TypeId} {fs : Array Field} {fuel : Nat} {cs : List Value} {x : DataW H × List MemPlace} (ht : P.underlying t = some (.slice e)) (he : P.underlying e = some (.struct fs))
    (hone : oneCellFields P fs = true) (hC : P.cellsOf e = fs.size) (h : DataW.trod enc P w base spare held fuel t cs = some x) :
    (cs = [.slice none 0 0]) ∨
    ∃ (a : Addr) (len cap m : Nat), cs = [.slice (some a) len cap] ∧ len ≤ cap ∧ cap ≤ maxLen ∧ len ≤ m ∧
      ∀ i, i < m → ∃ n : Nat, ∀ (j : Nat) (f : Field), fs[j]? = some f → ∃ (v : Value) (y : DataW H × List MemPlace), w.cell? (a.add (i * fs.size + j)) = some v ∧ DataW.trod enc P w base spare held n f.type [v] = some y := by
  rcases open_slice ht h with h0 | ⟨a, len, cap, m, n, D, Pl, hcs, hb, hl, hm, hmm, hx, hi⟩
  · exact .inl h0.1
  · refine .inr ⟨a, len, cap, m, hcs, hl, hm, by rw [hmm]; split <;> omega, fun i him => ?_⟩
    obtain ⟨cs', hc, ht'⟩ := hi i him
    rw [hC] at hc
    obtain ⟨ys, n', hn', hy, hlen, hyl, hf⟩ := DataW.trod_struct he ht'
    obtain ⟨_, hcl, hat⟩ := World.cells?_some hc
    refine ⟨n', fun j f hj => ?_⟩
    obtain ⟨ho, hk⟩ := hone_of hone j f hj
    have hjl : j < fs.size := (Array.getElem?_eq_some_iff.1 hj).1
    have hcell := hat j hjl
    have hv : cs'[j]? = some (cs'[j]'(by omega)) := List.getElem?_eq_getElem (by omega)
    have h1 := hf j f hj
    rw [ho, hk] at h1
    have hone' : (cs'.drop j).take 1 = [cs'[j]'(by omega)] := by
      rw [List.drop_eq_getElem_cons (by omega)]
      rfl
    rw [hone'] at h1
    have hys : ys[j]? = some (ys[j]'(by omega)) := List.getElem?_eq_getElem (by omega)
    refine ⟨_, _, ?_, h1.trans hys⟩
    rw [← Go.Deep.add_add, hcell, hv]
end
theorem cellsNI : Tryd.prog.cellsOf 61 = 3 := by kernel_rfl
/-- a list of nodes: nil, or cells -/
theorem open_nods {H : Type} {enc : TypeId × Value → H} {w : World} {base : Nat} {spare : Nat → Bool} {held : Bool} {a0 : Option Addr} {len cap : Nat} {d : DataW H} {p : List MemPlace}
    (h : DataW.Trod enc Tryd.prog w base spare held 22 (.slice a0 len cap) d p) : ∃ L : List NodI, NodsAt w (.slice a0 len cap) L ∧ InOk L ∧ len ≤ cap ∧ cap ≤ maxLen := by
  obtain ⟨fuel, hf⟩ := h
  rcases open_slice_fieldsN Tryd.underlying22 Tryd.underlying61 (by kernel_rfl) cellsNI hf with hcs | ⟨a, len', cap', m, hcs, hl, hm, hmm, hi⟩
  · have hv : Value.slice a0 len cap = .slice none 0 0 := by simpa [Value.cells] using hcs
    cases hv
    exact ⟨[], ⟨none, 0, rfl, fun i h => absurd h (by simp)⟩, fun x hx => absurd hx (by simp), Nat.le_refl _, by unfold maxLen; omega⟩
  · have hv : Value.slice a0 len cap = .slice (some a) len' cap' := by simpa [Value.cells] using hcs
    cases hv
    have each : ∀ i, ∃ x : NodI, i < len → ∃ g o, a = ⟨g, o, none⟩ ∧ w.cell? ⟨g, o + i * 3, none⟩ = some (.int .i64 x.k) ∧ w.cell? ⟨g, o + i * 3 + 1, none⟩ = some (.int .i64 x.n) ∧ w.cell? ⟨g, o + i * 3 + 2, none⟩ = some (.string x.t) ∧ ((-9223372036854775808 ≤ x.n ∧ x.n ≤ 9223372036854775807) ∧ x.t.size ≤ maxLen) := by
      intro i
      by_cases hlt : i < len
      · obtain ⟨n, hj⟩ := hi i (by omega)
        obtain ⟨v0, y0, c0, t0⟩ := hj 0 _ rfl
        obtain ⟨v1, y1, c1, t1⟩ := hj 1 _ rfl
        obtain ⟨v2, y2, c2, t2⟩ := hj 2 _ rfl
        obtain ⟨x0, e0, f0, w0⟩ := DataW.trod_int Tryd.underlying3 t0
        obtain ⟨x1, e1, f1, w1⟩ := DataW.trod_int Tryd.underlying2 t1
        obtain ⟨x2, e2, f2, w2⟩ := DataW.trod_string Tryd.underlying9 t2
        simp only [List.cons.injEq, and_true] at e0 e1 e2
        subst e0 e1 e2
        obtain ⟨nz, hjz⟩ := hi 0 (by omega)
        obtain ⟨vz, yz, cz, _⟩ := hjz 0 _ rfl
        have hs := World.cell?_spot cz
        obtain ⟨g, o, sp⟩ := a
        have hsp : sp = none := by simpa [Addr.add] using hs
        subst hsp
        have b1 : -9223372036854775808 ≤ x1 ∧ x1 ≤ 9223372036854775807 := by simpa [Lit.wf, IntKind.min, IntKind.max, IntKind.signed, IntKind.bits] using w1
        refine ⟨⟨x0, x1, x2⟩, fun _ => ⟨g, o, rfl, ?_, ?_, ?_, ⟨b1, by simpa using w2⟩⟩⟩
        · have := cell_plain' c0
          rw [← Nat.add_assoc, Nat.add_zero] at this
          exact this
        · have := cell_plain' c1
          rw [← Nat.add_assoc] at this
          exact this
        · have := cell_plain' c2
          rw [← Nat.add_assoc] at this
          exact this
      · exact ⟨⟨0, 0, ByteArray.empty⟩, fun h => absurd h hlt⟩
    obtain ⟨L, hL⟩ := Classical.axiomOfChoice each
    have hlen : ((List.range len).map L).length = len := by simp
    refine ⟨(List.range len).map L, ⟨some a, cap, by rw [hlen], fun i hi => ?_⟩, ?_, hl, hm⟩
    · rw [hlen] at hi
      obtain ⟨g, o, rfl, h1, h2, h3, _⟩ := hL i hi
      refine ⟨g, o, rfl, ?_, ?_, ?_⟩ <;> rw [List.getElem_map, List.getElem_range] <;> assumption
    · intro x hx
      obtain ⟨i, hi, rfl⟩ := List.mem_map.1 hx
      obtain ⟨_, _, _, _, _, _, h4⟩ := hL i (List.mem_range.1 hi)
      exact h4
end Go.Proofs.YtemgeelgkokpcaaDoor
