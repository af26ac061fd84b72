/- slices.Chunk over texts, by two: the iterator's contract. · Arguments opened: lists of two bytes (layer 15's law). No walk. -/
import Derived.Test.YtgaenpbdfelhhaaDoorBndJ
import Derived.Test.YtgaenpbdfelhhaaDoorBandNodesB4
import Derived.Test.YtgaenpbdfelhhaaDoorBandNodesB3
import Derived.Deep.Slices
import Derived.Deep.Fields
import Derived.OpenShut
namespace Go.Proofs.YtgaenpbdfelhhaaDoor
open Go.RowKit Go.Shelf
attribute [local irreducible] shaL

theorem chunk_stops (F : Fence) (n : Nat) (h27 : F.fn 81) (hro : F.round = none) (hn : 1 ≤ n) (Bs n₀ nb m cw g o : Nat) (hm0 : 0 < m) (hlen : m ≤ 1000000) (hcw : 2 * m ≤ cw) (hBs : Bs + 1 < n₀) (hBn : Bs ≠ nb ∧ Bs + 1 ≠ nb) (w : World) (hn₀ : n₀ ≤ w.heap.size)
    (hBc : w.cell? ⟨Bs, 0, none⟩ = some (.slice (some ⟨g, o, none⟩) (2 * m) cw)) (hBd : w.cell? ⟨Bs + 1, 0, none⟩ = some (.int .i64 2)) :
    SeqStopsK F n Tryd.prog 81 #[.pointer (some ⟨Bs, 0, none⟩), .pointer (some ⟨Bs + 1, 0, none⟩)] (fun x => #[chunkV g o m x]) (Turn (butOne n₀ nb)) (fun ys => ys = List.range m) (fun pre => ∃ k, k < m ∧ pre = List.range (k + 1)) m w := fun l J Jx W hW hJ _ hY h0 => by
  have hc' := (hW.cell (p := ⟨Bs, 0, none⟩) (by show Bs < _; omega)).trans hBc
  have hd' := (hW.cell (p := ⟨Bs + 1, 0, none⟩) (by show Bs + 1 < _; omega)).trans hBd
  exact chunk1_in F n h27 hro hn l Bs n₀ nb m cw g o hm0 hlen hcw hBs hBn J Jx (fun s X h => hJ s X X.drew none h (grownBy_drew (World.grownBy.refl _ _)) (fun r e => by cases e)) hY W (Nat.le_trans hn₀ hW.size) hc' hd' h0
end Go.Proofs.YtgaenpbdfelhhaaDoor

namespace Go.Proofs.YtgaenpbdfelhhaaDoor
open Go.RowKit Go.ChangeShapes Go.WideShapes Go.Deep

section
variable {H : Type} {enc : TypeId × Value → H} {P : Program} {w : World} {base : Nat} {spare : Nat → Bool} {held : Bool}
theorem open_slice_arr {t e u : TypeId} {N : Nat} {fuel : Nat} {cs : List Value} {x : DataW H × List MemPlace} (ht : P.underlying t = some (.slice e)) (he : P.underlying e = some (.array N u))
    (hone : P.cellsOf u = 1) (hC : P.cellsOf e = N) (h : DataW.trod enc P w base spare held fuel t cs = some x) :
    (cs = [.slice none 0 0]) ∨
    ∃ (a : Addr) (len cap m : Nat), cs = [.slice (some a) len cap] ∧ len ≤ cap ∧ cap ≤ maxLen ∧ len ≤ m ∧
      ∀ i, i < m → ∃ n : Nat, ∀ (j : Nat), j < N → ∃ (v : Value) (y : DataW H × List MemPlace), w.cell? (a.add (i * N + j)) = some v ∧ DataW.trod enc P w base spare held n u [v] = some y := by
  rcases open_slice ht h with h0 | ⟨a, len, cap, m, n, D, Pl, hcs, hb, hl, hm, hmm, hx, hi⟩
  · exact .inl h0.1
  · refine .inr ⟨a, len, cap, m, hcs, hl, hm, by rw [hmm]; split <;> omega, fun i him => ?_⟩
    obtain ⟨cs', hc, ht'⟩ := hi i him
    rw [hC] at hc
    obtain ⟨xs, n', _, hx', hcl', hxl, hat'⟩ := DataW.trod_array he ht'
    obtain ⟨_, hcl, hat⟩ := World.cells?_some hc
    refine ⟨n', fun j hj => ?_⟩
    have hcell := hat j hj
    have hv : cs'[j]? = some (cs'[j]'(by omega)) := List.getElem?_eq_getElem (by omega)
    have h1 := hat' j hj
    rw [hone, Nat.mul_one] at h1
    have hone' : (cs'.drop j).take 1 = [cs'[j]'(by omega)] := by
      rw [List.drop_eq_getElem_cons (by omega)]
      rfl
    rw [hone'] at h1
    have hys : xs[j]? = some (xs[j]'(by omega)) := List.getElem?_eq_getElem (by omega)
    refine ⟨_, _, ?_, h1.trans hys⟩
    rw [← Go.Deep.add_add, hcell, hv]
end
theorem cellsTwo : Tryd.prog.cellsOf 30 = 2 := by kernel_rfl
/-- a list of two bytes each: nil, or cells -/
theorem open_twos {H : Type} {enc : TypeId × Value → H} {w : World} {base : Nat} {spare : Nat → Bool} {held : Bool} {a0 : Option Addr} {len cap : Nat} {d : DataW H} {p : List MemPlace}
    (h : DataW.Trod enc Tryd.prog w base spare held 22 (.slice a0 len cap) d p) : ∃ L : List TwoS, TwosAt w (.slice a0 len cap) L ∧ len ≤ maxLen := by
  obtain ⟨fuel, hf⟩ := h
  rcases open_slice_arr Tryd.underlying22 Tryd.underlying30 (by kernel_rfl) cellsTwo hf with hcs | ⟨a, len', cap', m, hcs, hl, hm, hmm, hi⟩
  · have hv : Value.slice a0 len cap = .slice none 0 0 := by simpa [Value.cells] using hcs
    cases hv
    exact ⟨[], ⟨none, 0, rfl, fun i h => absurd h (by simp)⟩, by unfold maxLen; omega⟩
  · have hv : Value.slice a0 len cap = .slice (some a) len' cap' := by simpa [Value.cells] using hcs
    cases hv
    have each : ∀ i, ∃ x : TwoS, i < len → ∃ g o, a = ⟨g, o, none⟩ ∧ w.cell? ⟨g, o + i * 2, none⟩ = some (.int .u8 (UInt8.toNat x.1)) ∧ w.cell? ⟨g, o + i * 2 + 1, none⟩ = some (.int .u8 (UInt8.toNat x.2)) := by
      intro i
      by_cases hlt : i < len
      · obtain ⟨n, hj⟩ := hi i (by omega)
        obtain ⟨v0, y0, c0, t0⟩ := hj 0 (by omega)
        obtain ⟨v1, y1, c1, t1⟩ := hj 1 (by omega)
        obtain ⟨x0, e0, f0, w0⟩ := DataW.trod_int Tryd.underlying5 t0
        obtain ⟨x1, e1, f1, w1⟩ := DataW.trod_int Tryd.underlying5 t1
        simp only [List.cons.injEq, and_true] at e0 e1
        subst e0 e1
        obtain ⟨nz, hjz⟩ := hi 0 (by omega)
        obtain ⟨vz, yz, cz, _⟩ := hjz 0 (by omega)
        have hs := World.cell?_spot cz
        obtain ⟨g, o, sp⟩ := a
        have hsp : sp = none := by simpa [Addr.add] using hs
        subst hsp
        have b0 : 0 ≤ x0 ∧ x0 ≤ 255 := by simpa [Lit.wf, IntKind.min, IntKind.max, IntKind.signed, IntKind.bits] using w0
        have b1 : 0 ≤ x1 ∧ x1 ≤ 255 := by simpa [Lit.wf, IntKind.min, IntKind.max, IntKind.signed, IntKind.bits] using w1
        have u0 : ((UInt8.ofNat x0.toNat).toNat : Int) = x0 := by rw [UInt8.toNat_ofNat_of_lt' (show x0.toNat < 256 by omega)]; omega
        have u1 : ((UInt8.ofNat x1.toNat).toNat : Int) = x1 := by rw [UInt8.toNat_ofNat_of_lt' (show x1.toNat < 256 by omega)]; omega
        refine ⟨(UInt8.ofNat x0.toNat, UInt8.ofNat x1.toNat), fun _ => ⟨g, o, rfl, ?_, ?_⟩⟩
        · have := cell_plain' c0
          rw [← Nat.add_assoc, Nat.add_zero] at this
          rw [u0]
          exact this
        · have := cell_plain' c1
          rw [← Nat.add_assoc] at this
          rw [u1]
          exact this
      · exact ⟨(0, 0), fun h => absurd h hlt⟩
    obtain ⟨L, hL⟩ := Classical.axiomOfChoice each
    have hlen : ((List.range len).map L).length = len := by simp
    refine ⟨(List.range len).map L, ⟨some a, cap, by rw [hlen], fun i hi => ?_⟩, by omega⟩
    rw [hlen] at hi
    obtain ⟨g, o, rfl, h1, h2⟩ := hL i hi
    refine ⟨g, o, rfl, ?_, ?_⟩ <;> rw [List.getElem_map, List.getElem_range] <;> assumption
end Go.Proofs.YtgaenpbdfelhhaaDoor
