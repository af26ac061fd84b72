/- A list of acts (layer 9's law) opened: all five fields of each, and what the form's reach says of what is kept. No walk. -/
import Derived.Test.YtfomchkmedoenaaSecPa
import Derived.Test.YtfomchkmedoenaaOpenActs
import Derived.Test.YtfomchkmedoenaaOpenU8
import Derived.SizedLaws
namespace Go.Proofs.Ytfomchkmedoenaa
open Go.RowKit Go.ChangeShapes Go.WideShapes Go.Deep

theorem weightsAll_mem {H : Type} {P : Program} {e : TypeId} {n : Nat} : ∀ {l : List (DataW H)} {d : DataW H}, d ∈ l → n ∈ d.weights P e → n ∈ DataW.weightsAll P e l
  | x :: r, d, hd, hn => by
    rw [DataW.weightsAll]
    rcases List.mem_cons.1 hd with rfl | hd
    · exact List.mem_append.2 (.inl hn)
    · exact List.mem_append.2 (.inr (weightsAll_mem hd hn))
section
variable {H : Type} {enc : TypeId × Value → H} {w : World} {base : Nat} {spare : Nat → Bool} {held : Bool}
theorem open_keep {fuel : Nat} {v : Value} {y : DataW H × List MemPlace} (h : DataW.trod enc Try.prog w base spare held fuel 32 [v] = some y) :
    ∃ ka kc l, v = .slice ka (List.length l) kc ∧ BytesAt w v l ∧ (List.length l = 0 ∨ ∃ es sp, y.1 = .slice es sp ∧ List.length l ≤ es.length + sp.length) := by
  have hv : ∃ a n c, v = .slice a n c := by
    rcases open_slice Try.underlying32 h with h0 | ⟨a, len, cap, _, _, _, _, hcs, _⟩
    · have := h0.1
      simp only [List.cons.injEq, and_true] at this
      exact ⟨_, _, _, this⟩
    · simp only [List.cons.injEq, and_true] at hcs
      exact ⟨_, _, _, hcs⟩
  obtain ⟨a, n, c, rfl⟩ := hv
  obtain ⟨d, p⟩ := y
  obtain ⟨l, hb, _, hz⟩ := open_u8_row (enc := enc) (base := base) (spare := spare) (held := held) (d := d) (p := p) Try.underlying32 Try.underlying5 (by kernel_rfl) ⟨fuel, h⟩
  have hn : l.length = n := by obtain ⟨_, _, e, _⟩ := hb; injection e with _ e _; exact e.symm
  subst hn
  exact ⟨a, c, l, rfl, hb, hz⟩
/-- a list of acts: nil, or cells -/
theorem open_pacts {a0 : Option Addr} {len cap : Nat} {d : DataW H} {p : List MemPlace}
    (h : DataW.Trod enc Try.prog w base spare held 22 (.slice a0 len cap) d p) (hz : ∀ n ∈ d.weights Try.prog 22, n ≤ 140737488351232) :
    ∃ L : List ActS, PActsAt w (.slice a0 len cap) L ∧ (∀ x ∈ L, ActOk x) ∧ len ≤ maxLen := by
  obtain ⟨fuel, hf⟩ := h
  rcases open_slice Try.underlying22 hf with hcs | ⟨a, len', cap', m, n, D, Pl, hcs, hb, hl, hm, hmm, hx, hi⟩
  · have hv : Value.slice a0 len cap = .slice none 0 0 := by simpa [Value.cells] using hcs.1
    cases hv
    exact ⟨[], ⟨none, 0, rfl, fun i h => absurd h (by simp)⟩, by simp, by unfold maxLen; omega⟩
  · have hv : Value.slice a0 len cap = .slice (some a) len' cap' := by simpa [Value.cells] using hcs
    cases hv
    have hd : d = .slice ((List.range len).map D) ((List.range (m - len)).map fun j => D (len + j)) := (Prod.mk.inj hx).1
    have hml : len ≤ m := by rw [hmm]; split <;> omega
    have each : ∀ i, ∃ x : ActS, i < len → ∃ g o kv, a = ⟨g, o, none⟩ ∧ w.cell? ⟨g, o + i * 5, none⟩ = some (.int .i64 x.what) ∧ w.cell? ⟨g, o + i * 5 + 1, none⟩ = some (.int .i64 x.at_) ∧ w.cell? ⟨g, o + i * 5 + 2, none⟩ = some (.int .i64 x.n) ∧ w.cell? ⟨g, o + i * 5 + 3, none⟩ = some (.string x.text) ∧ w.cell? ⟨g, o + i * 5 + 4, none⟩ = some kv ∧
        (∃ ka kc, kv = .slice ka x.keep.length kc ∧ BytesAt w kv x.keep ∧ x.keep.length ≤ 140737488351232 ∧ (0 < x.keep.length → ∀ g o, ka = some ⟨g, o, none⟩ → g < w.heap.size)) ∧ ActOk x := by
      intro i
      by_cases hlt : i < len
      · obtain ⟨cs', hc, ht'⟩ := hi i (by omega)
        rw [cellsAct] at hc
        obtain ⟨ys, n', hn', hy, hlen, hyl, hfl⟩ := DataW.trod_struct Try.underlying36 ht'
        obtain ⟨_, hcl, hat⟩ := World.cells?_some hc
        have hcell : ∀ j (hj : j < 5), w.cell? (a.add (i * 5 + j)) = some (cs'[j]'(by omega)) := fun j hj => by
          rw [← Go.Deep.add_add, hat j (by omega)]; exact List.getElem?_eq_getElem (by omega)
        have hone : ∀ j (hj : j < 5), (cs'.drop j).take 1 = [cs'[j]'(by omega)] := fun j hj => by
          rw [List.drop_eq_getElem_cons (by omega)]
          rfl
        have t0 := hfl 0 _ rfl
        have t2 := hfl 2 _ rfl
        have t1 := hfl 1 _ rfl
        have t3 := hfl 3 _ rfl
        have t4 := hfl 4 _ rfl
        have k1 : ∀ t, Try.prog.cellsOf t = Try.prog.cellsOf t := fun _ => rfl
        have q0 : DataW.trod enc Try.prog w base spare held n' 3 [cs'[0]'(by omega)] = ys[0]? := by rw [← hone 0 (by decide)]; exact t0
        have q1 : DataW.trod enc Try.prog w base spare held n' 3 [cs'[1]'(by omega)] = ys[1]? := by rw [← hone 1 (by decide)]; exact t1
        have q2 : DataW.trod enc Try.prog w base spare held n' 3 [cs'[2]'(by omega)] = ys[2]? := by rw [← hone 2 (by decide)]; exact t2
        have q3 : DataW.trod enc Try.prog w base spare held n' 9 [cs'[3]'(by omega)] = ys[3]? := by rw [← hone 3 (by decide)]; exact t3
        have q4 : DataW.trod enc Try.prog w base spare held n' 32 [cs'[4]'(by omega)] = ys[4]? := by rw [← hone 4 (by decide)]; exact t4
        have hy5 : ys.length = 5 := hyl
        obtain ⟨x0, e0, f0, b0⟩ := DataW.trod_int Try.underlying3 (q0.trans (List.getElem?_eq_getElem (by omega)))
        obtain ⟨x1, e1, f1, b1⟩ := DataW.trod_int Try.underlying3 (q1.trans (List.getElem?_eq_getElem (by omega)))
        obtain ⟨x2, e2, f2, b2⟩ := DataW.trod_int Try.underlying3 (q2.trans (List.getElem?_eq_getElem (by omega)))
        obtain ⟨x3, e3, f3, b3⟩ := DataW.trod_string Try.underlying9 (q3.trans (List.getElem?_eq_getElem (by omega)))
        obtain ⟨ka, kc, l, e4, hbl, hkz⟩ := open_keep (q4.trans (List.getElem?_eq_getElem (by omega)))
        simp only [List.cons.injEq, and_true] at e0 e1 e2 e3
        have c0 := hcell 0 (by decide)
        have c1 := hcell 1 (by decide)
        have c2 := hcell 2 (by decide)
        have c3 := hcell 3 (by decide)
        have c4 := hcell 4 (by decide)
        rw [e0] at c0
        rw [e1] at c1
        rw [e2] at c2
        rw [e3] at c3
        obtain ⟨cs0, hc0, _⟩ := hi 0 (by omega)
        rw [cellsAct] at hc0
        obtain ⟨_, hcl0, hat0⟩ := World.cells?_some hc0
        have z0 := hat0 0 (by omega)
        rw [List.getElem?_eq_getElem (by omega)] at z0
        have hs := World.cell?_spot z0
        have hb0 : -9223372036854775808 ≤ x0 ∧ x0 ≤ 9223372036854775807 := by simpa [Lit.wf, IntKind.min, IntKind.max, IntKind.signed, IntKind.bits] using b0
        have hb2 : -9223372036854775808 ≤ x2 ∧ x2 ≤ 9223372036854775807 := by simpa [Lit.wf, IntKind.min, IntKind.max, IntKind.signed, IntKind.bits] using b2
        obtain ⟨g, o, sp⟩ := a
        have hsp : sp = none := by simpa [Addr.add] using hs
        subst hsp
        have hkl : l.length ≤ 140737488351232 := by
          rcases hkz with h0 | ⟨es, sp, hes, hle⟩
          · omega
          · refine Nat.le_trans hle (hz _ ?_)
            rw [hd]
            have hDi : D i = .agg (ys.map (·.1)) := (Prod.mk.inj hy).1
            have hmem : D i ∈ (List.range len).map D := List.mem_map.2 ⟨i, List.mem_range.2 hlt, rfl⟩
            have hw4 : es.length + sp.length ∈ (D i).weights Try.prog 36 := by
              rw [hDi]
              have hu := Try.underlying36
              simp only [DataW.weights, hu]
              refine DataW.weights_mem_each (j := 4) (t := 32) (d := .slice es sp) rfl ?_ _ ?_
              · rw [List.getElem?_map, List.getElem?_eq_getElem (show 4 < ys.length by omega), ← hes]
                rfl
              · have hu2 := Try.underlying32
                simp only [DataW.weights, hu2]
                rw [show Try.prog.bytesOf 5 = 1 by kernel_rfl, Nat.mul_one]
                exact List.mem_cons_self
            have hu3 := Try.underlying22
            simp only [DataW.weights, hu3]
            exact List.mem_cons_of_mem _ (List.mem_append.2 (.inl (weightsAll_mem hmem hw4)))
        refine ⟨⟨x0, x1, x2, x3, l⟩, fun _ => ⟨g, o, cs'[4]'(by omega), rfl, ?_, ?_, ?_, ?_, ?_, ⟨ka, kc, e4, hbl, hkl, fun hp g' o' e => ?_⟩, ⟨?_, ?_, ?_, ?_⟩⟩⟩
        · have h9 := cell_plain' c0
          rw [← Nat.add_assoc] at h9
          exact h9
        · have h9 := cell_plain' c1
          rw [← Nat.add_assoc] at h9
          exact h9
        · have h9 := cell_plain' c2
          rw [← Nat.add_assoc] at h9
          exact h9
        · have h9 := cell_plain' c3
          rw [← Nat.add_assoc] at h9
          exact h9
        · have h9 := cell_plain' c4
          rw [← Nat.add_assoc] at h9
          exact h9
        · obtain ⟨a', c', e', hc'⟩ := hbl
          obtain ⟨g2, o2, e5, h5⟩ := hc' 0 hp
          rw [e4] at e'
          injection e' with e6 _ _
          rw [e6, e5] at e
          cases e
          exact cell_lt h5
        · exact hb2.2
        · simpa using b3
        · exact hb0.1
        · exact hb0.2
      · exact ⟨⟨0, 0, 0, ByteArray.empty, []⟩, fun h => absurd h hlt⟩
    obtain ⟨L, hL⟩ := Classical.axiomOfChoice each
    have hlen : ((List.range len).map L).length = len := by simp
    refine ⟨(List.range len).map L, ⟨some a, cap, by rw [hlen], fun i hi => ?_⟩, ?_, by omega⟩
    · rw [hlen] at hi
      obtain ⟨g, o, kv, rfl, h0, h1, h2, h3, h4, h5, _⟩ := hL i hi
      rw [List.getElem_map, List.getElem_range]
      exact ⟨g, o, kv, rfl, h0, h1, h2, h3, h4, h5⟩
    · intro x hx
      obtain ⟨i, hi, rfl⟩ := List.mem_map.1 hx
      obtain ⟨_, _, _, _, _, _, _, _, _, _, h6⟩ := hL i (List.mem_range.1 hi)
      exact h6
end
end Go.Proofs.Ytfomchkmedoenaa
