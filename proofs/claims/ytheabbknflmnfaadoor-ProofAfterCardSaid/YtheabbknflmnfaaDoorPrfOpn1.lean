/- A put (a struct of two bytes and a text) opened. No walk. -/
import Derived.Test.YtheabbknflmnfaaDoorPrfSO
import Derived.Deep.Strs
namespace Go.Proofs.YtheabbknflmnfaaDoor
open Go.RowKit Go.ChangeShapes Go.ChangeAt Go.Lib Go.Deep

set_option maxRecDepth 100000 in
theorem open_put {H : Type} {enc : TypeId × Value → H} {w : World} {base b0 : Nat} {r : Reach} {spare : Nat → Bool} {held : Bool} {v : Value} {d : DataW H} {p : List MemPlace}
    (hval : Value.okWide Tryd.prog w r b0 62 v) (h : DataW.Trod enc Tryd.prog w base spare held 62 v d p) : ∃ (a b : UInt8) (V : ByteArray), v = .agg #[.int .u8 a.toNat, .int .u8 b.toNat, .string V] ∧ V.size ≤ maxLen := by
  simp only [Value.okWide, Tryd.underlying62] at hval
  obtain ⟨cs, rfl, hsz, -⟩ := hval
  obtain ⟨fuel, hf⟩ := h
  obtain ⟨y0, y1, y2, n, _, hl, t0, t1, t2⟩ := trod_struct3 Tryd.underlying62 hf
  rw [cellsPut] at hsz
  obtain ⟨l⟩ := cs
  match l, hsz with
  | [c0, c1, c2], _ =>
    obtain ⟨x0, e0, f0, w0⟩ := DataW.trod_int (t := 5) Tryd.underlying5 (show DataW.trod enc Tryd.prog w base spare held n 5 [c0] = some y0 from t0)
    obtain ⟨x1, e1, f1, w1⟩ := DataW.trod_int (t := 5) Tryd.underlying5 (show DataW.trod enc Tryd.prog w base spare held n 5 [c1] = some y1 from t1)
    obtain ⟨x2, e2, f2, w2⟩ := DataW.trod_string (t := 9) Tryd.underlying9 (show DataW.trod enc Tryd.prog w base spare held n 9 [c2] = some y2 from t2)
    simp only [List.cons.injEq, and_true] at e0 e1 e2
    subst e0 e1 e2
    have b0 : 0 ≤ x0 ∧ x0 ≤ 255 := by simpa [Lit.wf, IntKind.min, IntKind.max, IntKind.signed, IntKind.bits] using w0
    have b1 : 0 ≤ x1 ∧ x1 ≤ 255 := by simpa [Lit.wf, IntKind.min, IntKind.max, IntKind.signed, IntKind.bits] using w1
    have u0 : ((UInt8.ofNat x0.toNat).toNat : Int) = x0 := by rw [UInt8.toNat_ofNat_of_lt' (show x0.toNat < 256 by omega)]; omega
    have u1 : ((UInt8.ofNat x1.toNat).toNat : Int) = x1 := by rw [UInt8.toNat_ofNat_of_lt' (show x1.toNat < 256 by omega)]; omega
    refine ⟨UInt8.ofNat x0.toNat, UInt8.ofNat x1.toNat, x2, by rw [u0, u1], by simpa using w2⟩
end Go.Proofs.YtheabbknflmnfaaDoor
