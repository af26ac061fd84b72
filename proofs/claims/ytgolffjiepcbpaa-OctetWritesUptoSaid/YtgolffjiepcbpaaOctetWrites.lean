/- The law OctetWrites: whatever parts are written, the bytes, or the error, are the document's, and are read again as they were written; for parts that hold together at most 1048576 values and letters (the bound of the '..Upto' statement). -/
import Derived.Test.YtgolffjiepcbpaaOctetWr
import Derived.Test.YtgolffjiepcbpaaBulk
import Derived.Deep.Slices
import Derived.Deep.Fields
import Derived.JoinedCond
namespace Go.Proofs.Ytgolffjiepcbpaa.octetWrites
open Go.RowKit Go.ChangeShapes Go.WideShapes Go.ChangeAt Go.Deep

section
variable {H : Type} {enc : TypeId × Value → H} {P : Program} {w : World} {base : Nat} {spare : Nat → Bool} {held : Bool}
theorem open_slice_fields {t e : TypeId} {fs : Array Field} {fuel : Nat} {cs : List Value} {x : DataW H × List MemPlace} (ht : P.underlying t = some (.slice e)) (he : P.underlying e = some (.struct fs))
    (hone : oneCellFields P fs = true) (hC : P.cellsOf e = fs.size) (h : DataW.trod enc P w base spare held fuel t cs = some x) :
    (cs = [.slice none 0 0] ∧ x = (.nil, [])) ∨
    ∃ (a : Addr) (len cap m : Nat) (D : Nat → DataW H) (Pl : Nat → List MemPlace), cs = [.slice (some a) len cap] ∧ base ≤ a.block ∧ len ≤ cap ∧ cap ≤ maxLen ∧ m = (if spare a.block then cap else len) ∧
      x = (.slice ((List.range len).map D) ((List.range (m - len)).map fun j => D (len + j)), MemPlace.row a (m * fs.size) ++ (List.range m).flatMap Pl) ∧
      ∀ i, i < m → ∃ (ys : List (DataW H × List MemPlace)) (n : Nat), D i = .agg (ys.map (·.1)) ∧ Pl i = ys.flatMap (·.2) ∧ ys.length = fs.size ∧
        ∀ (j : Nat) (f : Field), fs[j]? = some f → ∃ (v : Value) (y : DataW H × List MemPlace), w.cell? (a.add (i * fs.size + j)) = some v ∧ ys[j]? = some y ∧ DataW.trod enc P w base spare held n f.type [v] = some y := by
  rcases open_slice ht h with h0 | ⟨a, len, cap, m, n, D, Pl, hcs, hb, hl, hm, hmm, hx, hi⟩
  · exact .inl h0
  · refine .inr ⟨a, len, cap, m, D, Pl, hcs, hb, hl, hm, hmm, by rw [hC] at hx; exact hx, fun i him => ?_⟩
    obtain ⟨cs', hc, ht'⟩ := hi i him
    rw [hC] at hc
    obtain ⟨ys, n', hn', hy, hlen, hyl, hf⟩ := DataW.trod_struct he ht'
    obtain ⟨_, hcl, hat⟩ := World.cells?_some hc
    simp only [Prod.mk.injEq] at hy
    refine ⟨ys, n', hy.1, hy.2, hyl, fun j f hj => ?_⟩
    obtain ⟨ho, hk⟩ := hone_of hone j f hj
    have hjl : j < fs.size := (Array.getElem?_eq_some_iff.1 hj).1
    have hcell := hat j hjl
    have hv : cs'[j]? = some (cs'[j]'(by omega)) := List.getElem?_eq_getElem (by omega)
    have h1 := hf j f hj
    rw [ho, hk] at h1
    have hone' : (cs'.drop j).take 1 = [cs'[j]'(by omega)] := by
      rw [List.drop_eq_getElem_cons (by omega)]
      rfl
    rw [hone'] at h1
    have hys : ys[j]? = some (ys[j]'(by omega)) := List.getElem?_eq_getElem (by omega)
    refine ⟨_, _, ?_, hys, h1.trans hys⟩
    rw [← Go.Deep.add_add, hcell, hv]
end

set_option maxRecDepth 100000 in
set_option maxHeartbeats 400000 in
/-- of no parts at all -/
theorem walk_nil (w : World) :
    Calls Try.prog 3 #[.slice none 0 0] w fun e w' => e = .returned (.bool true) ∧ Below w.heap.size w w' := by
  go_enter Try.func3, Try.ntmps3
  go_wp2_with fail
  refine (speaks_true _).mono ?_
  rintro e w1 ⟨rfl, h1⟩
  have B1 := Lib.hid h1
  have hl1 : w.heap.size ≤ w1.heap.size := h1.size
  clear h1
  go_wp2_with fail
  refine wp_loop_rounds 1 ?_
  rw [rounds_succ]
  go_wp2_with fail
  refine (bytes_ok _ _ [] (wsAt_some (WsAt.fresh w1)) (by decide)).mono ?_
  rintro e w2 ⟨rfl, g2⟩
  have B2 : Hid (Below w.heap.size w w2) := (B1.out.alloc B1.out.size _).trans ((below_grownBy g2).mono (by simp; omega))
  rw [show str (flat []) = ⟨#[]⟩ from rfl]
  clear g2
  go_wp2_with fail
  refine (read_any _ _).mono ?_
  rintro e w3 ⟨rfl, h3, g3⟩
  have B3 : Hid (Below w.heap.size w w3) := B2.out.trans ((below_grownBy g3).mono B2.out.size)
  have HR : Hid (RsAt w3 (some ⟨w2.heap.size, 0, none⟩) (some ⟨str [], 0⟩)) := ⟨_, rfl, h3⟩
  clear h3 g3
  go_wp2_with fail
  refine wp_loop_rounds 1 ?_
  rw [rounds_succ]
  go_wp2_with fail
  refine (end_any _ _ _ HR.out).mono ?_
  rintro e w5 ⟨rfl, rfl⟩
  rw [Option.map_some, done_nil]
  go_wp2_with fail
  refine (left_any _ _ _ HR.out).mono ?_
  rintro e w6 ⟨rfl, rfl⟩
  rw [Option.map_some, show (str []).size = 0 from rfl]
  go_wp2
  go_ret
  exact ⟨rfl, B3.out⟩

set_option maxRecDepth 100000 in
set_option maxHeartbeats 400000 in
/-- of an empty list that isn't nil -/
theorem walk_empty (a : Addr) (cap : Nat) (w : World) :
    Calls Try.prog 3 #[.slice (some a) 0 cap] w fun e w' => e = .returned (.bool true) ∧ Below w.heap.size w w' := by
  go_enter Try.func3, Try.ntmps3
  go_wp2_with fail
  refine (speaks_true _).mono ?_
  rintro e w1 ⟨rfl, h1⟩
  have B1 := Lib.hid h1
  have hl1 : w.heap.size ≤ w1.heap.size := h1.size
  clear h1
  go_wp2_with fail
  refine wp_loop_rounds 1 ?_
  rw [rounds_succ]
  go_wp2_with fail
  refine (bytes_ok _ _ [] (wsAt_some (WsAt.fresh w1)) (by decide)).mono ?_
  rintro e w2 ⟨rfl, g2⟩
  have B2 : Hid (Below w.heap.size w w2) := (B1.out.alloc B1.out.size _).trans ((below_grownBy g2).mono (by simp; omega))
  rw [show str (flat []) = ⟨#[]⟩ from rfl]
  clear g2
  go_wp2_with fail
  refine (read_any _ _).mono ?_
  rintro e w3 ⟨rfl, h3, g3⟩
  have B3 : Hid (Below w.heap.size w w3) := B2.out.trans ((below_grownBy g3).mono B2.out.size)
  have HR : Hid (RsAt w3 (some ⟨w2.heap.size, 0, none⟩) (some ⟨str [], 0⟩)) := ⟨_, rfl, h3⟩
  clear h3 g3
  go_wp2_with fail
  refine wp_loop_rounds 1 ?_
  rw [rounds_succ]
  go_wp2_with fail
  refine (end_any _ _ _ HR.out).mono ?_
  rintro e w5 ⟨rfl, rfl⟩
  rw [Option.map_some, done_nil]
  go_wp2_with fail
  refine (left_any _ _ _ HR.out).mono ?_
  rintro e w6 ⟨rfl, rfl⟩
  rw [Option.map_some, show (str []).size = 0 from rfl]
  go_wp2
  go_ret
  exact ⟨rfl, B3.out⟩

theorem cell_plain {w : World} {a : Addr} {n : Nat} {v : Value} (h : w.cell? (a.add n) = some v) : w.cell? ⟨a.block, a.off + n, none⟩ = some v := by
  have hs := World.cell?_spot h
  obtain ⟨b, o, sp⟩ := a
  by_cases hn : n = 0
  · subst hn
    have : sp = none := by simpa [Addr.add] using hs
    subst this
    simpa [Addr.add] using h
  · simpa [Addr.add, hn] using h
theorem walk_at (a : Addr) (len cap : Nat) (L : Nat → PartV) (w : World) (hlen : len ≤ 9223372036854775807) (hcap : len ≤ cap)
    (hL : ∀ i, i < len → w.cell? (a.add (i * 4)) = some (.int .i64 (L i).what) ∧ w.cell? (a.add (i * 4 + 1)) = some (.int .u64 (L i).n) ∧ w.cell? (a.add (i * 4 + 2)) = some (.int .i64 (L i).size) ∧ w.cell? (a.add (i * 4 + 3)) = some (.string (L i).text) ∧
        (L i).n ≤ 18446744073709551615 ∧ (L i).text.size ≤ 1048576 ∧ -9223372036854775808 ≤ (L i).size ∧ (L i).size ≤ 9223372036854775807) :
    Calls Try.prog 3 #[.slice (some a) len cap] w fun e w' => e = .returned (.bool true) ∧ Below w.heap.size w w' := by
  by_cases h0 : len = 0
  · subst h0
    exact walk_empty a cap w
  · have hsp : a.spot = none := by
      have := World.cell?_spot (hL 0 (by omega)).1
      simpa [Addr.add] using this
    obtain ⟨b, o, sp⟩ := a
    simp only at hsp
    subst hsp
    refine walk b o len cap L w hlen hcap (fun i hi => (hL i hi).2.2.2.2) (fun i hi => cell_plain (hL i hi).1) (fun i hi => ?_) (fun i hi => ?_) (fun i hi => ?_)
    · have := cell_plain (hL i hi).2.1
      simpa [Nat.add_assoc] using this
    · have := cell_plain (hL i hi).2.2.1
      simpa [Nat.add_assoc] using this
    · have := cell_plain (hL i hi).2.2.2.1
      simpa [Nat.add_assoc] using this

theorem own : ownKnob Try.prog.godebug = none := by kernel_rfl
theorem cellsPart : Try.prog.cellsOf 30 = 4 := by kernel_rfl
theorem laidOut : laidOutB Try.prog = true := by kernel_rfl

theorem part_of {H : Type} {enc : TypeId × Value → H} {w : World} {base : Nat} {spare : Nat → Bool} {held : Bool} {a : Addr} {i : Nat} {D : DataW H} {ys : List (DataW H × List MemPlace)} {n : Nat} (hD : D = .agg (ys.map (·.1)))
    (hf : ∀ (j : Nat) (f : Field), (#[{ name := "What", type := 3, offset := 0, embedded := false, tag := "", pkgPath := "", byteOffset := 0 }, { name := "N", type := 28, offset := 1, embedded := false, tag := "", pkgPath := "", byteOffset := 8 },
        { name := "Size", type := 3, offset := 2, embedded := false, tag := "", pkgPath := "", byteOffset := 16 }, { name := "Text", type := 9, offset := 3, embedded := false, tag := "", pkgPath := "", byteOffset := 24 }] : Array Field)[j]? = some f →
      ∃ (v : Value) (y : DataW H × List MemPlace), w.cell? (a.add (i * 4 + j)) = some v ∧ ys[j]? = some y ∧ DataW.trod enc Try.prog w base spare held n f.type [v] = some y) :
    ∃ p : PartV, w.cell? (a.add (i * 4)) = some (.int .i64 p.what) ∧ w.cell? (a.add (i * 4 + 1)) = some (.int .u64 p.n) ∧ w.cell? (a.add (i * 4 + 2)) = some (.int .i64 p.size) ∧ w.cell? (a.add (i * 4 + 3)) = some (.string p.text) ∧
      p.n ≤ 18446744073709551615 ∧ p.text.size + 1 ≤ Rows.uptoBulk D ∧ -9223372036854775808 ≤ p.size ∧ p.size ≤ 9223372036854775807 := by
  obtain ⟨v0, y0, c0, g0, t0⟩ := hf 0 _ rfl
  obtain ⟨v1, y1, c1, g1, t1⟩ := hf 1 _ rfl
  obtain ⟨v2, y2, c2, g2, t2⟩ := hf 2 _ rfl
  obtain ⟨v3, y3, c3, g3, t3⟩ := hf 3 _ rfl
  obtain ⟨x0, e0, f0, w0⟩ := DataW.trod_int Try.underlying3 t0
  obtain ⟨x1, e1, f1, w1⟩ := DataW.trod_int Try.underlying28 t1
  obtain ⟨x2, e2, f2, w2⟩ := DataW.trod_int Try.underlying3 t2
  obtain ⟨x3, e3, f3, w3⟩ := DataW.trod_string Try.underlying9 t3
  simp only [List.cons.injEq, and_true] at e0 e1 e2 e3
  subst e0 e1 e2 e3
  have b1 : 0 ≤ x1 ∧ x1 ≤ 18446744073709551615 := by simpa [Lit.wf, IntKind.min, IntKind.max, IntKind.signed, IntKind.bits] using w1
  have b2 : -9223372036854775808 ≤ x2 ∧ x2 ≤ 9223372036854775807 := by simpa [Lit.wf, IntKind.min, IntKind.max, IntKind.signed, IntKind.bits] using w2
  obtain ⟨m, rfl⟩ := Int.eq_ofNat_of_zero_le b1.1
  refine ⟨⟨x0, m, x2, x3⟩, c0, c1, c2, c3, by show m ≤ _; omega, ?_, b2.1, b2.2⟩
  have hmem : y3.1 ∈ ys.map (·.1) := List.mem_map_of_mem (List.mem_of_getElem? g3)
  have := bulks.agg_le hmem
  rw [hD]
  rw [f3] at this
  rw [bulks.string_eq] at this
  simpa using this

theorem contract (H : Type) (enc : TypeId × Value → H) (W : World) (base : Nat) (args : Array Value) (ds gs : List (DataW H)) (before : List MemPlace)
    (hval : ∀ (j : Nat) t v, Try.f3.params[j]? = some t → args[j]? = some v → Value.okWide Try.prog W .any base t v)
    (hW : DataW.Whole enc Try.prog Try.f3.params.toList Rows.octetWritesSpec.vars false W args.toList ds gs before) (hk : Rows.uptoSmall H (ds ++ gs) = true) :
    Calls Try.prog 3 args W fun e W' => ∃ v, e = .returned v ∧ Rows.octetWritesSpec.post enc Try.prog Try.f3 false true false false W args v W' := by
  have hW' := hW
  obtain ⟨p, q, hA0, hV, rfl, hfz, hnd⟩ := hW
  have hA : DataW.TrodAll enc Try.prog W 0 (fun _ => true) true Try.f3.params.toList args.toList ds p := hA0
  rw [Try.params3] at hA hval
  obtain ⟨v0, vs0, d0, ds0, p0, q0, hargs, rfl, rfl, h0, r0⟩ := trodAll_cons hA
  obtain ⟨rfl, rfl, rfl⟩ := trodAll_nil r0
  obtain rfl : args = #[v0] := by cases args; simp_all
  obtain ⟨rfl, rfl⟩ := trodVars_none hV
  clear hA0
  simp only [List.append_nil] at hW' hk
  have h0k := h0
  have hlt : ∀ x ∈ p0, x.block < W.heap.size := fun x hx => by simpa using hW'.lt x (by simpa using hx)
  have fin : ∀ (e : Ending) (W' : World), (e = .returned (.bool true) ∧ Below W.heap.size W W') → ∃ v, e = .returned v ∧ Rows.octetWritesSpec.post enc Try.prog Try.f3 false true false false W #[v0] v W' := by
    rintro e W' ⟨rfl, hb⟩
    refine ⟨_, rfl, post_of_below_at (ds := [d0]) (gs := []) (before := p0) (pa := p0) (pv := []) hW' (fun _ _ _ => (trodAll_cons_mk (shut_bool Try.underlying4 _) trodAll_mk0)) ?_ rfl (by simp) hb⟩
    have := trodAll_cons_mk (Below.trod laidOut (by kernel_rfl) (of_decide_eq_true (by kernel_rfl)) h0k hb hlt) trodAll_mk0
    rw [List.append_nil] at this
    exact this
  obtain ⟨a0, len, cap, rfl⟩ := okWide_slice Try.underlying22 (hval 0 22 v0 rfl rfl)
  obtain ⟨fuel, hf⟩ := h0
  rcases open_slice_fields Try.underlying22 Try.underlying30 (by kernel_rfl) cellsPart hf with ⟨hcs, hx⟩ | ⟨a, len', cap', m, D, Pl, hcs, _, hl, hm, hmm, hx, hi⟩
  · simp only [Value.cells] at hcs
    have : Value.slice a0 len cap = .slice none 0 0 := by simpa using hcs
    rw [this]
    rw [this] at fin
    exact (walk_nil W).mono fun e W' h => fin e W' h
  · have hv : Value.slice a0 len cap = .slice (some a) len' cap' := by simpa [Value.cells] using hcs
    rw [hv]
    rw [hv] at fin
    simp only [Prod.mk.injEq] at hx
    have hbulk := bulks.one_le hk
    rw [hx.1] at hbulk
    have hmm' : len' ≤ m := by rw [hmm]; split <;> omega
    have hparts : ∀ i, ∃ p : PartV, i < len' → W.cell? (a.add (i * 4)) = some (.int .i64 p.what) ∧ W.cell? (a.add (i * 4 + 1)) = some (.int .u64 p.n) ∧ W.cell? (a.add (i * 4 + 2)) = some (.int .i64 p.size) ∧ W.cell? (a.add (i * 4 + 3)) = some (.string p.text) ∧
        p.n ≤ 18446744073709551615 ∧ p.text.size ≤ 1048576 ∧ -9223372036854775808 ≤ p.size ∧ p.size ≤ 9223372036854775807 := by
      intro i
      by_cases hlti : i < len'
      · obtain ⟨ys, n, hD, _, _, hfs⟩ := hi i (by omega)
        obtain ⟨p, h1, h2, h3, h4, h5, h6, h7, h8⟩ := part_of (a := a) (i := i) hD hfs
        refine ⟨p, fun _ => ⟨h1, h2, h3, h4, h5, ?_, h7, h8⟩⟩
        have := bulks.elem_le (r := (List.range (m - len')).map fun j => D (len' + j)) (List.mem_map_of_mem (f := D) (List.mem_range.2 hlti))
        omega
      · exact ⟨⟨0, 0, 0, ByteArray.empty⟩, fun h => absurd h hlti⟩
    obtain ⟨L, hL⟩ := Classical.axiomOfChoice hparts
    by_cases h00 : len' = 0
    · subst h00
      refine (walk_at a 0 cap' L W (by omega) (by omega) (fun i hi => absurd hi (by omega))).mono fun e W' h => fin e W' h
    · refine (walk_at a len' cap' L W (by unfold maxLen at hm; omega) hl hL).mono fun e W' h => fin e W' h

set_option maxRecDepth 100000 in
theorem lifted (os : Os) (started : os.Started) (H : Type) (enc : TypeId × Value → H) (F : Stop.Interp) :
    ReturnsInHanded {} Try.checked os 3 .any ((Rows.OpenSpec.upto Rows.octetWritesSpec).pre6 enc Try.prog Try.f3 Rows.octetWritesUptoRow.domain false) (((Rows.OpenSpec.upto Rows.octetWritesSpec).at F).post enc Try.prog Try.f3 false true false false) := by
  refine returnsInHanded_of_cond (C := Try.checked) (s := Rows.OpenSpec.upto Rows.octetWritesSpec) (k := Rows.uptoSmall) rfl own started (by kernel_rfl) Try.func3
    (OpenSpec.witness (enc := enc) (C := Try.checked) (s := Rows.OpenSpec.upto Rows.octetWritesSpec) (k := Rows.uptoSmall) rfl false ⟨#[], #[.slice none 0 0], []⟩ 8 (by kernel_rfl) (by kernel_rfl) (by kernel_rfl)
      (x := ([.nil], [], [])) (by kernel_rfl) rfl (by kernel_rfl)) ?_
  intro W base args ds gs before hval hW _ hk _
  exact contract H enc W base args ds gs before hval hW hk

theorem over : Rows.octetWritesUptoRow.holds Try.pinned (Rows.OpenSpec.upto Rows.octetWritesSpec) :=
  OpenClaim.holds_of_cond 3 Try.f3 rfl rfl rfl rfl rfl rfl rfl ⟨rfl, rfl, rfl, rfl, rfl⟩ rfl rfl rfl rfl rfl (by kernel_rfl) Try.func3 (by kernel_rfl)
    (of_decide_eq_true (by kernel_rfl)) (by unfold Func.isWrapper; first | (rw [if_pos (by decide +kernel)]; kernel_rfl) | (rw [if_neg (by decide +kernel)]; exact ⟨rfl, rfl⟩))
    (fun os started H enc _ F => lifted os started H enc F)

/-- ████ THE STATEMENT ████ -/
theorem proved : Rows.OctetWritesUptoSaid :=
  over
#print axioms proved
end Go.Proofs.Ytgolffjiepcbpaa.octetWrites
