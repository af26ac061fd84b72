/- Prove, where a key or a depth may not be; climb, in the form that Node, Has, Lacks ask for. · A tree's own proof: Good, Node, Has, Lacks of it. · The walk of layer 14's laws' speaks. · The walk of a proof's Encode, where it is done. · slices.Chunk over texts, by two: the iterator's contract. · A plain header (a struct of two texts and three numbers) opened. No walk. -/
import Derived.Test.YtemndmhdlgfajaaDoorPrfV
import Derived.Test.YtemndmhdlgfajaaDoorHeaderCodesB5
import Derived.Test.YtemndmhdlgfajaaDoorHeaderCodesB1
import Derived.Test.YtemndmhdlgfajaaDoorHeaderCodesB2
import Derived.Test.YtemndmhdlgfajaaDoorBndJ
import Derived.Deep.Slices
import Derived.Deep.Fields
import Derived.Deep.Strs
namespace Go.Proofs.YtemndmhdlgfajaaDoor
open Go.RowKit Go.Maps
attribute [local irreducible] shaL

theorem rest_eq (M : List PairS) (key : ByteArray) (d : Nat) (hd : d ≤ 128) : restT M key d = startM M key (d + (wayT M key d).length) := rest_start M key (128 - d) d
theorem restT_few {M : List PairS} (hone : M.Pairwise (fun p q => p.1 ≠ q.1)) (h16 : ∀ x ∈ M, x.1.size = 16) (key : ByteArray) (d : Nat) (hd : d ≤ 128) : (restT M key d).length ≤ 1 := rest_few key (128 - d) d _ (by omega) (start_alike hone h16 key d)
theorem wayT_len (M : List PairS) (key : ByteArray) (d : Nat) (hd : d ≤ 128) : d + (wayT M key d).length ≤ 128 := by
  have := way_len key (128 - d) d (startM M key d)
  show d + (wayB key (128 - d) (startM M key d) d).length ≤ 128
  omega
theorem belowB_self (k : ByteArray) (d : Nat) : belowB k k d = true := (belowB_iff k k d).2 fun _ _ => rfl
/-- who is at the way's end: the key's own leaf, or another one's, or none -/
theorem rest_has {M : List PairS} (hone : M.Pairwise (fun p q => p.1 ≠ q.1)) (h16 : ∀ x ∈ M, x.1.size = 16) (key : ByteArray) (d : Nat) (hd : d ≤ 128) :
    (decide (restT M key d ≠ []) && decide (keyOf (restT M key d) = key)) = hasM M key ∧ (hasM M key = true → valOf (restT M key d) = valM M key) := by
  have hf := restT_few hone h16 key d hd
  have he := rest_eq M key d hd
  match hr : restT M key d, hf with
  | [], _ =>
    have hno : hasM M key = false := by
      rw [Bool.eq_false_iff]
      intro h
      obtain ⟨x, hx, hk⟩ := List.any_eq_true.1 h
      have hk' : x.1 = key := by simpa using hk
      have : x ∈ startM M key (d + (wayT M key d).length) := List.mem_filter.2 ⟨hx, by rw [hk']; exact belowB_self _ _⟩
      rw [← he, hr] at this
      cases this
    rw [hno]
    exact ⟨rfl, fun h => by cases h⟩
  | [x], _ =>
    have hx : x ∈ startM M key (d + (wayT M key d).length) := by rw [← he, hr]; exact List.mem_cons_self
    have hxM := (List.mem_filter.1 hx).1
    refine ⟨?_, fun h => ?_⟩
    · show decide (x.1 = key) = hasM M key
      rw [Bool.eq_iff_iff, decide_eq_true_iff]
      refine ⟨fun e => List.any_eq_true.2 ⟨x, hxM, by simpa using e⟩, fun h => ?_⟩
      obtain ⟨y, hy, hk⟩ := List.any_eq_true.1 h
      have hk' : y.1 = key := by simpa using hk
      have : y ∈ startM M key (d + (wayT M key d).length) := List.mem_filter.2 ⟨hy, by rw [hk']; exact belowB_self _ _⟩
      rw [← he, hr, List.mem_singleton] at this
      rw [← this]; exact hk'
    · obtain ⟨y, hy, hk⟩ := List.any_eq_true.1 h
      have hk' : y.1 = key := by simpa using hk
      have : y ∈ startM M key (d + (wayT M key d).length) := List.mem_filter.2 ⟨hy, by rw [hk']; exact belowB_self _ _⟩
      rw [← he, hr, List.mem_singleton] at this
      show x.2 = _
      rw [← this, ← hk', valM_mem hone y hy]
theorem goodT {M : List PairS} (hone : M.Pairwise (fun p q => p.1 ≠ q.1)) (h16 : ∀ x ∈ M, x.1.size = 16) (key : ByteArray) (d : Nat) (hd : d ≤ 128) : goodB (wayT M key d) (decide (restT M key d ≠ [])) (keyOf (restT M key d)) (valOf (restT M key d)) key d = true := way_good M key d hd hone h16
theorem end_leaf (l : List PairS) (h : l.length ≤ 1) : (if decide (l ≠ []) then leafS (keyOf l) (valOf l) else emptyS) = endS l := by
  match l, h with
  | [], _ => rfl
  | [x], _ => rfl
theorem climbT {M : List PairS} (hone : M.Pairwise (fun p q => p.1 ≠ q.1)) (h16 : ∀ x ∈ M, x.1.size = 16) (key : ByteArray) (d : Nat) (hd : d ≤ 128) : climbN key d (wayT M key d) (if decide (restT M key d ≠ []) then leafS (keyOf (restT M key d)) (valOf (restT M key d)) else emptyS) = nodeAt M key d := by
  rw [end_leaf _ (restT_few hone h16 key d hd)]
  exact way_climb key (128 - d) d _ (by omega) (start_alike hone h16 key d)
theorem tellsT {M : List PairS} (hone : M.Pairwise (fun p q => p.1 ≠ q.1)) (h16 : ∀ x ∈ M, x.1.size = 16) (key : ByteArray) (d : Nat) (hd : d ≤ 128) : tellsB (wayT M key d) (decide (restT M key d ≠ [])) (keyOf (restT M key d)) (valOf (restT M key d)) (nodeAt M key d) key d = true := by
  unfold tellsB
  rw [goodT hone h16 key d hd, climbT hone h16 key d hd]
  simp
theorem way_small (M : List PairS) (key : ByteArray) (d : Nat) : ∀ s ∈ wayT M key d, s.size ≤ 17 := by
  intro s hs
  have := way_nodes key (128 - d) d (startM M key d) s hs
  cases this
  · decide
  · rw [leafS_size]; omega
  · rw [bothS_size]; omega
theorem rest_size {M : List PairS} (hP : Plain M) (key : ByteArray) (d : Nat) (hd : d ≤ 128) (hv : ∀ x ∈ M, x.2.size ≤ 1000) : (keyOf (restT M key d)).size ≤ 1000 ∧ (valOf (restT M key d)).size ≤ 1000 := by
  have he := rest_eq M key d hd
  match hr : restT M key d with
  | [] => exact ⟨Nat.zero_le _, Nat.zero_le _⟩
  | x :: r =>
    have hx : x ∈ startM M key (d + (wayT M key d).length) := by rw [← he, hr]; exact List.mem_cons_self
    have hxM := (List.mem_filter.1 hx).1
    exact ⟨by show x.1.size ≤ 1000; rw [hP.k16 x hxM]; omega, hv x hxM⟩
/-- a tree's own proof for a key, from a depth on, in memory -/
structure OwnP (w : World) (bv : Value) (M : List PairS) (key : ByteArray) (d : Nat) : Prop where
  row : ∃ B, w.ownsRow B 9 1 bv (wayT M key d).length (strsV (wayT M key d))
  ready : ShaReady w
  plain : Plain M
  vals : ∀ x ∈ M, x.2.size ≤ 1000
  one : M.Pairwise (fun p q => p.1 ≠ q.1)
  k16 : key.size = 16
  d128 : d ≤ 128
theorem OwnP.grown {w w' : World} {bv : Value} {M : List PairS} {key : ByteArray} {d : Nat} (h : OwnP w bv M key d) (g : w.grownBy w' none) : OwnP w' bv M key d := by
  obtain ⟨B, hB⟩ := h.row
  exact ⟨⟨B, own_keep hB g (fun _ _ e => by cases e)⟩, h.ready.grown g, h.plain, h.vals, h.one, h.k16, h.d128⟩
theorem OwnP.strs {w : World} {bv : Value} {M : List PairS} {key : ByteArray} {d : Nat} (h : OwnP w bv M key d) : StrsAt w bv (wayT M key d) := by
  obtain ⟨B, hB⟩ := h.row
  obtain ⟨a, c, rfl⟩ := slice_own' hB
  exact strs_own hB
end Go.Proofs.YtemndmhdlgfajaaDoor

namespace Go.Proofs.YtemndmhdlgfajaaDoor
open Go.RowKit Go.Maps
attribute [local irreducible] shaL

theorem startM_zero (M : List PairS) (s : ByteArray) : startM M s 0 = M := List.filter_eq_self.2 (fun _ _ => rfl)
theorem rest_single (x : PairS) (key : ByteArray) : restT [x] key 0 = [x] ∧ wayT [x] key 0 = [] := by
  have h := wayT_end (M := [x]) (key := key) (d := 0) (by rw [startM_zero]; exact Nat.lt_succ_self 1)
  rw [startM_zero] at h
  exact ⟨h.2, h.1⟩
theorem node_single (x : PairS) (key : ByteArray) : nodeAt [x] key 0 = nodeN 128 [x] 0 := by
  unfold nodeAt
  rw [startM_zero]
theorem OwnP.form {w : World} {bv : Value} {M : List PairS} {key : ByteArray} {d : Nat} (h : OwnP w bv M key d) : ∃ a c, bv = .slice a (wayT M key d).length c := by
  obtain ⟨B, hB⟩ := h.row
  exact slice_own' hB
end Go.Proofs.YtemndmhdlgfajaaDoor

namespace Go.Proofs.YtemndmhdlgfajaaDoor
open Go.RowKit Go.Maps
attribute [local irreducible] shaL

theorem wr_num {w : World} {b : Nat} {ts : List ByteArray} (n : Nat) (hn : n < 256) (h : WrAt w b ⟨ts, 0⟩) (hr : total ts ≤ 1000000000) :
    Calls Tryd.prog 40 #[.pointer (some ⟨b, 0, none⟩), .int .u64 n, .int .i64 1] w fun e w' => e = .returned (.pointer (some ⟨b, 0, none⟩)) ∧ WrAt w' b ⟨str (be n 1) :: ts, 0⟩ ∧ w.grownBy w' (some b) := by
  refine (wnum_any n (by omega) 1 w (some ⟨b, 0, none⟩) (some ⟨ts, 0⟩) ⟨b, rfl, h⟩ (fun x e => by cases e; show 8 + total ts ≤ _; omega)).mono ?_
  rintro e w' ⟨rfl, hw, g⟩
  obtain ⟨b', e', hw⟩ := hw
  cases e'
  have e2 : (⟨ts, 0⟩ : WSt).num n 1 = ⟨str (be n 1) :: ts, 0⟩ := by
    unfold WSt.num
    rw [if_pos ⟨by omega, by omega, by show n < 256; exact hn⟩]
    rfl
  have hw : WrAt w' b ((⟨ts, 0⟩ : WSt).num n 1) := hw
  rw [e2] at hw
  exact ⟨rfl, hw, g⟩
theorem wr_text {w : World} {b : Nat} {ts : List ByteArray} (t : ByteArray) (ht : t.size ≤ 4096) (h : WrAt w b ⟨ts, 0⟩) (hr : total ts ≤ 1000000000) :
    Calls Tryd.prog 42 #[.pointer (some ⟨b, 0, none⟩), .string t] w fun e w' => e = .returned (.pointer (some ⟨b, 0, none⟩)) ∧ WrAt w' b ⟨t :: str (be t.size 2) :: ts, 0⟩ ∧ w.grownBy w' (some b) := by
  refine (wtext_any t (by unfold maxLen; omega) w (some ⟨b, 0, none⟩) (some ⟨ts, 0⟩) ⟨b, rfl, h⟩ (fun x e => by cases e; show 2 + t.size + total ts ≤ _; omega)).mono ?_
  rintro e w' ⟨rfl, hw, g⟩
  obtain ⟨b', e', hw⟩ := hw
  cases e'
  have e2 : (⟨ts, 0⟩ : WSt).text t = ⟨t :: str (be t.size 2) :: ts, 0⟩ := by
    unfold WSt.text
    rw [if_pos ht]
    rfl
  have hw : WrAt w' b ((⟨ts, 0⟩ : WSt).text t) := hw
  rw [e2] at hw
  exact ⟨rfl, hw, g⟩
theorem textsB_len : ∀ (M : List ByteArray), (∀ x ∈ M, x.size ≤ 4096) → (textsB M).length ≤ M.length * 4098
  | [], _ => Nat.zero_le _
  | x :: r, h => by
    have h1 := textsB_len r (fun y hy => h y (List.mem_cons_of_mem _ hy))
    have h2 := h x List.mem_cons_self
    show (textB x ++ textsB r).length ≤ _
    have h3 : (textB x).length = 2 + x.size := by unfold textB; rw [List.length_append, be_length]; rfl
    rw [List.length_append, h3, List.length_cons, Nat.succ_mul]
    omega
theorem flat_text (ts : List ByteArray) (t : ByteArray) : flat (t :: str (be t.size 2) :: ts) = flat ts ++ textB t := by
  show (flat ts ++ (str (be t.size 2)).data.toList) ++ t.data.toList = _
  rw [str_data, List.append_assoc]
  rfl
theorem flat_num (ts : List ByteArray) (n : Nat) : flat (str (be n 1) :: ts) = flat ts ++ be n 1 := by
  show flat ts ++ (str (be n 1)).data.toList = _
  rw [str_data]
end Go.Proofs.YtemndmhdlgfajaaDoor

namespace Go.Proofs.YtemndmhdlgfajaaDoor
open Go.RowKit Go.Shelf
attribute [local irreducible] shaL

theorem chunk_stops (F : Fence) (n : Nat) (h27 : F.fn 87) (hro : F.round = none) (hn : 1 ≤ n) (Bs n₀ nb m cw g o : Nat) (hm0 : 0 < m) (hlen : m ≤ 1000000) (hcw : 2 * m ≤ cw) (hBs : Bs + 1 < n₀) (hBn : Bs ≠ nb ∧ Bs + 1 ≠ nb) (w : World) (hn₀ : n₀ ≤ w.heap.size)
    (hBc : w.cell? ⟨Bs, 0, none⟩ = some (.slice (some ⟨g, o, none⟩) (2 * m) cw)) (hBd : w.cell? ⟨Bs + 1, 0, none⟩ = some (.int .i64 2)) :
    SeqStopsK F n Tryd.prog 87 #[.pointer (some ⟨Bs, 0, none⟩), .pointer (some ⟨Bs + 1, 0, none⟩)] (fun x => #[chunkV g o m x]) (Turn (butOne n₀ nb)) (fun ys => ys = List.range m) (fun pre => ∃ k, k < m ∧ pre = List.range (k + 1)) m w := fun l J Jx W hW hJ _ hY h0 => by
  have hc' := (hW.cell (p := ⟨Bs, 0, none⟩) (by show Bs < _; omega)).trans hBc
  have hd' := (hW.cell (p := ⟨Bs + 1, 0, none⟩) (by show Bs + 1 < _; omega)).trans hBd
  exact chunk1_in F n h27 hro hn l Bs n₀ nb m cw g o hm0 hlen hcw hBs hBn J Jx (fun s X h => hJ s X X.drew none h (grownBy_drew (World.grownBy.refl _ _)) (fun r e => by cases e)) hY W (Nat.le_trans hn₀ hW.size) hc' hd' h0
end Go.Proofs.YtemndmhdlgfajaaDoor

namespace Go.Proofs.YtemndmhdlgfajaaDoor
open Go.RowKit Go.ChangeShapes Go.WideShapes Go.Lib Go.Deep

section
variable {H : Type} {enc : TypeId × Value → H} {P : Program} {w : World} {base : Nat} {spare : Nat → Bool} {held : Bool}
theorem trod_struct5 {t : TypeId} {f0 f1 f2 f3 f4 : Field} {fuel : Nat} {cs : List Value} {x : DataW H × List MemPlace} (ht : P.underlying t = some (.struct #[f0, f1, f2, f3, f4])) (h : DataW.trod enc P w base spare held fuel t cs = some x) :
    ∃ y0 y1 y2 y3 y4 n, cs.length = P.cellsOf t ∧ DataW.trod enc P w base spare held n f0.type ((cs.drop f0.offset).take (P.cellsOf f0.type)) = some y0 ∧
      DataW.trod enc P w base spare held n f1.type ((cs.drop f1.offset).take (P.cellsOf f1.type)) = some y1 ∧ DataW.trod enc P w base spare held n f2.type ((cs.drop f2.offset).take (P.cellsOf f2.type)) = some y2 ∧
      DataW.trod enc P w base spare held n f3.type ((cs.drop f3.offset).take (P.cellsOf f3.type)) = some y3 ∧ DataW.trod enc P w base spare held n f4.type ((cs.drop f4.offset).take (P.cellsOf f4.type)) = some y4 := by
  obtain ⟨xs, n, _, rfl, hl, hlen, hf⟩ := DataW.trod_struct ht h
  match xs, hlen with
  | [y0, y1, y2, y3, y4], _ => exact ⟨y0, y1, y2, y3, y4, n, hl, by simpa using hf 0 f0 rfl, by simpa using hf 1 f1 rfl, by simpa using hf 2 f2 rfl, by simpa using hf 3 f3 rfl, by simpa using hf 4 f4 rfl⟩
end
theorem cellsHdr : Tryd.prog.cellsOf 24 = 5 := by kernel_rfl
set_option maxRecDepth 100000 in
theorem open_hdr {H : Type} {enc : TypeId × Value → H} {w : World} {base b0 : Nat} {r : Reach} {spare : Nat → Bool} {held : Bool} {v : Value} {d : DataW H} {p : List MemPlace}
    (hval : Value.okWide Tryd.prog w r b0 24 v) (h : DataW.Trod enc Tryd.prog w base spare held 24 v d p) : ∃ (e : Int) (P : ByteArray) (d a : Int) (N : ByteArray), v = .agg #[.int .u64 e, .string P, .int .i64 d, .int .i64 a, .string N] ∧ (0 ≤ e ∧ e ≤ 18446744073709551615) ∧ P.size ≤ maxLen ∧ (-9223372036854775808 ≤ d ∧ d ≤ 9223372036854775807) ∧ (-9223372036854775808 ≤ a ∧ a ≤ 9223372036854775807) ∧ N.size ≤ maxLen := by
  simp only [Value.okWide, Tryd.underlying24] at hval
  obtain ⟨cs, rfl, hsz, -⟩ := hval
  obtain ⟨fuel, hf⟩ := h
  obtain ⟨y0, y1, y2, y3, y4, n, hl, t0, t1, t2, t3, t4⟩ := trod_struct5 Tryd.underlying24 hf
  rw [cellsHdr] at hsz
  obtain ⟨l⟩ := cs
  match l, hsz with
  | [c0, c1, c2, c3, c4], _ =>
    obtain ⟨x0, e0, f0, w0⟩ := DataW.trod_int (t := 22) Tryd.underlying22 (show DataW.trod enc Tryd.prog w base spare held n 22 [c0] = some y0 from t0)
    obtain ⟨x1, e1, f1, w1⟩ := DataW.trod_string (t := 9) Tryd.underlying9 (show DataW.trod enc Tryd.prog w base spare held n 9 [c1] = some y1 from t1)
    obtain ⟨x2, e2, f2, w2⟩ := DataW.trod_int (t := 3) Tryd.underlying3 (show DataW.trod enc Tryd.prog w base spare held n 3 [c2] = some y2 from t2)
    obtain ⟨x3, e3, f3, w3⟩ := DataW.trod_int (t := 3) Tryd.underlying3 (show DataW.trod enc Tryd.prog w base spare held n 3 [c3] = some y3 from t3)
    obtain ⟨x4, e4, f4, w4⟩ := DataW.trod_string (t := 9) Tryd.underlying9 (show DataW.trod enc Tryd.prog w base spare held n 9 [c4] = some y4 from t4)
    simp only [List.cons.injEq, and_true] at e0 e1 e2 e3 e4
    subst e0 e1 e2 e3 e4
    have b0 : 0 ≤ x0 ∧ x0 ≤ 18446744073709551615 := by simpa [Lit.wf, IntKind.min, IntKind.max, IntKind.signed, IntKind.bits] using w0
    have b2 : -9223372036854775808 ≤ x2 ∧ x2 ≤ 9223372036854775807 := by simpa [Lit.wf, IntKind.min, IntKind.max, IntKind.signed, IntKind.bits] using w2
    have b3 : -9223372036854775808 ≤ x3 ∧ x3 ≤ 9223372036854775807 := by simpa [Lit.wf, IntKind.min, IntKind.max, IntKind.signed, IntKind.bits] using w3
    exact ⟨x0, x1, x2, x3, x4, rfl, b0, by simpa using w1, b2, b3, by simpa using w4⟩
end Go.Proofs.YtemndmhdlgfajaaDoor
