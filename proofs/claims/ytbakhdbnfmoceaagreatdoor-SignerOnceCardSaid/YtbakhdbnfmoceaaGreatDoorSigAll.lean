/- What a signer holds in memory; the walks of nextOf, Next, Public, reserve. · The walks of a signer's reserve and Sign. · The walk of a signer's Sign. · The walks of signer.Open, Public, and of no signer. · signer.Open of what may not be; the laws' speaks. · Signers where nothing fails. · The disk behind one record. · The walk of layer 11's laws' speaks. -/
import Derived.Test.YtbakhdbnfmoceaaGreatDoorLbRd
import Derived.Test.YtbakhdbnfmoceaaGreatDoorXmssBCV
import Derived.Test.YtbakhdbnfmoceaaGreatDoorOctetRE
import Derived.Deep.RegionHeld3
namespace Go.Proofs.YtbakhdbnfmoceaaGreatDoor
open Go.RowKit
attribute [local irreducible] shaL

theorem KeyAt.blk {w : World} {b : Nat} {seed : ByteArray} {h : Nat} (k : KeyAt w b seed h) : ∃ lg, KeyBlk w b seed h lg ∧ lg < w.heap.size := by
  obtain ⟨a, cap, h1, h2⟩ := k
  have hp : 0 < (leavesS seed h).length := by rw [leavesS_length]; exact Nat.pow_pos (by decide)
  obtain ⟨g, o, rfl, hc⟩ := h2.at_ 0 _ (List.getElem?_eq_getElem hp)
  exact ⟨g, ⟨o, cap, h1, h2⟩, cell_lt hc⟩
theorem KeyBlk.lt {w : World} {b : Nat} {seed : ByteArray} {h lg : Nat} (k : KeyBlk w b seed h lg) : b < w.heap.size ∧ lg < w.heap.size := by
  obtain ⟨lo, cap, h1, h2⟩ := k
  have hp : 0 < (leavesS seed h).length := by rw [leavesS_length]; exact Nat.pow_pos (by decide)
  obtain ⟨g, o, e, hc⟩ := h2.at_ 0 _ (List.getElem?_eq_getElem hp)
  cases e
  exact ⟨(Array.getElem?_eq_some_iff.1 h1).1, cell_lt hc⟩
theorem KeyBlk.turn {S : Nat → Prop} {w w' : World} {b : Nat} {seed : ByteArray} {h lg : Nat} (k : KeyBlk w b seed h lg) (t : Turn S w w') (hb : ¬ S b) (hl : ¬ S lg) : KeyBlk w' b seed h lg := by
  have hlt := k.lt
  obtain ⟨lo, cap, h1, a, c, e, hc⟩ := k
  refine ⟨lo, cap, t.heap h1 hb, a, c, e, fun i hi => ?_⟩
  obtain ⟨g, o, e2, h3⟩ := hc i hi
  refine ⟨g, o, e2, ?_⟩
  injection e with e1 _ _
  rw [e2] at e1
  cases e1
  rw [t.cell hlt.2 hl]
  exact h3
/-- block sg is a signer -/
structure SigMem (n0 : Nat) (X : List Nat) (w : World) (sg kb lg g b : Nat) (seed : ByteArray) (h : Nat) (B : BookS) (D : DiskS) (next : Nat) : Prop where
  blk : w.heap[sg]? = some (.cells #[.pointer (some ⟨kb, 0, none⟩), .pointer (some ⟨g, 0, none⟩), .int .i64 next] 63 (0, 0))
  key : KeyBlk w kb seed h lg
  book : KBook n0 (sg :: kb :: lg :: X) w g b B D
  own : n0 ≤ sg ∧ sg ∉ X ∧ sg ≠ kb ∧ sg ≠ lg

theorem snext_nil (w : World) : Calls Tryz.prog 10 #[.pointer none] w fun e w' => e = .returned (.int .i64 0) ∧ w = w' := by
  go_enter Tryz.func10, Tryz.ntmps10
  go_wp2_with fail
  go_ret
  exact ⟨rfl, rfl⟩
theorem snext_any (w : World) (sg : Nat) (a b : Value) (next : Nat) (h : w.heap[sg]? = some (.cells #[a, b, .int .i64 next] 63 (0, 0))) : Calls Tryz.prog 10 #[.pointer (some ⟨sg, 0, none⟩)] w fun e w' => e = .returned (.int .i64 next) ∧ w = w' := by
  have c2 := cell_of h 2
  simp at c2
  clear h
  go_enter Tryz.func10, Tryz.ntmps10
  go_wp2_with fail
  go_ret
  exact ⟨rfl, rfl⟩

def nextE (L : List ByteArray) : Int := match L.getLast? with
  | none => 0
  | some s => if s.size = 2 then 0 else 4
def nextN (L : List ByteArray) : Nat := match L.getLast? with
  | none => 0
  | some s => if s.size = 2 then val s.data.toList else 0
theorem num2 (s : ByteArray) (h : s.size = 2) : ((⟨s, 0⟩ : RSt).num 2).1 = val s.data.toList ∧ ((⟨s, 0⟩ : RSt).num 2).2.done = 0 := by
  unfold RSt.num
  rw [if_pos ⟨by decide, by decide⟩]
  unfold RSt.fixed
  rw [if_neg (by simp), if_neg (by decide), if_neg (by show ¬ ((s.size : Nat) : Int) < 2; omega)]
  constructor
  · show val (s.extract 0 2).data.toList = val s.data.toList
    rw [ByteArray.data_extract]
    congr 1
    have : s.data.size = 2 := h
    simp [← this]
    exact List.take_of_length_le (Nat.le_of_eq rfl)
  · show (⟨s.extract 2 s.size, 0⟩ : RSt).done = 0
    unfold RSt.done
    rw [if_neg]
    rintro ⟨_, h2⟩
    exact h2 (by show (s.extract 2 s.size).size = 0; rw [ByteArray.size_extract]; omega)
theorem num2_not (s : ByteArray) (h : s.size ≠ 2) : ((⟨s, 0⟩ : RSt).num 2).2.done ≠ 0 := by
  unfold RSt.num
  rw [if_pos ⟨by decide, by decide⟩]
  unfold RSt.fixed
  rw [if_neg (by simp), if_neg (by decide)]
  by_cases h2 : s.size < 2
  · rw [if_pos (by show ((s.size : Nat) : Int) < 2; omega)]
    show ((⟨s, 0⟩ : RSt).fail 3).done ≠ 0
    unfold RSt.fail RSt.done
    rw [if_pos rfl]
    show ¬ (if (3 : Int) = 0 ∧ s.size ≠ 0 then (2 : Int) else 3) = 0
    rw [if_neg (by rintro ⟨h, _⟩; cases h)]
    decide
  · rw [if_neg (by show ¬ ((s.size : Nat) : Int) < 2; omega)]
    show (⟨s.extract 2 s.size, 0⟩ : RSt).done ≠ 0
    unfold RSt.done
    rw [if_pos ⟨rfl, by show (s.extract 2 s.size).size ≠ 0; rw [ByteArray.size_extract]; omega⟩]
    decide

set_option maxRecDepth 100000 in
set_option maxHeartbeats 1600000 in
theorem nextOf_any (w : World) (v : Value) (L : List ByteArray) (hv : StrsAt w v L) (hl : L.length ≤ 1024) (hs : ∀ s ∈ L, s.size ≤ 100000) :
    Calls Tryz.prog 20 #[v] w fun e w' => e = .returned (.tuple #[.int .i64 (nextN L), .int .i64 (nextE L)]) ∧ w.grownBy w' none := by
  obtain ⟨a, c, rfl⟩ := hv.form
  by_cases h0 : L = []
  · subst h0
    go_enter Tryz.func20, Tryz.ntmps20
    go_wp2_with fail
    go_returns
    exact ⟨rfl, World.grownBy.refl _ _⟩
  · have hl1 : 1 ≤ L.length := by
      cases L with
      | nil => exact absurd rfl h0
      | cons a b => simp
    obtain ⟨s, hsl⟩ : ∃ s, L[L.length - 1]? = some s := ⟨_, List.getElem?_eq_getElem (by omega)⟩
    have hgl : L.getLast? = some s := by rw [List.getLast?_eq_getElem?]; exact hsl
    obtain ⟨g, o, rfl, hc⟩ := hv.at_ _ s hsl
    have hsz := hs s (List.mem_of_getElem? hsl)
    have hN : nextN L = if s.size = 2 then val s.data.toList else 0 := by unfold nextN; rw [hgl]
    have hE : nextE L = if s.size = 2 then 0 else 4 := by unfold nextE; rw [hgl]
    obtain ⟨NN, hNN⟩ : ∃ NN, nextN L = NN := ⟨_, rfl⟩
    obtain ⟨EE, hEE⟩ : ∃ EE, nextE L = EE := ⟨_, rfl⟩
    rw [hNN, hEE]
    have HNE := Lib.hid (And.intro (hNN.symm.trans hN) (hEE.symm.trans hE))
    clear hNN hEE
    have e1 : ((L.length : Int) == 0) = false := by simp; omega
    have e2 : (L.length : Int) - 1 = ((L.length - 1 : Nat) : Int) := by omega
    obtain ⟨k, hk⟩ : ∃ k, L.length - 1 = k := ⟨_, rfl⟩
    rw [hk] at e2 hc
    have e3 : (k : Int) < (L.length : Int) := by omega
    have e4 : (0 : Int) ≤ (k : Int) := by omega
    have e5 : (L.length : Int) ≤ 1024 := by omega
    have HC := Lib.hid hc
    have HSZ := Lib.hid hsz
    clear hv hs h0 hsl hgl hN hE hsz hk
    go_enter Tryz.func20, Tryz.ntmps20
    go_wp2_with fail
    refine (read_any s w).mono ?_
    rintro e w1 ⟨rfl, hrd, g1⟩
    have HRS : Hid (RsAt w1 (some ⟨w.heap.size, 0, none⟩) (some ⟨s, 0⟩)) := ⟨_, rfl, hrd⟩
    have HG1 := Lib.hid g1
    clear hrd g1
    go_wp2_with fail
    refine (rnum_any 2 w1 _ _ HRS.out (by rintro x ⟨⟩; show s.size ≤ _; unfold maxLen; have := HSZ.out; omega)).mono ?_
    rintro e w2 ⟨rfl, hrs, g2⟩
    have HR2 := Lib.hid hrs
    have HG2 := Lib.hid (grown_row HG1.out g2 (by intro x e; have : w.heap.size = x := by simpa [prow] using e
                                                  omega))
    clear hrs g2
    have HEN := Lib.hid (end_any w2 _ _ HR2.out)
    by_cases h2 : s.size = 2
    · have H2 := Lib.hid h2
      obtain ⟨n1, n2⟩ := num2 s h2
      have hz : ((Option.map (fun s => (RSt.num s 2).1) (some (⟨s, 0⟩ : RSt))).getD 0) = val s.data.toList := n1
      have hz2 : ((Option.map (fun s => RSt.done s) (Option.map (fun s => (RSt.num s 2).2) (some (⟨s, 0⟩ : RSt)))).getD 1) = 0 := n2
      rw [hz]
      rw [hz2] at HEN
      have hvl : val s.data.toList < 65536 := by
        have := val_lt s.data.toList
        rw [show s.data.toList.length = 2 from h2] at this
        exact this
      have hwr := wrap_i64_nat (val s.data.toList) (by omega)
      obtain ⟨V, hV⟩ : ∃ V, val s.data.toList = V := ⟨_, rfl⟩
      rw [hV] at hvl hwr ⊢
      have HVV := Lib.hid hV
      clear hV
      clear n1 n2 hz hz2 h2
      go_wp2_with fail
      refine HEN.out.mono ?_
      rintro e w3 ⟨rfl, rfl⟩
      go_wp2_with fail
      go_returns
      exact ⟨by rw [HNE.out.1, HNE.out.2, if_pos H2.out, if_pos H2.out, HVV.out]; rfl, HG2.out⟩
    · have H2 := Lib.hid h2
      have n2 := num2_not s h2
      have hvb := val_lt ((⟨s, 0⟩ : RSt).fixed 2).1.data.toList
      have hfz := fixed_size (⟨s, 0⟩ : RSt) 2
      obtain ⟨V, hV⟩ : ∃ V, ((Option.map (fun s => (RSt.num s 2).1) (some (⟨s, 0⟩ : RSt))).getD 0) = V := ⟨_, rfl⟩
      have hVb : V < 65536 := by
        rw [← hV]
        show ((⟨s, 0⟩ : RSt).num 2).1 < 65536
        unfold RSt.num
        rw [if_pos ⟨by decide, by decide⟩]
        have : ((⟨s, 0⟩ : RSt).fixed 2).1.data.toList.length ≤ 2 := hfz
        have := Nat.pow_le_pow_right (n := 256) (by decide) this
        show val ((⟨s, 0⟩ : RSt).fixed 2).1.data.toList < 65536
        omega
      rw [hV]
      obtain ⟨E, hE⟩ : ∃ E, ((Option.map (fun s => RSt.done s) (Option.map (fun s => (RSt.num s 2).2) (some (⟨s, 0⟩ : RSt)))).getD 1) = E := ⟨_, rfl⟩
      have hE0 : E ≠ 0 := by rw [← hE]; exact n2
      rw [hE] at HEN
      have hwr := wrap_i64_nat V (by omega)
      have hEb : (E != 0) = true := by simpa using hE0
      clear n2 h2 hvb hfz hV hE hE0
      go_wp2_with fail
      refine HEN.out.mono ?_
      rintro e w3 ⟨rfl, rfl⟩
      go_wp2_with fail
      go_returns
      exact ⟨by rw [HNE.out.1, HNE.out.2, if_neg H2.out, if_neg H2.out]; rfl, HG2.out⟩
end Go.Proofs.YtbakhdbnfmoceaaGreatDoor

namespace Go.Proofs.YtbakhdbnfmoceaaGreatDoor
open Go.RowKit
attribute [local irreducible] shaL

/-- an index, as a record -/
def idxS (n : Nat) : ByteArray := str (be n 2)
theorem idxS_size (n : Nat) : (idxS n).size = 2 := by unfold idxS; rw [str_size, be_length]
def reserveS (B : BookS) (D : DiskS) (n : Nat) : Int × BookS × DiskS := if (putS B D (idxS n)).1 = 9 then compactS B D (idxS n) else putS B D (idxS n)
theorem writes_err : ∀ (L : List ByteArray) (D : DiskS) (i : Nat), (writesS D i L).1 = 0 ∨ (writesS D i L).1 = 8
  | [], D, i => by rw [writesS]; split; exact .inr rfl; exact .inl rfl
  | s :: r, D, i => by
    rw [writesS]
    split
    · exact .inr rfl
    · exact writes_err r _ _
theorem lay_err (B : BookS) (D : DiskS) (p t : Nat) (L : List ByteArray) (u : Nat) (s : ByteArray) : (layS B D p t L u s).1 = 0 ∨ (layS B D p t L u s).1 = 8 := by
  unfold layS
  rcases writes_err (nextS t L.length s) D (B.first + p * B.size + u) with h | h
  · rw [if_pos h]
    exact .inl rfl
  · rw [if_neg (by rw [h]; decide)]
    exact .inr h
theorem put_full (B : BookS) (D : DiskS) (s : ByteArray) (h : (putS B D s).1 = 9) : putS B D s = (9, B, D) := by
  unfold putS at h ⊢
  by_cases ht : takesI B s ≠ 0
  · rw [if_pos ht] at h ⊢
    unfold takesI at h
    simp only at h
    split at h
    · cases h
    · split at h
      · cases h
      · cases h
  · rw [if_neg ht] at h ⊢
    split
    · rfl
    · rename_i hl
      rw [if_neg hl] at h
      rcases lay_err B D B.place (max B.turn 1) B.recs B.used s with h1 | h1
      · rw [h1] at h; cases h
      · rw [h1] at h; cases h

theorem sha_turn {S : Nat → Prop} {w w' : World} (h : ShaReady w) (t : Turn S w w') (hs : ¬ S 0) (hr : ¬ S 1) : ShaReady w' :=
  ⟨fun j v hv => by
    have h0 := h.s j v hv
    rw [t.cell h.lt.1 hs]
    exact h0, fun i hi => by
    rw [t.cell h.lt.2 hr]
    exact h.r i hi⟩
set_option maxRecDepth 100000 in
set_option maxHeartbeats 3200000 in
theorem sreserve_any (n0 N : Nat) (Y : List Nat) (w : World) (sg g b : Nat) (kv nv : Value) (B : BookS) (D : DiskS) (hS : w.heap[sg]? = some (.cells #[kv, .pointer (some ⟨g, 0, none⟩), nv] 63 (0, 0))) (hsY : sg ∈ Y) (hK : KBook n0 Y w g b B D) (hY : ∀ x ∈ Y, x < w.heap.size) (hn0 : n0 ≤ w.heap.size) (ho : BookOK N B) (hnl : D.last.length = N) (hon : D.on = true)
    (hwl : D.wait.length ≤ 100000000) (hf : D.fuse ≤ 9223372036854775807) (hk : D.keep.length ≤ 9223372036854775807) (hr : ShaReady w) (hsX : n0 ≤ 0 → False) (hrX : n0 ≤ 1 → False) (n : Nat) (hn : n ≤ 65535) :
    Calls Tryz.prog 25 #[.pointer (some ⟨sg, 0, none⟩), .int .i64 n] w fun e w' => e = .returned (.int .i64 (reserveS B D n).1) ∧ KBook n0 Y w' g b (reserveS B D n).2.1 (reserveS B D n).2.2 ∧ Turn (rest n0 Y) w w' := by
  have HPUT : Hid (∀ w', w.grownBy w' none → Calls Tryz.prog 18 #[.pointer (some ⟨g, 0, none⟩), .string (idxS n)] w' fun e w'' =>
      e = .returned (.int .i64 (putS B D (idxS n)).1) ∧ KBook n0 Y w'' g b (putS B D (idxS n)).2.1 (putS B D (idxS n)).2.2 ∧ Turn (rest n0 Y) w' w'') :=
    fun w' h => bput_any n0 N Y w' g b B D (hK.grown h) (fun x hx => Nat.lt_of_lt_of_le (hY x hx) h.size) (Nat.le_trans hn0 h.size) ho hnl hon hwl hf hk (idxS n) (by rw [idxS_size]; decide) (hr.grown h) hsX hrX
  have HCOM : Hid (∀ w', KBook n0 Y w' g b B D → w.heap.size ≤ w'.heap.size → ShaReady w' → Calls Tryz.prog 48 #[.pointer (some ⟨g, 0, none⟩), .string (idxS n)] w' fun e w'' =>
      e = .returned (.int .i64 (compactS B D (idxS n)).1) ∧ KBook n0 Y w'' g b (compactS B D (idxS n)).2.1 (compactS B D (idxS n)).2.2 ∧ Turn (rest n0 Y) w' w'') :=
    fun w' h hs hr' => bcompact_any n0 N Y w' g b B D h (fun x hx => Nat.lt_of_lt_of_le (hY x hx) hs) (Nat.le_trans hn0 hs) ho hnl hon hwl hf hk (idxS n) (by rw [idxS_size]; decide) hr' hsX hrX
  have HFULL := Lib.hid (put_full B D (idxS n))
  have hRS : reserveS B D n = if (putS B D (idxS n)).1 = 9 then compactS B D (idxS n) else putS B D (idxS n) := rfl
  have hidx : str (flat [str (be n 2)]) = idxS n := by simp [flat, str, idxS]
  have HS := Lib.hid (And.intro hS (And.intro hsY hY))
  have HR := Lib.hid (And.intro hr (And.intro hsX hrX))
  have HN0 := Lib.hid hn0
  have HIZ := Lib.hid (idxS_size n)
  generalize idxS n = S at HPUT HCOM HFULL hRS hidx HIZ
  obtain ⟨P, hP⟩ : ∃ P, putS B D S = P := ⟨_, rfl⟩
  rw [hP] at HPUT HFULL hRS
  obtain ⟨C, hC⟩ : ∃ C, compactS B D S = C := ⟨_, rfl⟩
  rw [hC] at HCOM hRS
  have HRS := Lib.hid hRS
  have un := wrap_u64 n (by omega)
  have hsl : sg < w.heap.size := hY sg hsY
  have HSL := Lib.hid hsl
  clear hS hsY hK hY ho hnl hon hwl hf hk hr hsX hrX hRS hP hC hn0
  go_enter Tryz.func25, Tryz.ntmps25
  have hw0 := wfresh w
  go_wp2_with fail
  obtain ⟨w1, hW1⟩ : ∃ w1, w.alloc (.cells #[.pointer none, .int .i64 0, .int .i64 0] 100) = w1 := ⟨_, rfl⟩
  rw [hW1] at hw0 ⊢
  have hg1 : w.grownBy w1 none := by rw [← hW1]; exact World.grownBy_alloc _ _ _
  refine (wnum_at n 2 (by decide) (by decide) (by omega) (by omega) w1 w.heap.size [] hw0 (by decide)).mono ?_
  rintro e w2 ⟨rfl, h2, g2⟩
  have HG2 := Lib.hid (grown_row hg1 g2 (by intro x e; cases e; exact Nat.le_refl _))
  have hz2 : (str (be n 2)).size = 2 := by rw [str_size, be_length]
  have hby := bytes_ok w2 w.heap.size _ h2 (by rw [total_cons, hz2]; decide)
  rw [hidx] at hby
  have HBY := Lib.hid hby
  clear hby h2 g2 hw0 hg1 hW1 hz2 hidx
  go_wp2_with fail
  refine HBY.out.mono ?_
  rintro e w3 ⟨rfl, g3⟩
  have HG3 := Lib.hid (grownBy_trans HG2.out g3)
  have hs3 := HG3.out.heap HS.out.1 (by simp)
  have c1 := cell_of hs3 1
  simp at c1
  clear hs3 g3 HBY HG2
  go_wp2_with fail
  refine (HPUT.out _ HG3.out).mono ?_
  rintro e w4 ⟨rfl, hK4, t4⟩
  have HT4 := Lib.hid t4
  have HK4 := Lib.hid hK4
  have hs4 : w4.heap[sg]? = _ := t4.inX HS.out.2.1 (HG3.out.heap HS.out.1 (by simp))
  have d1 := cell_of hs4 1
  simp at d1
  clear hK4 t4 hs4 c1 HPUT
  by_cases h9 : P.1 = 9
  · have e9 : (P.1 == 9) = true := by simpa using h9
    have hrs := HRS.out
    rw [if_pos h9] at hrs
    have hfu := HFULL.out h9
    have hk4 := HK4.out
    rw [hfu] at hk4
    have hr4 : ShaReady w4 := by
      have h3 := HR.out.1.grown HG3.out
      have hl3 := h3.lt
      exact sha_turn h3 HT4.out (fun q => HR.out.2.1 q.1) (fun q => HR.out.2.2 q.1)
    have HCC := Lib.hid (HCOM.out w4 hk4 (Nat.le_trans HG3.out.size HT4.out.size) hr4)
    have HX := Lib.hid hrs
    clear hrs hfu hk4 hr4 h9 HCOM
    go_wp2_with fail
    refine HCC.out.mono ?_
    rintro e w5 ⟨rfl, hK5, t5⟩
    go_wp2_with fail
    go_ret
    exact ⟨by rw [HX.out]; rfl, by rw [HX.out]; exact hK5, (Turn.of_grown HG3.out).then (HT4.out.then t5)⟩
  · have e9 : (P.1 == 9) = false := by simpa using h9
    have hrs := HRS.out
    rw [if_neg h9] at hrs
    have HX := Lib.hid hrs
    clear hrs h9
    go_wp2_with fail
    go_ret
    exact ⟨by rw [HX.out]; rfl, by rw [HX.out]; exact HK4.out, (Turn.of_grown HG3.out).then HT4.out⟩
end Go.Proofs.YtbakhdbnfmoceaaGreatDoor

namespace Go.Proofs.YtbakhdbnfmoceaaGreatDoor
open Go.RowKit
attribute [local irreducible] shaL

/-- a book lies on where only blocks beside it turn -/
theorem KBook.beside {n0 : Nat} {X : List Nat} {S : Nat → Prop} {w w' : World} {g b : Nat} {B : BookS} {D : DiskS} (h : KBook n0 X w g b B D) (k : Turn S w w') (hS : ∀ i, i < w.heap.size → S i → i ∈ X) : KBook n0 X w' g b B D := by
  obtain ⟨rv, hm, h1, h2, h3, h4⟩ := h
  have hl := hm.lt
  refine ⟨rv, hm.turned k (fun q => h2 (hS _ hl.1 q)) (fun x e q => (h3 x e).2.1 (hS x (hl.2 x e) q)), h1, h2, h3, h4.turn k (fun i hi q => ?_)⟩
  exact List.mem_append_right _ (List.mem_cons_of_mem _ (hS i hi q))

set_option maxRecDepth 100000 in
set_option maxHeartbeats 1600000 in
theorem ssign_spent (n0 : Nat) (X : List Nat) (w : World) (sg kb lg g b : Nat) (seed m : ByteArray) (h N : Nat) (B : BookS) (D : DiskS) (next : Nat) (hM : SigMem n0 X w sg kb lg g b seed h B D next) (hN : 2 ^ h = N) (hs : N ≤ next) :
    Calls Tryz.prog 11 #[.pointer (some ⟨sg, 0, none⟩), .string m] w fun e w' => e = .returned (.tuple #[sigZ, .int .i64 11]) ∧ w.grownBy w' none := by
  have HB := Lib.hid hM.blk
  have HK := Lib.hid hM.key
  have HN := Lib.hid hN
  have c0 := cell_of HB.out 0
  have c2 := cell_of HB.out 2
  simp at c0 c2
  have hge : (N : Int) ≤ (next : Int) := by omega
  clear hM hN hs
  go_enter Tryz.func11, Tryz.ntmps11
  go_wp2_with fail
  have hg0 : w.grownBy (w.alloc (.cells #[.int .i64 0, .slice none 0 0, .slice none 0 0] 40)) none := World.grownBy_alloc _ _ _
  have hzc : (w.alloc (.cells #[.int .i64 0, .slice none 0 0, .slice none 0 0] 40)).heap[w.heap.size]? = some (.cells #[.int .i64 0, .slice none 0 0, .slice none 0 0] 40 (0, 0)) := heap_alloc_at _ _ _ rfl
  generalize w.alloc (.cells #[.int .i64 0, .slice none 0 0, .slice none 0 0] 40) = wz at hg0 hzc ⊢
  have HG0 := Lib.hid hg0
  have HZ := Lib.hid hzc
  have c0 := hg0.cell c0 (by simp)
  have c2 := hg0.cell c2 (by simp)
  have hcount : Hid (∀ w', wz.grownBy w' none → Calls Tryz.prog 24 #[.pointer (some ⟨kb, 0, none⟩)] w' fun e w'' => e = .returned (.int .i64 N) ∧ w' = w'') := fun w' k => count_any kb seed h N HN.out w' (HK.out.at_.grown (grownBy_trans HG0.out k))
  clear hg0 hzc
  go_region_held3 (fun w' => w'.cell? ⟨sg, 0, none⟩ = some (.pointer (some ⟨kb, 0, none⟩)) ∧ w'.cell? ⟨sg, 2, none⟩ = some (.int .i64 next)) (first | exact ck | exact ⟨c0, c2⟩)
    ((go_at_call 24; (with_reducible refine (hcount.out _ (grownBy_drew (World.grownBy.refl _ _))).mono ?_); rintro e w6 ⟨rfl, rfl⟩; have ck := And.intro c0 c2))
  have z0 := cell_of HZ.out 0
  have z1 := cell_of HZ.out 1
  have z2 := cell_of HZ.out 2
  have f0 := free_of HZ.out 0
  have f1 := free_of HZ.out 1
  have f2 := free_of HZ.out 2
  simp at z0 z1 z2
  go_wp2_with fail
  have hW := heap_setCell (heap_setCell (heap_setCell HZ.out 0 (.int .i64 0)) 1 (.slice none 0 0)) 2 (.slice none 0 0)
  have hWg : w.grownBy (((wz.setCell ⟨w.heap.size, 0, none⟩ (.int .i64 0)).setCell ⟨w.heap.size, 1, none⟩ (.slice none 0 0)).setCell ⟨w.heap.size, 2, none⟩ (.slice none 0 0)) none := grownBy_setNew (grownBy_setNew (grownBy_setNew HG0.out (Nat.le_refl _) 0 _) (Nat.le_refl _) 1 _) (Nat.le_refl _) 2 _
  generalize ((wz.setCell ⟨w.heap.size, 0, none⟩ (.int .i64 0)).setCell ⟨w.heap.size, 1, none⟩ (.slice none 0 0)).setCell ⟨w.heap.size, 2, none⟩ (.slice none 0 0) = wf at hW hWg ⊢
  have y0 : wf.drew.cell? ⟨w.heap.size, 0, none⟩ = _ := cell_of hW 0
  have y1 : wf.drew.cell? ⟨w.heap.size, 1, none⟩ = _ := cell_of hW 1
  have y2 : wf.drew.cell? ⟨w.heap.size, 2, none⟩ = _ := cell_of hW 2
  simp at y0 y1 y2
  refine bodyPost_ret (by simp [results, Tryz.results11, go_sem, y0, y1, y2]; try rfl) rfl ?_
  exact ⟨rfl, grownBy_drew hWg⟩

/-- other blocks of the caller's own, new ones among them -/
theorem KBook.more {n0 : Nat} {X Y : List Nat} {w w' : World} {g b : Nat} {B : BookS} {D : DiskS} (h : KBook n0 X w g b B D) (k : w.grownBy w' none) (hY : ∀ i ∈ Y, i ∈ X ∨ w.heap.size ≤ i) : KBook n0 Y w' g b B D := by
  obtain ⟨rv, hm, h1, h2, h3, h4⟩ := h
  have hl := hm.lt
  refine ⟨rv, hm.grown k, h1, fun q => ?_, fun x e => ⟨(h3 x e).1, fun q => ?_, (h3 x e).2.2⟩, h4.more k (fun i hi => ?_)⟩
  · rcases hY g q with q | q
    · exact h2 q
    · have := hl.1; omega
  · rcases hY x q with q | q
    · exact (h3 x e).2.1 q
    · have := hl.2 x e; omega
  · simp only [List.mem_append, List.mem_cons] at hi ⊢
    rcases hi with hi | hi | hi
    · exact .inl (.inl hi)
    · exact .inl (.inr (.inl hi))
    · rcases hY i hi with q | q
      · exact .inl (.inr (.inr q))
      · exact .inr q

theorem turn_set3 (w : World) (k : Nat) (a b c : Value) : Turn (fun i => i = k) w (((w.setCell ⟨k, 0, none⟩ a).setCell ⟨k, 1, none⟩ b).setCell ⟨k, 2, none⟩ c) :=
  Turn.setCell (Turn.setCell (Turn.setCell (Turn.refl (fun i => i = k) w) (fun _ => rfl) 0 a) (fun _ => rfl) 1 b) (fun _ => rfl) 2 c
theorem turn_set1 (w : World) (k o : Nat) (a : Value) : Turn (fun i => i = k) w (w.setCell ⟨k, o, none⟩ a) := Turn.setCell (Turn.refl (fun i => i = k) w) (fun _ => rfl) o a
/-- texts do not lie in a block that holds none -/
theorem StrsAt.off {w w' : World} {v : Value} {L : List ByteArray} {k : Nat} {t : TypeId} {q : Nat × Nat} (h : StrsAt w v L) (hb : w.heap[k]? = some (.cells #[.int .i64 0, .slice none 0 0, .slice none 0 0] t q)) (r : Turn (fun i => i = k) w w') : StrsAt w' v L := by
  obtain ⟨a, c, e, hc⟩ := h
  refine ⟨a, c, e, fun i hi => ?_⟩
  obtain ⟨g, o, e2, h3⟩ := hc i hi
  refine ⟨g, o, e2, ?_⟩
  by_cases hg : g = k
  · subst hg
    exfalso
    have h4 := (cell_of hb (o + i)).symm.trans h3
    have ho : o + i = 0 ∨ o + i = 1 ∨ o + i = 2 := by
      have hlt := (List.getElem?_eq_some_iff.1 (by simpa using h4 : ([Value.int .i64 0, .slice none 0 0, .slice none 0 0] : List Value)[o + i]? = some (.string _))).1
      simp at hlt; omega
    rcases ho with ho | ho | ho <;> rw [ho] at h4 <;> simp at h4
  · rw [r.cell (cell_lt h3) hg]
    exact h3
set_option maxRecDepth 100000 in
set_option maxHeartbeats 3200000 in
/-- Sign, and where its texts lie -/
theorem ssign_full (n0 M : Nat) (X : List Nat) (w : World) (sg kb lg g b : Nat) (seed m : ByteArray) (h : Nat) (B : BookS) (D : DiskS) (next : Nat) (hM : SigMem n0 X w sg kb lg g b seed h B D next) (hh : h ≤ 6) (hs : next < 2 ^ h)
    (hX : ∀ x ∈ X, x < w.heap.size) (hn0 : n0 ≤ w.heap.size) (ho : BookOK M B) (hnl : D.last.length = M) (hon : D.on = true)
    (hwl : D.wait.length ≤ 100000000) (hf : D.fuse ≤ 9223372036854775807) (hk : D.keep.length ≤ 9223372036854775807) (hr : ShaReady w) (hsX : n0 ≤ 0 → False) (hrX : n0 ≤ 1 → False)
    (hss : seed.size ≤ 1000000000000) (hms : m.size ≤ 1000000000000) :
    Calls Tryz.prog 11 #[.pointer (some ⟨sg, 0, none⟩), .string m] w fun e w' => Turn (rest n0 X) w w' ∧
      (((reserveS B D (next + 1)).1 ≠ 0 ∧ e = .returned (.tuple #[sigZ, .int .i64 (reserveS B D (next + 1)).1]) ∧ SigMem n0 X w' sg kb lg g b seed h (reserveS B D (next + 1)).2.1 (reserveS B D (next + 1)).2.2 next)
      ∨ ((reserveS B D (next + 1)).1 = 0 ∧ ∃ c p, e = .returned (.tuple #[sigV next c p, .int .i64 0]) ∧ StrsAt w' c (chainsS seed next m) ∧ StrsAt w' p (pathS h (leavesS seed h) next) ∧ SigMem n0 (ownB c ++ ownB p ++ X) w' sg kb lg g b seed h (reserveS B D (next + 1)).2.1 (reserveS B D (next + 1)).2.2 (next + 1) ∧ (∀ i, i ∈ ownB c → w.heap.size ≤ i) ∧ (∀ i, i ∈ ownB p → w.heap.size ≤ i))) := by
  obtain ⟨N, hN⟩ : ∃ N, 2 ^ h = N := ⟨_, rfl⟩
  have hN64 : N ≤ 64 := by rw [← hN]; exact pow_le64 h hh
  have hlt : next < N := by omega
  have HB := Lib.hid hM.blk
  have HK := Lib.hid hM.key
  have HBK := Lib.hid hM.book
  have HO := Lib.hid hM.own
  have HN := Lib.hid hN
  have hsz : sg < w.heap.size ∧ kb < w.heap.size ∧ lg < w.heap.size := ⟨(Array.getElem?_eq_some_iff.1 hM.blk).1, hM.key.lt.1, hM.key.lt.2⟩
  have HSZ := Lib.hid hsz
  obtain ⟨Y, hY⟩ : ∃ Y, w.heap.size :: sg :: kb :: lg :: X = Y := ⟨_, rfl⟩
  have HY : Hid (w.heap.size ∈ Y ∧ sg ∈ Y ∧ kb ∈ Y ∧ lg ∈ Y ∧ (∀ x ∈ X, x ∈ Y) ∧ (∀ x ∈ Y, x = w.heap.size ∨ x ∈ sg :: kb :: lg :: X)) := by
    subst hY
    exact Lib.hid ⟨by simp, by simp, by simp, by simp, fun x hx => by simp [hx], fun x hx => by simpa using hx⟩
  have HRES : Hid (∀ wz w', w.grownBy wz none → wz.heap[w.heap.size]? = some (.cells #[.int .i64 0, .slice none 0 0, .slice none 0 0] 40 (0, 0)) → wz.grownBy w' none → Calls Tryz.prog 25 #[.pointer (some ⟨sg, 0, none⟩), .int .i64 ((next + 1 : Nat) : Int)] w' fun e w'' => e = .returned (.int .i64 (reserveS B D (next + 1)).1) ∧ KBook n0 Y w'' g b (reserveS B D (next + 1)).2.1 (reserveS B D (next + 1)).2.2 ∧ Turn (rest n0 Y) w' w'') := Lib.hid (fun wz w' k1 kz k2 => by
    have k := grownBy_trans k1 k2
    refine sreserve_any n0 M Y w' sg g b _ _ B D (k.heap HB.out (by simp)) HY.out.2.1 (HBK.out.more k (fun i hi => ?_)) (fun x hx => ?_) (Nat.le_trans hn0 k.size) ho hnl hon hwl hf hk (hr.grown k) hsX hrX (next + 1) (by omega)
    · rcases HY.out.2.2.2.2.2 i hi with q | q
      · exact .inr (by omega)
      · exact .inl q
    · rcases HY.out.2.2.2.2.2 x hx with q | q
      · subst q
        exact Nat.lt_of_lt_of_le (Array.getElem?_eq_some_iff.1 kz).1 k2.size
      · simp only [List.mem_cons] at q
        rcases q with rfl | rfl | rfl | q
        · exact Nat.lt_of_lt_of_le hsz.1 k.size
        · exact Nat.lt_of_lt_of_le hsz.2.1 k.size
        · exact Nat.lt_of_lt_of_le hsz.2.2 k.size
        · exact Nat.lt_of_lt_of_le (hX x q) k.size)
  have HSH := Lib.hid (And.intro hr (And.intro hsX hrX))
  have HXW := Lib.hid (And.intro hX hn0)
  have HSS := Lib.hid (And.intro hss hms)
  have HHH := Lib.hid (And.intro hh hs)
  generalize reserveS B D (next + 1) = R at HRES ⊢
  have c0 := cell_of HB.out 0
  have c2 := cell_of HB.out 2
  simp at c0 c2
  have hge : ¬ (N : Int) ≤ (next : Int) := by omega
  have hplus : (next : Int) + 1 = ((next + 1 : Nat) : Int) := by omega
  obtain ⟨n1, hn1⟩ : ∃ n1, next + 1 = n1 := ⟨_, rfl⟩
  rw [hn1] at HRES hplus ⊢
  have hn1s : n1 ≤ 64 := by omega
  clear hM hN hs hh hX hn0 ho hnl hon hwl hf hk hr hsX hrX hss hms hsz hY
  go_enter Tryz.func11, Tryz.ntmps11
  go_wp2_with fail
  have hg0 : w.grownBy (w.alloc (.cells #[.int .i64 0, .slice none 0 0, .slice none 0 0] 40)) none := World.grownBy_alloc _ _ _
  have hzc : (w.alloc (.cells #[.int .i64 0, .slice none 0 0, .slice none 0 0] 40)).heap[w.heap.size]? = some (.cells #[.int .i64 0, .slice none 0 0, .slice none 0 0] 40 (0, 0)) := heap_alloc_at _ _ _ rfl
  generalize w.alloc (.cells #[.int .i64 0, .slice none 0 0, .slice none 0 0] 40) = wz at hg0 hzc ⊢
  have HG0 := Lib.hid hg0
  have HZ := Lib.hid hzc
  have c0 := hg0.cell c0 (by simp)
  have c2 := hg0.cell c2 (by simp)
  have hcount : Hid (∀ w', wz.grownBy w' none → Calls Tryz.prog 24 #[.pointer (some ⟨kb, 0, none⟩)] w' fun e w'' => e = .returned (.int .i64 N) ∧ w' = w'') := fun w' k => count_any kb seed h N HN.out w' (HK.out.at_.grown (grownBy_trans HG0.out k))
  clear hg0 hzc
  go_region_held3 (fun w' => w'.cell? ⟨sg, 0, none⟩ = some (.pointer (some ⟨kb, 0, none⟩)) ∧ w'.cell? ⟨sg, 2, none⟩ = some (.int .i64 next)) (first | exact ck | exact ⟨c0, c2⟩)
    ((go_at_call 24; (with_reducible refine (hcount.out _ (grownBy_drew (World.grownBy.refl _ _))).mono ?_); rintro e w6 ⟨rfl, rfl⟩; have ck := And.intro c0 c2))
  go_wp2_with fail
  refine (HRES.out wz _ HG0.out HZ.out (grownBy_drew (World.grownBy.refl _ _))).mono ?_
  rintro e w5 ⟨rfl, hK5, t5⟩
  have t5' : Turn (rest n0 Y) w w5 := (Turn.of_grown (grownBy_trans HG0.out (grownBy_drew (World.grownBy.refl _ _)))).then t5
  have T5 := Lib.hid t5'
  have hz5 : w5.heap[w.heap.size]? = _ := t5.inX HY.out.1 HZ.out
  have hb5 : w5.heap[sg]? = _ := t5'.inX HY.out.2.1 HB.out
  have HZ5 := Lib.hid hz5
  have HB5 := Lib.hid hb5
  have HK5 := Lib.hid (HK.out.turn t5' (fun q => q.2 HY.out.2.2.1) (fun q => q.2 HY.out.2.2.2.1))
  have HBK5 := Lib.hid hK5
  have z0 := cell_of hz5 0
  have z1 := cell_of hz5 1
  have z2 := cell_of hz5 2
  have f0 := free_of hz5 0
  have f1 := free_of hz5 1
  have f2 := free_of hz5 2
  have d0 := cell_of hb5 0
  have d2 := cell_of hb5 2
  have g2 := free_of hb5 2
  simp at z0 z1 z2 d0 d2
  have HSW : Hid (w.heap.size ≠ sg ∧ w.heap.size ≠ kb ∧ w.heap.size ≠ lg) := Lib.hid (by have := HSZ.out; omega)
  clear t5 t5' hz5 hb5 hK5 hcount HRES c0 c2 HZ
  by_cases hR0 : R.1 = 0
  · have e1 : (R.1 == 0) = true := by simpa using hR0
    have e2 : (R.1 != 0) = false := by simpa using hR0
    have HR0 := Lib.hid hR0
    clear hR0
    go_wp2_with fail
    have h6 : Turn (fun i => i = sg) w5 (w5.setCell ⟨sg, 2, none⟩ (.int .i64 n1)) := turn_set1 _ _ _ _
    have hb6 : (w5.setCell ⟨sg, 2, none⟩ (.int .i64 n1)).heap[sg]? = _ := heap_setCell HB5.out 2 (.int .i64 n1)
    have hk6 := HK5.out.turn h6 (fun q => HO.out.2.2.1 q.symm) (fun q => HO.out.2.2.2 q.symm)
    have hz6 := h6.heap HZ5.out (fun q => HSW.out.1 q)
    have hbk6 := HBK5.out.beside h6 (fun i _ q => by rw [q]; exact HY.out.2.1)
    have hr6 : ShaReady (w5.setCell ⟨sg, 2, none⟩ (.int .i64 n1)) := sha_turn (sha_turn HSH.out.1 T5.out (fun q => HSH.out.2.1 q.1) (fun q => HSH.out.2.2 q.1)) h6 (fun q => HSH.out.2.1 (by rw [q]; exact HO.out.1)) (fun q => HSH.out.2.2 (by rw [q]; exact HO.out.1))
    have T6 := Lib.hid ((rest_mono HY.out.2.2.2.2.1 T5.out).trans h6 (fun i _ q => by rw [q]; exact ⟨HO.out.1, HO.out.2.1⟩))
    generalize w5.setCell ⟨sg, 2, none⟩ (.int .i64 n1) = w6 at *
    refine (xsign_new kb seed m h next HHH.out.1 HHH.out.2 HSS.out.1 HSS.out.2 w6 hk6.at_ hr6).mono ?_
    rintro e w7 ⟨c, p, rfl, hc7, hp7, hcn, hpn, k7⟩
    obtain ⟨ca, cc, rfl⟩ := hc7.form
    obtain ⟨pa, pc, rfl⟩ := hp7.form
    have hz7 := k7.heap hz6 (by simp)
    have z0 := cell_of hz7 0
    have z1 := cell_of hz7 1
    have z2 := cell_of hz7 2
    have f0 := free_of hz7 0
    have f1 := free_of hz7 1
    have f2 := free_of hz7 2
    simp at z0 z1 z2
    have HC7 := Lib.hid hc7
    have HP7 := Lib.hid hp7
    have HZ7 := Lib.hid hz7
    have HK7 := Lib.hid k7
    have HB6 := Lib.hid hb6
    have HKK6 := Lib.hid hk6
    have HBK6 := Lib.hid hbk6
    have hbk7 : KBook n0 (ownB (.slice ca (chainsS seed next m).length cc) ++ ownB (.slice pa (pathS h (leavesS seed h) next).length pc) ++ Y) w7 g b R.2.1 R.2.2 := hbk6.more k7 (fun i hi => by
      simp only [List.mem_append] at hi
      rcases hi with (hi | hi) | hi
      · exact .inr (hcn i (ownB_mem.1 hi))
      · exact .inr (hpn i (ownB_mem.1 hi))
      · exact .inl hi)
    have hXL : (∀ i, i ∈ ownB (.slice ca (chainsS seed next m).length cc) → w6.heap.size ≤ i) ∧ (∀ i, i ∈ ownB (.slice pa (pathS h (leavesS seed h) next).length pc) → w6.heap.size ≤ i) := ⟨fun i hi => hcn i (ownB_mem.1 hi), fun i hi => hpn i (ownB_mem.1 hi)⟩
    have HXL := Lib.hid hXL
    have HBK7 := Lib.hid hbk7
    have HSG6 : Hid (sg < w6.heap.size) := Lib.hid (Array.getElem?_eq_some_iff.1 hb6).1
    clear hc7 hp7 hz7 k7 hb6 hk6 hbk6 hz6 hr6 h6 hbk7 hXL hcn hpn
    generalize (chainsS seed next m).length = cn at *
    generalize (pathS h (leavesS seed h) next).length = pn at *
    unfold sigV
    go_wp2_with fail
    have hW := heap_setCell (heap_setCell (heap_setCell HZ7.out 0 (.int .i64 next)) 1 (.slice ca cn cc)) 2 (.slice pa pn pc)
    have hWg := turn_set3 w7 w.heap.size (.int .i64 next) (.slice ca cn cc) (.slice pa pn pc)
    generalize ((w7.setCell ⟨w.heap.size, 0, none⟩ (.int .i64 next)).setCell ⟨w.heap.size, 1, none⟩ (.slice ca cn cc)).setCell ⟨w.heap.size, 2, none⟩ (.slice pa pn pc) = wf at hW hWg ⊢
    have y0 := cell_of hW 0
    have y1 := cell_of hW 1
    have y2 := cell_of hW 2
    simp at y0 y1 y2
    refine bodyPost_ret (by simp [results, Tryz.results11, go_sem, y0, y1, y2]; try rfl) rfl ?_
    have hgo : Turn (fun i => i = w.heap.size) w6 wf := (Turn.of_grown HK7.out).then hWg
    refine ⟨T6.out.trans hgo (fun i hi q => absurd hi (by rw [q]; exact Nat.lt_irrefl _)), .inr ⟨HR0.out, _, _, rfl, HC7.out.off HZ7.out hWg, HP7.out.off HZ7.out hWg, ⟨hgo.heap HB6.out (fun q => HSW.out.1 q.symm), HKK6.out.turn hgo (fun q => HSW.out.2.1 q.symm) (fun q => HSW.out.2.2 q.symm), ?_, ?_⟩, fun i hi => Nat.le_trans T6.out.size (HXL.out.1 i hi), fun i hi => Nat.le_trans T6.out.size (HXL.out.2 i hi)⟩⟩
    · refine (HBK7.out.beside hWg (fun i _ q => by rw [q]; exact List.mem_append_right _ HY.out.1)).more (World.grownBy.refl _ _) (fun i hi => .inl ?_)
      simp only [List.mem_cons, List.mem_append] at hi ⊢
      rcases hi with rfl | rfl | rfl | q | q
      · exact .inr HY.out.2.1
      · exact .inr HY.out.2.2.1
      · exact .inr HY.out.2.2.2.1
      · exact .inl q
      · exact .inr (HY.out.2.2.2.2.1 i q)
    · refine ⟨HO.out.1, fun q => ?_, HO.out.2.2⟩
      simp only [List.mem_append] at q
      rcases q with (q | q) | q
      · exact absurd (HXL.out.1 _ q) (Nat.not_le_of_lt HSG6.out)
      · exact absurd (HXL.out.2 _ q) (Nat.not_le_of_lt HSG6.out)
      · exact HO.out.2.1 q
  · have e1 : (R.1 == 0) = false := by simpa using hR0
    have e2 : (R.1 != 0) = true := by simpa using hR0
    have HR0 := Lib.hid hR0
    clear hR0
    go_wp2_with fail
    have hW := heap_setCell (heap_setCell (heap_setCell HZ5.out 0 (.int .i64 0)) 1 (.slice none 0 0)) 2 (.slice none 0 0)
    have hWg : Turn (fun i => i = w.heap.size) w5 (((w5.setCell ⟨w.heap.size, 0, none⟩ (.int .i64 0)).setCell ⟨w.heap.size, 1, none⟩ (.slice none 0 0)).setCell ⟨w.heap.size, 2, none⟩ (.slice none 0 0)) := turn_set3 _ _ _ _ _
    generalize ((w5.setCell ⟨w.heap.size, 0, none⟩ (.int .i64 0)).setCell ⟨w.heap.size, 1, none⟩ (.slice none 0 0)).setCell ⟨w.heap.size, 2, none⟩ (.slice none 0 0) = wf at hW hWg ⊢
    have y0 := cell_of hW 0
    have y1 := cell_of hW 1
    have y2 := cell_of hW 2
    simp at y0 y1 y2
    refine bodyPost_ret (by simp [results, Tryz.results11, go_sem, y0, y1, y2]; try rfl) rfl ?_
    refine ⟨(rest_mono HY.out.2.2.2.2.1 T5.out).trans hWg (fun i hi q => absurd hi (by rw [q]; exact Nat.lt_irrefl _)), .inl ⟨HR0.out, rfl, ⟨hWg.heap HB5.out (fun q => HSW.out.1 q.symm), HK5.out.turn hWg (fun q => HSW.out.2.1 q.symm) (fun q => HSW.out.2.2 q.symm), ?_, HO.out⟩⟩⟩
    exact (HBK5.out.beside hWg (fun i _ q => by rw [q]; exact HY.out.1)).more (World.grownBy.refl _ _) (fun i hi => .inl (by
      simp only [List.mem_cons] at hi
      rcases hi with rfl | rfl | rfl | q
      · exact HY.out.2.1
      · exact HY.out.2.2.1
      · exact HY.out.2.2.2.1
      · exact HY.out.2.2.2.2.1 i q))
theorem ssign_any (n0 M : Nat) (X : List Nat) (w : World) (sg kb lg g b : Nat) (seed m : ByteArray) (h : Nat) (B : BookS) (D : DiskS) (next : Nat) (hM : SigMem n0 X w sg kb lg g b seed h B D next) (hh : h ≤ 6) (hs : next < 2 ^ h)
    (hX : ∀ x ∈ X, x < w.heap.size) (hn0 : n0 ≤ w.heap.size) (ho : BookOK M B) (hnl : D.last.length = M) (hon : D.on = true)
    (hwl : D.wait.length ≤ 100000000) (hf : D.fuse ≤ 9223372036854775807) (hk : D.keep.length ≤ 9223372036854775807) (hr : ShaReady w) (hsX : n0 ≤ 0 → False) (hrX : n0 ≤ 1 → False)
    (hss : seed.size ≤ 1000000000000) (hms : m.size ≤ 1000000000000) :
    Calls Tryz.prog 11 #[.pointer (some ⟨sg, 0, none⟩), .string m] w fun e w' => Turn (rest n0 X) w w' ∧
      (((reserveS B D (next + 1)).1 ≠ 0 ∧ e = .returned (.tuple #[sigZ, .int .i64 (reserveS B D (next + 1)).1]) ∧ SigMem n0 X w' sg kb lg g b seed h (reserveS B D (next + 1)).2.1 (reserveS B D (next + 1)).2.2 next)
      ∨ ((reserveS B D (next + 1)).1 = 0 ∧ ∃ c p, e = .returned (.tuple #[sigV next c p, .int .i64 0]) ∧ StrsAt w' c (chainsS seed next m) ∧ StrsAt w' p (pathS h (leavesS seed h) next) ∧ SigMem n0 (ownB c ++ ownB p ++ X) w' sg kb lg g b seed h (reserveS B D (next + 1)).2.1 (reserveS B D (next + 1)).2.2 (next + 1))) :=
  (ssign_full n0 M X w sg kb lg g b seed m h B D next hM hh hs hX hn0 ho hnl hon hwl hf hk hr hsX hrX hss hms).mono (by
    rintro e w' ⟨t, q | ⟨q, c, p, r1, r2, r3, r4, _⟩⟩
    · exact ⟨t, .inl q⟩
    · exact ⟨t, .inr ⟨q, c, p, r1, r2, r3, r4⟩⟩)
end Go.Proofs.YtbakhdbnfmoceaaGreatDoor

namespace Go.Proofs.YtbakhdbnfmoceaaGreatDoor
open Go.RowKit
attribute [local irreducible] shaL

theorem halfLoop_rec (turn : Nat) (secs : List ByteArray) : ∀ (f : Nat) (L : List ByteArray) (u : Nat), (∀ s ∈ L, s.size ≤ 900) → ∀ s ∈ (halfLoop turn secs f L u).1, s.size ≤ 900
  | 0, L, u, h => h
  | f + 1, L, u, h => by
    rw [halfLoop]
    split
    · cases e : readS turn L.length (secs.drop u) with
      | none => exact h
      | some s =>
        refine halfLoop_rec turn secs f (L ++ [s]) _ (fun x hx => ?_)
        rcases List.mem_append.1 hx with hx | hx
        · exact h x hx
        · rw [List.mem_singleton.1 hx]; exact (readS_size _ _ _ _ e).1
    · exact h
theorem halfS_rec (secs : List ByteArray) : ∀ s ∈ (halfS secs).recs, s.size ≤ 900 := by
  unfold halfS
  split
  · intro s hs; cases hs
  · split
    · intro s hs; cases hs
    · exact halfLoop_rec _ _ _ _ _ (fun s hs => by cases hs)
theorem pickS_rec (first size : Nat) (hs : Nat → HalfT) (k : Nat) (h : ∀ j, ∀ s ∈ (hs j).recs, s.size ≤ 900) : ∀ s ∈ (pickS first size hs k).recs, s.size ≤ 900 := by
  induction k with
  | zero => intro s hs; cases hs
  | succ k ih =>
    rw [pickS]
    split
    · exact h k
    · exact ih
theorem bookOf_rec (D : DiskS) (first size : Nat) : ∀ s ∈ (bookOf D first size).recs, s.size ≤ 900 := pickS_rec _ _ _ _ (fun _ => halfS_rec _)
theorem sign_nil (m : ByteArray) (w : World) : Calls Tryz.prog 11 #[.pointer none, .string m] w fun e w' => e = .returned (.tuple #[sigZ, .int .i64 1]) ∧ w.grownBy w' none := by
  go_enter Tryz.func11, Tryz.ntmps11
  go_wp2_with fail
  go_returns
  exact ⟨rfl, World.grownBy_alloc _ _ _⟩
theorem spublic_nil (w : World) : Calls Tryz.prog 8 #[.pointer none] w fun e w' => e = .returned (pubV ⟨#[]⟩ ⟨#[]⟩ 0) ∧ w.grownBy w' none := by
  go_enter Tryz.func8, Tryz.ntmps8
  go_wp2_with fail
  go_returns
  exact ⟨rfl, World.grownBy_alloc _ _ _⟩
theorem spublic_any (w : World) (sg kb lg : Nat) (gv nv : Value) (seed : ByteArray) (h : Nat) (hb : w.heap[sg]? = some (.cells #[.pointer (some ⟨kb, 0, none⟩), gv, nv] 63 (0, 0))) (hk : KeyBlk w kb seed h lg) :
    Calls Tryz.prog 8 #[.pointer (some ⟨sg, 0, none⟩)] w fun e w' => e = .returned (pubV (openS seed) (rootK seed h) h) ∧ w.grownBy w' none := by
  have c0 := cell_of hb 0
  have hlt : sg < w.heap.size := (Array.getElem?_eq_some_iff.1 hb).1
  simp at c0
  have HP := Lib.hid (fun w' (k : w.grownBy w' none) => xpublic_any kb seed h w' (hk.at_.grown k))
  clear hb hk
  go_enter Tryz.func8, Tryz.ntmps8
  have hg0 : w.grownBy (w.alloc (.cells #[.string ⟨#[]⟩, .string ⟨#[]⟩, .int .i64 0] 33)) none := World.grownBy_alloc _ _ _
  have hz0 : (w.alloc (.cells #[.string ⟨#[]⟩, .string ⟨#[]⟩, .int .i64 0] 33)).heap[w.heap.size]? = some (.cells #[.string ⟨#[]⟩, .string ⟨#[]⟩, .int .i64 0] 33 (0, 0)) := heap_alloc_at _ _ _ rfl
  have HG0 := Lib.hid hg0
  have HZ0 := Lib.hid hz0
  clear hg0 hz0
  go_wp2_with fail
  generalize w.alloc (.cells #[.string ⟨#[]⟩, .string ⟨#[]⟩, .int .i64 0] 33) = wz at *
  refine (HP.out wz HG0.out).mono ?_
  rintro e w1 ⟨rfl, g1⟩
  have hz1 := g1.heap HZ0.out (by simp)
  have HG1 := Lib.hid (grownBy_trans HG0.out g1)
  have z0 := cell_of hz1 0
  have z1 := cell_of hz1 1
  have z2 := cell_of hz1 2
  have f0 := free_of hz1 0
  have f1 := free_of hz1 1
  have f2 := free_of hz1 2
  simp at z0 z1 z2
  have HZ1 := Lib.hid hz1
  unfold pubV
  clear g1 hz1
  go_wp2_with fail
  have hW := heap_setCell (heap_setCell (heap_setCell HZ1.out 0 (.string (openS seed))) 1 (.string (rootK seed h))) 2 (.int .i64 h)
  have hWg : w.grownBy (((w1.setCell ⟨w.heap.size, 0, none⟩ (.string (openS seed))).setCell ⟨w.heap.size, 1, none⟩ (.string (rootK seed h))).setCell ⟨w.heap.size, 2, none⟩ (.int .i64 h)) none := grownBy_setNew (grownBy_setNew (grownBy_setNew HG1.out (Nat.le_refl _) 0 _) (Nat.le_refl _) 1 _) (Nat.le_refl _) 2 _
  generalize ((w1.setCell ⟨w.heap.size, 0, none⟩ (.string (openS seed))).setCell ⟨w.heap.size, 1, none⟩ (.string (rootK seed h))).setCell ⟨w.heap.size, 2, none⟩ (.int .i64 h) = wf at hW hWg ⊢
  have y0 := cell_of hW 0
  have y1 := cell_of hW 1
  have y2 := cell_of hW 2
  simp at y0 y1 y2
  refine bodyPost_ret (by simp [results, Tryz.results8, go_sem, y0, y1, y2]; try rfl) rfl ?_
  exact ⟨rfl, hWg⟩
/-- what Open tells of a book with the records L: a signer, or an error -/
theorem sopen_full (n0 : Nat) (X : List Nat) (n : Nat) (w : World) (b first count size : Nat) (D : DiskS) (seed : ByteArray) (h : Nat) (hh : h ≤ 6) (hss : seed.size ≤ 1000000000000) (hD : KDisk n0 X w b D) (hX : ∀ x ∈ X, x < w.heap.size) (hn0 : n0 ≤ w.heap.size) (hnl : D.last.length = n) (hn : n ≤ 1024) (h8 : 8 ≤ count) (hsz : count / 2 = size) (ha : first + count ≤ n) (hon : D.on = true) (hwl : D.wait.length ≤ 1000000000) (hr : ShaReady w) :
    Calls Tryz.prog 7 #[.pointer (some ⟨b, 0, none⟩), .int .i64 first, .int .i64 count, .string seed, .int .i64 h] w fun e w' => w.grownBy w' none ∧
      ((nextE (bookOf D first size).recs ≠ 0 ∧ e = .returned (.tuple #[.pointer none, .int .i64 (nextE (bookOf D first size).recs)]))
      ∨ (nextE (bookOf D first size).recs = 0 ∧ ∃ sg kb lg g, e = .returned (.tuple #[.pointer (some ⟨sg, 0, none⟩), .int .i64 0]) ∧ SigMem n0 X w' sg kb lg g b seed h (bookOf D first size) D (nextN (bookOf D first size).recs) ∧ w.heap.size ≤ sg ∧ w.heap.size ≤ kb ∧ w.heap.size ≤ lg)) := by
  have HR := Lib.hid hr
  have HKEY := Lib.hid (xnew_new seed h hh hss w hr)
  have HBK : Hid (∀ w' kb lg, w.grownBy w' none → KeyBlk w' kb seed h lg → w.heap.size ≤ lg → lg < kb → Calls Tryz.prog 17 #[.pointer (some ⟨b, 0, none⟩), .int .i64 first, .int .i64 count] w' fun e w'' => ∃ g, e = .returned (.tuple #[.pointer (some ⟨g, 0, none⟩), .int .i64 0]) ∧ KBook n0 (kb :: lg :: X) w'' g b (bookOf D first size) D ∧ w'.grownBy w'' none) := Lib.hid (fun w' kb lg k hk h1 h2 => by
    have hl := hk.lt
    refine bopen_any n0 (kb :: lg :: X) n w' b first count size D (hD.more k (fun i hi => ?_)) (fun x hx => ?_) (Nat.le_trans hn0 k.size) hnl hn h8 hsz ha hon hwl (hr.grown k)
    · simp only [List.mem_cons] at hi
      rcases hi with rfl | rfl | q
      · exact .inr (by omega)
      · exact .inr h1
      · exact .inl q
    · simp only [List.mem_cons] at hx
      rcases hx with rfl | rfl | q
      · exact hl.1
      · exact hl.2
      · exact Nat.lt_of_lt_of_le (hX x q) k.size)
  have hrec := bookOf_rec D first size
  have hok := bookOf_ok hD n first size hnl hn (by omega) (by omega)
  generalize bookOf D first size = B at HBK hok hrec ⊢
  obtain ⟨NN, hNN⟩ : ∃ x, nextN B.recs = x := ⟨_, rfl⟩
  obtain ⟨EE, hEE⟩ : ∃ x, nextE B.recs = x := ⟨_, rfl⟩
  rw [hNN, hEE]
  have HNE := Lib.hid (And.intro hNN hEE)
  have HOK := Lib.hid (And.intro hok hrec)
  have HXN := Lib.hid (And.intro hX hn0)
  clear hD hX hn0 hnl hon hwl hr hh hss hok hrec hNN hEE
  go_enter Tryz.func7, Tryz.ntmps7
  go_wp2_with fail
  refine HKEY.out.mono ?_
  rintro e w1 ⟨kb, lg, rfl, hk1, hl1, hl2, g1⟩
  have HB1 := Lib.hid (HBK.out w1 kb lg g1 hk1 hl1 hl2)
  have HK1 := Lib.hid hk1
  have HG1 := Lib.hid g1
  have HL := Lib.hid (And.intro hl1 hl2)
  clear HBK HKEY hk1 hl1 hl2 g1
  go_wp2_with fail
  refine HB1.out.mono ?_
  rintro e w2 ⟨g, rfl, ⟨rv, hB2⟩, g2⟩
  have HRC := Lib.hid (records_any w2 g b B rv hB2.mem (by have := HOK.out.1.recs; have := HOK.out.1.used; have := HOK.out.1.area; have := HOK.out.1.few; omega))
  have HB2 := Lib.hid hB2
  have HG2 := Lib.hid (grownBy_trans HG1.out g2)
  have HK2 := Lib.hid (HK1.out.turn (Turn.of_grown g2 (S := fun _ => False)) (fun q => q) (fun q => q))
  clear hB2 g2 HB1
  go_wp2_with fail
  refine HRC.out.mono ?_
  rintro e w3 ⟨v, rfl, hv, g3⟩
  have HNX := Lib.hid (nextOf_any w3 v B.recs hv (by have := HOK.out.1.recs; have := HOK.out.1.used; have := HOK.out.1.area; have := HOK.out.1.few; omega) (fun s hs => Nat.le_trans (HOK.out.2 s hs) (by decide)))
  rw [HNE.out.1, HNE.out.2] at HNX
  have HB3 : Hid (KBook n0 (kb :: lg :: X) w3 g b B D) := Lib.hid (KBook.more ⟨rv, HB2.out⟩ g3 (fun i hi => .inl hi))
  have HG3 := Lib.hid (grownBy_trans HG2.out g3)
  have HK3 := Lib.hid (HK2.out.turn (Turn.of_grown g3 (S := fun _ => False)) (fun q => q) (fun q => q))
  clear hv g3 HRC HB2 HG2 HK2
  go_wp2_with fail
  refine HNX.out.mono ?_
  rintro e w4 ⟨rfl, g4⟩
  have HB4 := Lib.hid (HB3.out.more g4 (fun i hi => .inl hi))
  have HG4 := Lib.hid (grownBy_trans HG3.out g4)
  have HK4 := Lib.hid (HK3.out.turn (Turn.of_grown g4 (S := fun _ => False)) (fun q => q) (fun q => q))
  have HKL := Lib.hid HK4.out.lt
  clear g4 HB3 HG3 HK3 HNX
  by_cases hE : EE = 0
  · have e1 : (EE == 0) = true := by simpa using hE
    have e2 : (EE != 0) = false := by simpa using hE
    have HE := Lib.hid hE
    clear hE
    go_wp2_with fail
    have hG : w4.grownBy (w4.alloc (.cells #[.pointer (some ⟨kb, 0, none⟩), .pointer (some ⟨g, 0, none⟩), .int .i64 NN] 63)) none := World.grownBy_alloc _ _ _
    go_returns
    refine ⟨grownBy_trans HG4.out hG, .inr ⟨HE.out, w4.heap.size, kb, lg, g, rfl, ⟨heap_alloc_at _ _ _ rfl, HK4.out.turn (Turn.of_grown hG (S := fun _ => False)) (fun q => q) (fun q => q), ?_, ?_⟩, HG4.out.size, by have := HL.out; omega, HL.out.1⟩⟩
    · refine HB4.out.more hG (fun i hi => ?_)
      simp only [List.mem_cons] at hi
      rcases hi with rfl | hi
      · exact .inr (Nat.le_refl _)
      · exact .inl (by simpa using hi)
    · refine ⟨Nat.le_trans HXN.out.2 HG4.out.size, fun q => ?_, ?_, ?_⟩
      · have := HXN.out.1 _ q
        have := HG4.out.size
        omega
      · have := HKL.out.1
        omega
      · have := HKL.out.2
        omega
  · have e1 : (EE == 0) = false := by simpa using hE
    have e2 : (EE != 0) = true := by simpa using hE
    have HE := Lib.hid hE
    clear hE
    go_wp2_with fail
    go_returns
    exact ⟨HG4.out, .inl ⟨HE.out, rfl⟩⟩
theorem sopen_any (n0 : Nat) (X : List Nat) (n : Nat) (w : World) (b first count size : Nat) (D : DiskS) (seed : ByteArray) (h : Nat) (hh : h ≤ 6) (hss : seed.size ≤ 1000000000000) (hD : KDisk n0 X w b D) (hX : ∀ x ∈ X, x < w.heap.size) (hn0 : n0 ≤ w.heap.size) (hnl : D.last.length = n) (hn : n ≤ 1024) (h8 : 8 ≤ count) (hsz : count / 2 = size) (ha : first + count ≤ n) (hon : D.on = true) (hwl : D.wait.length ≤ 1000000000) (hr : ShaReady w) :
    Calls Tryz.prog 7 #[.pointer (some ⟨b, 0, none⟩), .int .i64 first, .int .i64 count, .string seed, .int .i64 h] w fun e w' => w.grownBy w' none ∧
      ((nextE (bookOf D first size).recs ≠ 0 ∧ e = .returned (.tuple #[.pointer none, .int .i64 (nextE (bookOf D first size).recs)]))
      ∨ (nextE (bookOf D first size).recs = 0 ∧ ∃ sg kb lg g, e = .returned (.tuple #[.pointer (some ⟨sg, 0, none⟩), .int .i64 0]) ∧ SigMem n0 X w' sg kb lg g b seed h (bookOf D first size) D (nextN (bookOf D first size).recs))) :=
  (sopen_full n0 X n w b first count size D seed h hh hss hD hX hn0 hnl hn h8 hsz ha hon hwl hr).mono (by
    rintro e w' ⟨k, q | ⟨q, sg, kb, lg, g, r1, r2, _⟩⟩
    · exact ⟨k, .inl q⟩
    · exact ⟨k, .inr ⟨q, sg, kb, lg, g, r1, r2⟩⟩)
end Go.Proofs.YtbakhdbnfmoceaaGreatDoor

namespace Go.Proofs.YtbakhdbnfmoceaaGreatDoor
open Go.RowKit
attribute [local irreducible] shaL

theorem sopen_height (d : Option Addr) (f c : Int) (seed : ByteArray) (h : Int) (hh : h < 0 ∨ 6 < h) (w : World) :
    Calls Tryz.prog 7 #[.pointer d, .int .i64 f, .int .i64 c, .string seed, .int .i64 h] w fun e w' => e = .returned (.tuple #[.pointer none, .int .i64 1]) ∧ w.grownBy w' none := by
  have HN := Lib.hid (xnew_not seed h hh w)
  clear hh
  go_enter Tryz.func7, Tryz.ntmps7
  go_wp2_with fail
  refine HN.out.mono ?_
  rintro e w1 ⟨rfl, rfl⟩
  go_wp2_with fail
  go_returns
  exact ⟨rfl, World.grownBy.refl _ _⟩
theorem sopen_bad (F : Nat → Prop) (b : Nat) (D : DiskS) (f c : Int) (seed : ByteArray) (h : Nat) (hh : h ≤ 6) (hss : seed.size ≤ 1000000000000) (w : World) (hD : DiskAt F w b D) (hl : D.last.length ≤ 1024) (hc2 : c ≤ 9223372036854775807) (hb : c < 8 ∨ f < 0 ∨ (D.last.length : Int) - c < f) (hr : ShaReady w) :
    Calls Tryz.prog 7 #[.pointer (some ⟨b, 0, none⟩), .int .i64 f, .int .i64 c, .string seed, .int .i64 h] w fun e w' => e = .returned (.tuple #[.pointer none, .int .i64 1]) ∧ w.grownBy w' none := by
  have HN := Lib.hid (xnew_new seed h hh hss w hr)
  have HB : Hid (∀ w', w.grownBy w' none → Calls Tryz.prog 17 #[.pointer (some ⟨b, 0, none⟩), .int .i64 f, .int .i64 c] w' fun e w'' => e = .returned (.tuple #[.pointer none, .int .i64 1]) ∧ w'.grownBy w'' none) :=
    Lib.hid (fun w' k => open_bad _ b D f c w' (DiskAt.turn (S := fun _ => False) hD (Turn.of_grown k) (fun _ _ _ q => q)) hl hc2 hb)
  clear hD hl hc2 hb hr hh hss
  go_enter Tryz.func7, Tryz.ntmps7
  go_wp2_with fail
  refine HN.out.mono ?_
  rintro e w1 ⟨kb, lg, rfl, _, _, _, g1⟩
  have HG1 := Lib.hid g1
  clear g1
  go_wp2_with fail
  refine (HB.out w1 HG1.out).mono ?_
  rintro e w2 ⟨rfl, g2⟩
  have HG2 := Lib.hid (grownBy_trans HG1.out g2)
  clear g2 HG1
  go_wp2_with fail
  go_returns
  exact ⟨rfl, HG2.out⟩
theorem secsK_new (n A k : Nat) (h : A + k ≤ n) : secsK (newD n) A k = List.replicate k (str (zeros 64)) := by
  apply List.ext_getElem?
  intro i
  unfold secsK
  rw [List.getElem?_map, List.getElem?_replicate]
  by_cases hi : i < k
  · rw [List.getElem?_range hi, if_pos hi]
    show some (str (readL (newD n).last (newD n).wait (A + i))) = _
    rw [new_read n (A + i) (by omega)]
  · rw [List.getElem?_eq_none (by simpa using hi), if_neg hi]
    rfl
theorem bookOf_new (n first size : Nat) (h : first + 2 * size ≤ n) (h4 : 4 ≤ size) : bookOf (newD n) first size = newB first size := by
  have hz : ∀ p, p < 2 → halfS (secsK (newD n) (first + p * size) size) = ⟨0, [], 0⟩ := by
    intro p hp
    rw [secsK_new n _ size (by rcases (by omega : p = 0 ∨ p = 1) with rfl | rfl <;> omega)]
    obtain ⟨k, rfl⟩ : ∃ k, size = k + 1 := ⟨size - 1, by omega⟩
    rw [List.replicate_succ]
    exact halfS_zero _
  unfold bookOf
  rw [pickS, pickS, pickS, hz 0 (by decide), hz 1 (by decide)]
  rfl
end Go.Proofs.YtbakhdbnfmoceaaGreatDoor

namespace Go.Proofs.YtbakhdbnfmoceaaGreatDoor
open Go.RowKit
attribute [local irreducible] shaL

theorem SigMem.more {n0 : Nat} {X Y : List Nat} {w w' : World} {sg kb lg g b : Nat} {seed : ByteArray} {h : Nat} {B : BookS} {D : DiskS} {next : Nat} (m : SigMem n0 X w sg kb lg g b seed h B D next) (k : w.grownBy w' none) (hY : ∀ i ∈ Y, i ∈ X ∨ w.heap.size ≤ i) : SigMem n0 Y w' sg kb lg g b seed h B D next := by
  have hs : sg < w.heap.size := (Array.getElem?_eq_some_iff.1 m.blk).1
  refine ⟨k.heap m.blk (by simp), m.key.turn (Turn.of_grown k (S := fun _ => False)) (fun q => q) (fun q => q), m.book.more k (fun i hi => ?_), m.own.1, fun q => ?_, m.own.2.2⟩
  · simp only [List.mem_cons] at hi ⊢
    rcases hi with hi | hi | hi | hi
    · exact .inl (.inl hi)
    · exact .inl (.inr (.inl hi))
    · exact .inl (.inr (.inr (.inl hi)))
    · rcases hY i hi with q | q
      · exact .inl (.inr (.inr (.inr q)))
      · exact .inr q
  · rcases hY sg q with q | q
    · exact m.own.2.1 q
    · omega
theorem StrsAt.turned {S : Nat → Prop} {w w' : World} {v : Value} {L : List ByteArray} (h : StrsAt w v L) (k : Turn S w w') (hb : ∀ x, v.ownBlock = some x → ¬ S x) : StrsAt w' v L := by
  obtain ⟨a, c, e, hc⟩ := h
  refine ⟨a, c, e, fun i hi => ?_⟩
  obtain ⟨g, o, e2, h3⟩ := hc i hi
  refine ⟨g, o, e2, ?_⟩
  rw [k.cell (cell_lt h3) (hb g (by rw [e, e2]; rfl))]
  exact h3
theorem reserve_fine (B : BookS) (D : DiskS) (n : Nat) (hf : B.failed = false) (hl : 1 ≤ B.size - B.used) (h : D.fuse < 0) :
    ∃ E, reserveS B D n = (0, { B with turn := max B.turn 1, recs := B.recs ++ [idxS n], used := B.used + 1 }, E) ∧ E.on = D.on ∧ E.fuse = D.fuse ∧ E.last.length = D.last.length ∧ E.wait = [] ∧ E.keep = D.keep := by
  have h1 : partsN (idxS n).size = 1 := by rw [idxS_size]; decide
  obtain ⟨E, hE, r⟩ := put_fine B D (idxS n) hf (by rw [idxS_size]; decide) (by rw [h1]; exact hl) h
  rw [h1] at hE
  refine ⟨E, ?_, r⟩
  unfold reserveS
  rw [hE, if_neg (by show ¬ (0 : Int) = 9; decide)]
theorem sopen_new (n0 : Nat) (X : List Nat) (n : Nat) (w : World) (b first count size : Nat) (seed : ByteArray) (h : Nat) (hh : h ≤ 6) (hss : seed.size ≤ 1000000000000) (hD : KDisk n0 X w b (newD n)) (hX : ∀ x ∈ X, x < w.heap.size) (hn0 : n0 ≤ w.heap.size) (hn : n ≤ 1024) (h8 : 8 ≤ count) (hsz : count / 2 = size) (ha : first + count ≤ n) (hr : ShaReady w) :
    Calls Tryz.prog 7 #[.pointer (some ⟨b, 0, none⟩), .int .i64 first, .int .i64 count, .string seed, .int .i64 h] w fun e w' => w.grownBy w' none ∧ ∃ sg kb lg g, e = .returned (.tuple #[.pointer (some ⟨sg, 0, none⟩), .int .i64 0]) ∧ SigMem n0 X w' sg kb lg g b seed h (newB first size) (newD n) 0 :=
  (sopen_any n0 X n w b first count size (newD n) seed h hh hss hD hX hn0 (by show (List.replicate n (zeros 64)).length = n; simp) hn h8 hsz ha rfl (by show 0 ≤ _; decide) hr).mono (by
    rw [bookOf_new n first size (by omega) (by omega)]
    rintro e w' ⟨k, ⟨h1, _⟩ | ⟨_, h2⟩⟩
    · exact absurd rfl h1
    · exact ⟨k, h2⟩)
theorem ssign_fine (n0 M : Nat) (X : List Nat) (w : World) (sg kb lg g b : Nat) (seed m : ByteArray) (h : Nat) (B : BookS) (D : DiskS) (next : Nat) (hM : SigMem n0 X w sg kb lg g b seed h B D next) (hh : h ≤ 6) (hs : next < 2 ^ h)
    (hX : ∀ x ∈ X, x < w.heap.size) (hn0 : n0 ≤ w.heap.size) (ho : BookOK M B) (hnl : D.last.length = M) (hon : D.on = true)
    (hwl : D.wait.length ≤ 100000000) (hf : D.fuse < 0) (hk : D.keep.length ≤ 9223372036854775807) (hr : ShaReady w) (hsX : n0 ≤ 0 → False) (hrX : n0 ≤ 1 → False)
    (hss : seed.size ≤ 1000000000000) (hms : m.size ≤ 1000000000000) (hfl : B.failed = false) (hl : 1 ≤ B.size - B.used) :
    Calls Tryz.prog 11 #[.pointer (some ⟨sg, 0, none⟩), .string m] w fun e w' => Turn (rest n0 X) w w' ∧ ∃ c p E, e = .returned (.tuple #[sigV next c p, .int .i64 0]) ∧ StrsAt w' c (chainsS seed next m) ∧ StrsAt w' p (pathS h (leavesS seed h) next) ∧
      SigMem n0 (ownB c ++ ownB p ++ X) w' sg kb lg g b seed h { B with turn := max B.turn 1, recs := B.recs ++ [idxS (next + 1)], used := B.used + 1 } E (next + 1) ∧ E.on = true ∧ E.fuse = D.fuse ∧ E.last.length = M ∧ E.wait = [] ∧ E.keep = D.keep := by
  obtain ⟨E, hE, h1, h2, h3, h4, h5⟩ := reserve_fine B D (next + 1) hfl hl hf
  have := ssign_any n0 M X w sg kb lg g b seed m h B D next hM hh hs hX hn0 ho hnl hon hwl (by omega) hk hr hsX hrX hss hms
  rw [hE] at this
  refine this.mono ?_
  rintro e w' ⟨t, ⟨q, _⟩ | ⟨_, c, p, rfl, r1, r2, r3⟩⟩
  · exact absurd rfl q
  · exact ⟨t, c, p, E, rfl, r1, r2, r3, h1.trans hon, h2, h3.trans hnl, h4, h5⟩
/-- a key's own signature is verified -/
theorem vown (seed m : ByteArray) (h i : Nat) (hh : h ≤ 6) (hi : i < 2 ^ h) (hm : m.size ≤ 1000000000000) (ca : Option Addr) (cc : Nat) (pa : Option Addr) (pc : Nat) (w : World) (hc : StrsAt w (.slice ca 35 cc) (chainsS seed i m)) (hp : StrsAt w (.slice pa h pc) (pathS h (leavesS seed h) i)) (hr : ShaReady w) :
    Calls Tryz.prog 12 #[pubV (openS seed) (rootK seed h) h, .string m, sigV i (.slice ca 35 cc) (.slice pa h pc)] w fun e w' => e = .returned (.bool true) ∧ w.grownBy w' none :=
  verify_any (openS seed) (rootK seed h) m h i _ _ ca cc pa pc true hh hi (openS_size seed) hm (chains_35 seed m i) (chains_16 seed m i) (pathS_length h (leavesS seed h) i) (path_small seed h i) (by rw [sign_climbs seed m h i hi]; simp) w hc hp hr
end Go.Proofs.YtbakhdbnfmoceaaGreatDoor

namespace Go.Proofs.YtbakhdbnfmoceaaGreatDoor
open Go.RowKit
attribute [local irreducible] shaL

/-- a new disk of 8 sectors on which one record stands -/
def oneD (R : ByteArray) : DiskS := ⟨(secS 1 0 R 0).data.toList :: List.replicate 7 (zeros 64), [], true, -1, []⟩
def oneB (R : ByteArray) : BookS := ⟨0, 4, 0, 1, [R], 1, false⟩
theorem put_one (R : ByteArray) (h : R.size ≤ 39) : putS (newB 0 4) (newD 8) R = (0, oneB R, oneD R) := by
  have hp : partsN R.size = 1 := by unfold partsN; split <;> omega
  have ht : takesI (newB 0 4) R = 0 := by unfold takesI; rw [if_neg (by omega)]; rfl
  have hn : nextS 1 0 R = [secS 1 0 R 0] := by unfold nextS; rw [hp]; rfl
  have hf : fullL (secS 1 0 R 0).data.toList = (secS 1 0 R 0).data.toList := by
    have h64 : (secS 1 0 R 0).data.toList.length = 64 := secS_size 1 0 R 0
    unfold fullL
    rw [h64]
    exact List.append_nil _
  have hw : writesS (newD 8) 0 [secS 1 0 R 0] = (0, oneD R) := by
    rw [writesS, if_neg (by decide), writesS, if_neg (by show ¬ (-1 : Int) = 0; decide)]
    unfold oneD
    rw [← hf]
    rfl
  unfold putS
  rw [if_neg (by omega), hp, if_neg (by decide)]
  have e : layS (newB 0 4) (newD 8) (newB 0 4).place (max (newB 0 4).turn 1) (newB 0 4).recs (newB 0 4).used R = (if (writesS (newD 8) 0 (nextS 1 0 R)).1 = 0 then (0, { newB 0 4 with place := 0, turn := 1, recs := [] ++ [R], used := 0 + partsN R.size }, (writesS (newD 8) 0 (nextS 1 0 R)).2) else ((writesS (newD 8) 0 (nextS 1 0 R)).1, { newB 0 4 with failed := true }, (writesS (newD 8) 0 (nextS 1 0 R)).2)) := rfl
  rw [e, hn, hw, hp]
  rfl
theorem bookOf_one (R : ByteArray) (h : R.size ≤ 39) : bookOf (oneD R) 0 4 = oneB R := by
  have h0 : secsK (oneD R) (0 + 0 * 4) 4 = [secS 1 0 R 0, zsec, zsec, zsec] := by
    have e : secsK (oneD R) (0 + 0 * 4) 4 = [str (secS 1 0 R 0).data.toList, str (zeros 64), str (zeros 64), str (zeros 64)] := rfl
    rw [e, str_self]
    rfl
  have h1 : secsK (oneD R) (0 + 1 * 4) 4 = [zsec, zsec, zsec, zsec] := rfl
  unfold bookOf
  rw [pickS, pickS, pickS, h0, h1, halfS_zero, halfS_one 1 (by decide) (by decide) R h]
  rfl
end Go.Proofs.YtbakhdbnfmoceaaGreatDoor

namespace Go.Proofs.YtbakhdbnfmoceaaGreatDoor
open Go.RowKit
attribute [local irreducible] shaL

def seedQ : ByteArray := ⟨#[115, 101, 101, 100]⟩
theorem own_lt {w : World} {v : Value} {L : List ByteArray} (h : StrsAt w v L) (h0 : 0 < L.length) : ∀ x ∈ ownB v, x < w.heap.size := by
  obtain ⟨a, c, e, hc⟩ := h
  intro x hx
  obtain ⟨g, o, e2, h3⟩ := hc 0 h0
  rw [e, e2] at hx
  have : x = g := by simpa [ownB, Value.ownBlock] using hx
  subst this
  exact cell_lt h3
theorem sk6 {w w' : World} {A B : Nat} {x0 x1 x2 y0 y1 y2 : Value} (k : w.grownBy w' none) (h : w.cell? ⟨A, 0, none⟩ = some x0 ∧ w.cell? ⟨A, 1, none⟩ = some x1 ∧ w.cell? ⟨A, 2, none⟩ = some x2 ∧ w.cell? ⟨B, 0, none⟩ = some y0 ∧ w.cell? ⟨B, 1, none⟩ = some y1 ∧ w.cell? ⟨B, 2, none⟩ = some y2) :
    w'.cell? ⟨A, 0, none⟩ = some x0 ∧ w'.cell? ⟨A, 1, none⟩ = some x1 ∧ w'.cell? ⟨A, 2, none⟩ = some x2 ∧ w'.cell? ⟨B, 0, none⟩ = some y0 ∧ w'.cell? ⟨B, 1, none⟩ = some y1 ∧ w'.cell? ⟨B, 2, none⟩ = some y2 :=
  ⟨k.cell h.1 (by simp), k.cell h.2.1 (by simp), k.cell h.2.2.1 (by simp), k.cell h.2.2.2.1 (by simp), k.cell h.2.2.2.2.1 (by simp), k.cell h.2.2.2.2.2 (by simp)⟩
set_option maxRecDepth 100000 in
set_option maxHeartbeats 3200000 in
theorem sig_speaks (w : World) (hr : ShaReady w) : Calls Tryz.prog 5 #[] w fun e w' => e = .returned (.bool true) ∧ w.grownBy w' none := by
  have HR := Lib.hid hr
  have HSX := Lib.hid hr.lt
  have HNEW := Lib.hid (new_k (n0 := w.heap.size) (X := []) 8 (by decide) (by decide) w (by simp) (Nat.le_refl _))
  clear hr
  go_enter Tryz.func5, Tryz.ntmps5
  go_wp2_with fail
  refine HNEW.out.mono ?_
  rintro e w1 ⟨b, rfl, hD, g1⟩
  have HOP := Lib.hid (sopen_new w.heap.size [] 8 w1 b 0 8 4 seedQ 1 (by decide) (by decide) hD (by simp) g1.size (by decide) (by decide) (by decide) (by decide) (HR.out.grown g1))
  have HG1 := Lib.hid g1
  clear hD g1 HNEW
  go_wp2_with fail
  refine HOP.out.mono ?_
  rintro e w2 ⟨g2, sg, kb, lg, g, rfl, hM⟩
  have HG2 := Lib.hid (grownBy_trans HG1.out g2)
  have HS1 := Lib.hid (ssign_fine w.heap.size 8 [] w2 sg kb lg g b seedQ ⟨#[120]⟩ 1 (newB 0 4) (newD 8) 0 hM (by decide) (by decide) (by simp) HG2.out.size (newB_ok 8 0 4 (by decide) (by decide) (by decide)) rfl rfl (by decide) (by decide) (by decide) (HR.out.grown HG2.out) (fun h => by have := HSX.out.1; omega) (fun h => by have := HSX.out.2; omega) (by decide) (by decide) rfl (by decide))
  clear hM g2 HOP
  go_wp2_with fail
  refine HS1.out.mono ?_
  rintro e w3 ⟨t3, c1, p1, E1, rfl, hc3, hp3, hM3, on1, fu1, la1, wa1, ke1⟩
  have HG3 := Lib.hid (grownBy_below (t3.bel (below_grownBy HG2.out) HG2.out.size))
  have HL1 := Lib.hid (own_lt hc3 (by rw [chains_35]; decide))
  have HL2 := Lib.hid (own_lt hp3 (by rw [pathS_length]; decide))
  obtain ⟨ca, cc, rfl⟩ := hc3.form
  obtain ⟨pa, pc, rfl⟩ := hp3.form
  have HC3 := Lib.hid hc3
  have HP3 := Lib.hid hp3
  have HM3 := Lib.hid hM3
  have HE1 := Lib.hid (And.intro on1 (And.intro fu1 (And.intro la1 (And.intro wa1 ke1))))
  clear hc3 hp3 hM3 on1 fu1 la1 wa1 ke1 t3 HS1 HG2 HG1
  rw [chains_35] at HC3 HL1 HM3 ⊢
  rw [pathS_length] at HP3 HL2 HM3 ⊢
  unfold sigV
  go_wp2_with fail
  have ha4 : w3.grownBy (w3.alloc (.cells #[.int .i64 0, .slice ca 35 cc, .slice pa 1 pc] 40)) none := World.grownBy_alloc _ _ _
  have hz4 : (w3.alloc (.cells #[.int .i64 0, .slice ca 35 cc, .slice pa 1 pc] 40)).heap[w3.heap.size]? = some (.cells #[.int .i64 0, .slice ca 35 cc, .slice pa 1 pc] 40 (0, 0)) := heap_alloc_at _ _ _ rfl
  have hs4 : w3.heap.size < (w3.alloc (.cells #[.int .i64 0, .slice ca 35 cc, .slice pa 1 pc] 40)).heap.size := (Array.getElem?_eq_some_iff.1 hz4).1
  generalize w3.alloc (.cells #[.int .i64 0, .slice ca 35 cc, .slice pa 1 pc] 40) = w4 at ha4 hz4 hs4 ⊢
  obtain ⟨X4, hX4⟩ : ∃ X, w3.heap.size :: (ownB (.slice ca 35 cc) ++ ownB (.slice pa 1 pc)) = X := ⟨_, rfl⟩
  have hX4l : ∀ x ∈ X4, x < w4.heap.size := by
    subst hX4
    intro x hx
    simp only [List.mem_cons, List.mem_append] at hx
    rcases hx with rfl | hx | hx
    · exact hs4
    · exact Nat.lt_of_lt_of_le (HL1.out x hx) ha4.size
    · exact Nat.lt_of_lt_of_le (HL2.out x hx) ha4.size
  have hM4 := HM3.out.more ha4 (Y := X4) (by
    subst hX4
    intro i hi
    simp only [List.mem_cons, List.mem_append] at hi ⊢
    rcases hi with rfl | hi | hi
    · exact .inr (Nat.le_refl _)
    · exact .inl (.inl (.inl hi))
    · exact .inl (.inl (.inr hi)))
  have HX4 : Hid (w3.heap.size ∈ X4 ∧ (∀ x, (Value.slice ca 35 cc).ownBlock = some x → x ∈ X4) ∧ (∀ x, (Value.slice pa 1 pc).ownBlock = some x → x ∈ X4)) := by
    subst hX4
    exact Lib.hid ⟨by simp, fun x e => by simp [ownB_mem.2 e], fun x e => by simp [ownB_mem.2 e]⟩
  have HG4 := Lib.hid (grownBy_trans HG3.out ha4)
  have HS2 := Lib.hid (ssign_fine w.heap.size 8 X4 w4 sg kb lg g b seedQ ⟨#[121]⟩ 1 _ E1 1 hM4 (by decide) (by decide) hX4l HG4.out.size ⟨by decide, by decide, by decide, by decide, by decide, by decide, by decide⟩ HE1.out.2.2.1 HE1.out.1 (by rw [HE1.out.2.2.2.1]; decide) (by rw [HE1.out.2.1]; decide) (by rw [HE1.out.2.2.2.2]; decide) (HR.out.grown HG4.out) (fun h => by have := HSX.out.1; omega) (fun h => by have := HSX.out.2; omega) (by decide) (by decide) rfl (by decide))
  have HC4 := Lib.hid (HC3.out.grown ha4)
  have HP4 := Lib.hid (HP3.out.grown ha4)
  have HZ4 := Lib.hid hz4
  obtain ⟨SA, hSA⟩ : ∃ SA, w3.heap.size = SA := ⟨_, rfl⟩
  rw [hSA] at HZ4 HX4 ⊢
  clear hz4 hs4 hX4 hX4l hM4 ha4 HC3 HP3 HM3 HL1 HL2 HG3 hSA
  refine HS2.out.mono ?_
  rintro e w5 ⟨t5, c2, p2, E2, rfl, hc5, hp5, hM5, _⟩
  have HG5 := Lib.hid (grownBy_below (t5.bel (below_grownBy HG4.out) HG4.out.size))
  obtain ⟨cb, cd, rfl⟩ := hc5.form
  obtain ⟨pb, pd, rfl⟩ := hp5.form
  have hz5 := t5.inX HX4.out.1 HZ4.out
  have HZ5 := Lib.hid hz5
  have HC5 := Lib.hid (HC4.out.turned t5 (fun x e q => q.2 (HX4.out.2.1 x e)))
  have HP5 := Lib.hid (HP4.out.turned t5 (fun x e q => q.2 (HX4.out.2.2 x e)))
  have HCB5 := Lib.hid hc5
  have HPB5 := Lib.hid hp5
  have HM5 := Lib.hid hM5
  clear hc5 hp5 hM5 t5 hz5 HC4 HP4 HZ4 HS2
  rw [chains_35] at HCB5 HM5 ⊢
  rw [pathS_length] at HPB5 HM5 ⊢
  unfold sigV
  go_wp2_with fail
  have ha6 : w5.grownBy (w5.alloc (.cells #[.int .i64 1, .slice cb 35 cd, .slice pb 1 pd] 40)) none := World.grownBy_alloc _ _ _
  have hz6 : (w5.alloc (.cells #[.int .i64 1, .slice cb 35 cd, .slice pb 1 pd] 40)).heap[w5.heap.size]? = some (.cells #[.int .i64 1, .slice cb 35 cd, .slice pb 1 pd] 40 (0, 0)) := heap_alloc_at _ _ _ rfl
  generalize w5.alloc (.cells #[.int .i64 1, .slice cb 35 cd, .slice pb 1 pd] 40) = w6 at ha6 hz6 ⊢
  generalize w5.heap.size = SB at hz6 ⊢
  have HZ6 := Lib.hid hz6
  have HA6 := Lib.hid ha6
  have HS3 := Lib.hid (ssign_spent w.heap.size _ w6 sg kb lg g b seedQ ⟨#[122]⟩ 1 2 _ E2 2 (HM5.out.more ha6 (fun i hi => .inl hi)) rfl (by decide))
  clear ha6 hz6
  refine HS3.out.mono ?_
  rintro e w7 ⟨rfl, g7⟩
  have HA7 := Lib.hid (grownBy_trans HA6.out g7)
  have HSA7 := Lib.hid (HA7.out.heap HZ5.out (by simp))
  have HSB7 := Lib.hid (g7.heap HZ6.out (by simp))
  have HG7 := Lib.hid (grownBy_trans HG5.out HA7.out)
  have HC7 := Lib.hid (HC5.out.grown HA7.out)
  have HP7 := Lib.hid (HP5.out.grown HA7.out)
  have HCB7 := Lib.hid (HCB5.out.grown HA7.out)
  have HPB7 := Lib.hid (HPB5.out.grown HA7.out)
  have HBK := Lib.hid (HA7.out.heap HM5.out.blk (by simp))
  have HKEY := Lib.hid (HM5.out.key.turn (Turn.of_grown HA7.out (S := fun _ => False)) (fun q => q) (fun q => q))
  have HR7 := Lib.hid (HR.out.grown HG7.out)
  have hpub : Hid (∀ w', w7.grownBy w' none → Calls Tryz.prog 8 #[.pointer (some ⟨sg, 0, none⟩)] w' fun e w'' => e = .returned (.agg #[.string (openS seedQ), .string (rootK seedQ 1), .int .i64 1]) ∧ w'.grownBy w'' none) := fun w' k =>
    spublic_any w' sg kb lg _ _ seedQ 1 (k.heap HBK.out (by simp)) (HKEY.out.turn (Turn.of_grown k (S := fun _ => False)) (fun q => q) (fun q => q))
  have hver1 : Hid (∀ w', w7.grownBy w' none → Calls Tryz.prog 12 #[.agg #[.string (openS seedQ), .string (rootK seedQ 1), .int .i64 1], .string ⟨#[120]⟩, .agg #[.int .i64 0, .slice ca 35 cc, .slice pa 1 pc]] w' fun e w'' => e = .returned (.bool true) ∧ w'.grownBy w'' none) := fun w' k =>
    vown seedQ ⟨#[120]⟩ 1 0 (by decide) (by decide) (by decide) ca cc pa pc w' (HC7.out.grown k) (HP7.out.grown k) (HR7.out.grown k)
  have hver2 : Hid (∀ w', w7.grownBy w' none → Calls Tryz.prog 12 #[.agg #[.string (openS seedQ), .string (rootK seedQ 1), .int .i64 1], .string ⟨#[121]⟩, .agg #[.int .i64 1, .slice cb 35 cd, .slice pb 1 pd]] w' fun e w'' => e = .returned (.bool true) ∧ w'.grownBy w'' none) := fun w' k =>
    vown seedQ ⟨#[121]⟩ 1 1 (by decide) (by decide) (by decide) cb cd pb pd w' (HCB7.out.grown k) (HPB7.out.grown k) (HR7.out.grown k)
  have a0 := cell_of HSA7.out 0
  have a1 := cell_of HSA7.out 1
  have a2 := cell_of HSA7.out 2
  have b0 := cell_of HSB7.out 0
  have b1 := cell_of HSB7.out 1
  have b2 := cell_of HSB7.out 2
  simp at a0 a1 a2 b0 b1 b2
  generalize openS seedQ = OO at hpub hver1 hver2
  generalize rootK seedQ 1 = RR at hpub hver1 hver2
  clear g7 HS3 HA6 HZ6 HM5 HC5 HP5 HCB5 HPB5 HZ5
  unfold sigZ sigV
  go_wp2_with fail
  have h8 : w7.grownBy (w7.alloc (.cells #[.int .i64 0, .slice none 0 0, .slice none 0 0] 40)) none := World.grownBy_alloc _ _ _
  generalize w7.alloc (.cells #[.int .i64 0, .slice none 0 0, .slice none 0 0] 40) = w8 at h8 ⊢
  have HG8 := Lib.hid (grownBy_trans HG7.out h8)
  have HA8 := Lib.hid h8
  have K8 := sk6 h8 ⟨a0, a1, a2, b0, b1, b2⟩
  have HK8 := Lib.hid K8
  obtain ⟨d0, d1, d2, e0, e1, e2⟩ := K8
  clear h8 a0 a1 a2 b0 b1 b2
  go_region_held3 (fun w' => w'.cell? ⟨SA, 0, none⟩ = some (.int .i64 0) ∧ w'.cell? ⟨SA, 1, none⟩ = some (.slice ca 35 cc) ∧ w'.cell? ⟨SA, 2, none⟩ = some (.slice pa 1 pc) ∧ w'.cell? ⟨SB, 0, none⟩ = some (.int .i64 1) ∧ w'.cell? ⟨SB, 1, none⟩ = some (.slice cb 35 cd) ∧ w'.cell? ⟨SB, 2, none⟩ = some (.slice pb 1 pd)) (first | exact ck.2 | exact HK8.out)
    (first
      | (go_at_call 8; (with_reducible refine (hpub.out _ (grownBy_trans HA8.out ck.1)).mono ?_); rintro e w4 ⟨rfl, g4⟩; have ck := And.intro (grownBy_trans ck.1 g4) (sk6 g4 ck.2))
      | (go_at_call 8; (with_reducible refine (hpub.out _ (grownBy_trans HA8.out (grownBy_drew (World.grownBy.refl _ _)))).mono ?_); rintro e w4 ⟨rfl, g4⟩; have ck := And.intro (grownBy_trans (grownBy_drew (World.grownBy.refl w8 none)) g4) (sk6 g4 HK8.out))
      | (go_at_call 12; (with_reducible refine (hver1.out _ (grownBy_trans HA8.out ck.1)).mono ?_); rintro e w4 ⟨rfl, g4⟩; have ck := And.intro (grownBy_trans ck.1 g4) (sk6 g4 ck.2))
      | (go_at_call 12; (with_reducible refine (hver2.out _ (grownBy_trans HA8.out ck.1)).mono ?_); rintro e w4 ⟨rfl, g4⟩; have ck := And.intro (grownBy_trans ck.1 g4) (sk6 g4 ck.2)))
  have GF := Lib.hid (grownBy_trans HG8.out ck.1)
  clear ck
  go_wp2_with fail
  go_ret
  exact ⟨rfl, GF.out⟩
end Go.Proofs.YtbakhdbnfmoceaaGreatDoor
