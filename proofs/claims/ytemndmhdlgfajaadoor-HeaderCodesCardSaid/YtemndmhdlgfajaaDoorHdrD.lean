/- The walk of header's Decode. -/
import Derived.Test.YtemndmhdlgfajaaDoorHdrC
import Derived.Test.YtemndmhdlgfajaaDoorEntB
import Derived.Test.YtemndmhdlgfajaaDoorPrfDe
import Derived.Test.YtemndmhdlgfajaaDoorHeaderCodesB2
namespace Go.Proofs.YtemndmhdlgfajaaDoor
open Go.RowKit
attribute [local irreducible] shaL

theorem text_small (s : RSt) : s.text.1.size ≤ 4096 := by
  unfold RSt.text
  split
  · exact Nat.zero_le _
  · rename_i h
    have h3 := fixed_size (s.num 2).2 (s.num 2).1
    have h4 : ((s.num 2).2.fixed (s.num 2).1).1.size ≤ (s.num 2).1 := h3
    omega
theorem readK_small (s : RSt) : ∀ i, ∀ x ∈ (readK s i).1, x.size ≤ 4096
  | 0, x, hx => by cases hx
  | i + 1, x, hx => by
    rcases List.mem_append.1 hx with q | q
    · exact readK_small s i x q
    · rw [List.mem_singleton.1 q]; exact text_small _
/-- where Decode is: the reader, the header being made, the result's cells -/
structure HDecAt (n hb : Nat) (w wr : World) (e : Nat) (p : ByteArray) (d au : Int) (bv : Value) (Bk : List ByteArray) (s : RSt) : Prop where
  way : wr.ownsRow (hb + 1) 9 1 bv Bk.length (strsV Bk)
  res : wr.heap[n]? = some (.cells #[.int .u64 0, .string ⟨#[]⟩, .int .i64 0, .int .i64 0, .slice none 0 0] 28 (0, 0))
  rd : RdAt wr (n + 1) s.rest s.err
  hdr : wr.heap[hb]? = some (.cells #[.int .u64 e, .string p, .int .i64 d, .int .i64 au, bv] 28 (0, 0))
  grown : w.grownBy wr none
  lt : n + 1 < hb
section
variable {n hb : Nat} {w wr : World} {e : Nat} {p : ByteArray} {d au : Int} {bv : Value} {Bk : List ByteArray} {s : RSt}
theorem HDecAt.drew (h : HDecAt n hb w wr e p d au bv Bk s) : HDecAt n hb w wr.drew e p d au bv Bk s := ⟨h.way, h.res, h.rd, h.hdr, grownBy_drew h.grown, h.lt⟩
theorem HDecAt.size (h : HDecAt n hb w wr e p d au bv Bk s) : hb + 1 ≤ wr.heap.size := (Array.getElem?_eq_some_iff.1 h.hdr).1
theorem HDecAt.cell (h : HDecAt n hb w wr e p d au bv Bk s) : wr.cell? ⟨hb, 4, none⟩ = some bv := by rw [cell_of h.hdr]; rfl
theorem HDecAt.read {w' : World} {s' : RSt} (h : HDecAt n hb w wr e p d au bv Bk s) (hn : w.heap.size = n) (g : wr.grownBy w' (some (n + 1))) (hr : RdAt w' (n + 1) s'.rest s'.err) : HDecAt n hb w w' e p d au bv Bk s' :=
  have hlt := h.lt
  ⟨own_keep h.way g (fun x hx e => by have e2 : n + 1 = x := Option.some.inj e; have := (h.way.lt x hx).1; omega), g.heap h.res (fun e => by have := Option.some.inj e; omega), hr, g.heap h.hdr (fun e => by have := Option.some.inj e; omega), grown_row h.grown g (fun x e => by have e2 : n + 1 = x := Option.some.inj e; omega), h.lt⟩
theorem HDecAt.aud (h : HDecAt n hb w wr e p d au bv Bk s) (hn : w.heap.size = n) (z : Int) : HDecAt n hb w (wr.setCell ⟨hb, 3, none⟩ (.int .i64 z)) e p d z bv Bk s := by
  have hlt := h.lt
  refine ⟨own_keep h.way (grownBy_setCell (World.grownBy.refl wr _) 3 _) (fun y hy q => by have e2 : hb = y := Option.some.inj q; have := (h.way.lt y hy).1; omega), ?_, ?_, (heap_setCell h.hdr 3 _).trans rfl, grownBy_setNew h.grown (by omega) _ _, hlt⟩
  · rw [heap_setCell_ne _ _ _ _ (by omega)]; exact h.res
  · show (wr.setCell _ _).heap[n + 1]? = _
    rw [heap_setCell_ne _ _ _ _ (by omega)]; exact h.rd
theorem HDecAt.prf8 {w8 : World} {o : Obj} (h : HDecAt n hb w wr e p d au bv Bk s) (k8 : (wr.alloc o).grownBy w8 bv.ownBlock) : w8.cell? ⟨hb, 4, none⟩ = some bv ∧ w8.frozen? ⟨hb, 4, none⟩ = false := by
  have hb' := h.way.lt
  have hp8 := k8.heap ((World.grownBy_alloc wr o none).heap h.hdr (by simp)) (fun e => by have := (hb' _ e).1; omega)
  exact ⟨by rw [cell_of hp8]; rfl, frozen_of_row _ _ _ _ _ hp8⟩
theorem HDecAt.push {w8 : World} {o : Obj} {x : ByteArray} {g8 c8 : Nat} (h : HDecAt n hb w wr e p d au bv Bk s) (hn : w.heap.size = n) (k8 : (wr.alloc o).grownBy w8 bv.ownBlock)
    (ho : w8.ownsRow (hb + 1) 9 1 (.slice (some ⟨g8, 0, none⟩) (Bk.length + 1) c8) (Bk.length + 1) (strsV (Bk ++ [x]))) (hg : bv.ownBlock = some g8 ∨ g8 = (wr.alloc o).heap.size) :
    HDecAt n hb w (w8.setCell ⟨hb, 4, none⟩ (.slice (some ⟨g8, 0, none⟩) (Bk.length + 1) c8)) e p d au (.slice (some ⟨g8, 0, none⟩) (Bk.length + 1) c8) (Bk ++ [x]) s := by
  have hb' := h.way.lt
  have hlt := h.lt
  have ka := World.grownBy_alloc wr o none
  have hg8 : hb + 1 ≤ g8 := by
    rcases hg with e | e
    · exact (hb' g8 e).1
    · have := h.size
      have := World.size_alloc wr o
      omega
  have hp8 := k8.heap (ka.heap h.hdr (by simp)) (fun e => by have := (hb' _ e).1; omega)
  have hr8 := k8.heap (ka.heap h.res (by simp)) (fun e => by have := (hb' _ e).1; omega)
  have hd8 : RdAt w8 (n + 1) s.rest s.err := k8.heap (ka.heap h.rd (by simp)) (fun e => by have := (hb' _ e).1; omega)
  refine ⟨?_, ?_, ?_, ?_, ?_, hlt⟩
  · have e8 : (Bk ++ [x]).length = Bk.length + 1 := by simp
    rw [e8]
    exact own_keep ho (grownBy_setCell (World.grownBy.refl w8 _) 4 _) (fun y hy e => by have e2 : hb = y := Option.some.inj e; have e3 : g8 = y := Option.some.inj hy; omega)
  · rw [heap_setCell_ne _ _ _ _ (by omega)]
    exact hr8
  · show (w8.setCell _ _).heap[n + 1]? = _
    rw [heap_setCell_ne _ _ _ _ (by omega)]
    exact hd8
  · exact (heap_setCell hp8 4 (.slice (some ⟨g8, 0, none⟩) (Bk.length + 1) c8)).trans rfl
  · have k9 := grown_row (grownBy_trans h.grown ka) k8 (fun y e => by have := (hb' y e).1; omega)
    exact grownBy_setNew k9 (by omega) _ _
end
theorem results_hdec {n : Nat} {v0 v1 v2 v3 v4 : Value} {z : Int} {tmps : Array Value} {w : World} (h6 : tmps[2]? = some (.pointer (some ⟨n, 0, none⟩))) (h7 : tmps[3]? = some (.int .i64 z)) (hb : w.heap[n]? = some (.cells #[v0, v1, v2, v3, v4] 28 (0, 0))) :
    (results Tryd.f18 tmps).run Tryd.prog w = .ok (.tuple #[.agg #[v0, v1, v2, v3, v4], .int .i64 z]) w := by
  obtain ⟨c0, c1, c2, c3, c4⟩ := cells5 hb
  simp [results, Tryd.results18, go_sem, h6, h7, c0, c1, c2, c3, c4]
/-- what Decode answers -/
def HDecAns (j : ByteArray) (w : World) (e : Ending) (w' : World) : Prop :=
  ∃ v, e = .returned (.tuple #[(decH j).ans.val v, .int .i64 (decH j).err]) ∧ w'.ownsRow w.heap.size 9 1 v (decH j).ans.L.length (strsV (decH j).ans.L) ∧ w.grownBy w' none
theorem hdecAns_bad {j : ByteArray} {w w' : World} {z : Int} (h : (decH j).err = z) (hz : z ≠ 0) (g : w.grownBy w' none) : HDecAns j w (.returned (.tuple #[.agg #[.int .u64 0, .string ⟨#[]⟩, .int .i64 0, .int .i64 0, .slice none 0 0], .int .i64 z])) w' := by
  refine ⟨.slice none 0 0, ?_, ?_, g⟩
  · unfold DecH.ans
    rw [if_neg (by rw [h]; exact hz), h]
    rfl
  · unfold DecH.ans
    rw [if_neg (by rw [h]; exact hz)]
    exact World.ownsRow_nil _ _ _ _
set_option maxRecDepth 100000 in
set_option maxHeartbeats 4000000 in
theorem hdecode_any (j : ByteArray) (hj : j.size ≤ 1000000000) (w : World) :
    Calls Tryd.prog 18 #[.string j] w fun e w' => HDecAns j w e w' := by
  obtain ⟨i0, hti, hz0, hz1, hz2⟩ := info_parts infoStrW
  obtain ⟨n, hn⟩ : ∃ n, w.heap.size = n := ⟨_, rfl⟩
  have hr0 := heap_alloc_at w (.cells #[.int .u64 0, .string ⟨#[]⟩, .int .i64 0, .int .i64 0, .slice none 0 0] 28) n hn
  have hg0 : w.grownBy (w.alloc (.cells #[.int .u64 0, .string ⟨#[]⟩, .int .i64 0, .int .i64 0, .slice none 0 0] 28)) none := World.grownBy_alloc _ _ _
  obtain ⟨W0, hW0⟩ : ∃ W0, w.alloc (.cells #[.int .u64 0, .string ⟨#[]⟩, .int .i64 0, .int .i64 0, .slice none 0 0] 28) = W0 := ⟨_, rfl⟩
  rw [hW0] at hr0 hg0
  have hz0' : W0.heap.size = n + 1 := by rw [← hW0, World.size_alloc, hn]
  have hrd := read_any j W0
  rw [hz0'] at hrd
  have HRD := Lib.hid hrd
  have HR0 := Lib.hid (And.intro hr0 hg0)
  have HW0 := Lib.hid hW0
  have HN := Lib.hid hn
  obtain ⟨s1, hs1⟩ : ∃ x, ((⟨j, 0⟩ : RSt).num 4) = x := ⟨_, rfl⟩
  obtain ⟨s2, hs2⟩ : ∃ x, (s1.2.fixed 16) = x := ⟨_, rfl⟩
  obtain ⟨s3, hs3⟩ : ∃ x, (s2.2.num 1) = x := ⟨_, rfl⟩
  obtain ⟨s4, hs4⟩ : ∃ x, (s3.2.num 1) = x := ⟨_, rfl⟩
  have hD : decH j = ⟨s1.1, s2.1, s3.1, s4.1, (readK s4.2 (2 ^ s3.1)).1, (readK s4.2 (2 ^ s3.1)).2⟩ := by
    unfold decH
    simp only
    rw [hs1, hs2, hs3, hs4]
  have hz1' : s1.2.rest.size ≤ 1000000000 := by rw [← hs1]; exact Nat.le_trans (rest_le _ _).1 hj
  have hz2' : s2.2.rest.size ≤ 1000000000 := by rw [← hs2]; exact Nat.le_trans (rest_le _ _).2 hz1'
  have hz3' : s3.2.rest.size ≤ 1000000000 := by rw [← hs3]; exact Nat.le_trans (rest_le _ _).1 hz2'
  have hz4' : s4.2.rest.size ≤ 1000000000 := by rw [← hs4]; exact Nat.le_trans (rest_le _ _).1 hz3'
  have hb1 : s1.1 < 4294967296 := by rw [← hs1]; exact num_small _ 4 (by omega)
  have hb2 : s2.1.size ≤ 16 := by rw [← hs2]; exact fixed_size s1.2 16
  have hb3 : s3.1 < 256 := by rw [← hs3]; exact num_small _ 1 (by omega)
  have hb4 : s4.1 < 256 := by rw [← hs4]; exact num_small _ 1 (by omega)
  have HF1 : Hid (∀ w' : World, RdAt w' (n + 1) j 0 → Calls Tryd.prog 50 #[.pointer (some ⟨n + 1, 0, none⟩), .int .i64 4] w' fun e w'' => e = .returned (.int .u64 s1.1) ∧ RdAt w'' (n + 1) s1.2.rest s1.2.err ∧ w'.grownBy w'' (some (n + 1))) := fun w' q => by
    have := rd_numS (s := ⟨j, 0⟩) 4 q (by show j.size ≤ _; unfold maxLen; omega)
    rwa [hs1] at this
  have HF2 : Hid (∀ w' : World, RdAt w' (n + 1) s1.2.rest s1.2.err → Calls Tryd.prog 51 #[.pointer (some ⟨n + 1, 0, none⟩), .int .i64 16] w' fun e w'' => e = .returned (.string s2.1) ∧ RdAt w'' (n + 1) s2.2.rest s2.2.err ∧ w'.grownBy w'' (some (n + 1))) := fun w' q => by
    have := rd_fixedS (s := s1.2) 16 q (by unfold maxLen; omega)
    rwa [hs2] at this
  have HF3 : Hid (∀ w' : World, RdAt w' (n + 1) s2.2.rest s2.2.err → Calls Tryd.prog 50 #[.pointer (some ⟨n + 1, 0, none⟩), .int .i64 1] w' fun e w'' => e = .returned (.int .u64 s3.1) ∧ RdAt w'' (n + 1) s3.2.rest s3.2.err ∧ w'.grownBy w'' (some (n + 1))) := fun w' q => by
    have := rd_numS (s := s2.2) 1 q (by unfold maxLen; omega)
    rwa [hs3] at this
  have HF4 : Hid (∀ w' : World, RdAt w' (n + 1) s3.2.rest s3.2.err → Calls Tryd.prog 50 #[.pointer (some ⟨n + 1, 0, none⟩), .int .i64 1] w' fun e w'' => e = .returned (.int .u64 s4.1) ∧ RdAt w'' (n + 1) s4.2.rest s4.2.err ∧ w'.grownBy w'' (some (n + 1))) := fun w' q => by
    have := rd_numS (s := s3.2) 1 q (by unfold maxLen; omega)
    rwa [hs4] at this
  have HD := Lib.hid hD
  have HB := Lib.hid (And.intro hb1 (And.intro hb2 (And.intro hb3 (And.intro hb4 hz4'))))
  have hnew : ∀ g, some (n + 1) = some g → w.heap.size ≤ g := fun g e => by cases e; omega
  have HNEW := Lib.hid hnew
  obtain ⟨e0, he0⟩ : ∃ x, s1.1 = x := ⟨_, rfl⟩
  obtain ⟨p0, hp0⟩ : ∃ x, s2.1 = x := ⟨_, rfl⟩
  obtain ⟨d0, hd0⟩ : ∃ x, s3.1 = x := ⟨_, rfl⟩
  obtain ⟨a0, ha0⟩ : ∃ x, s4.1 = x := ⟨_, rfl⟩
  rw [he0] at HF1 HD HB
  rw [hp0] at HF2 HD HB
  rw [hd0] at HF3 HD HB
  rw [ha0] at HF4 HD HB
  have r1 : IntKind.i64.wrap (d0 : Int) = (d0 : Int) := IntWalk.i64_in _ (by omega)
  have r2 : IntKind.i64.wrap (a0 : Int) = (a0 : Int) := IntWalk.i64_in _ (by omega)
  clear hr0 hg0 hW0 hz0' hrd hn hj hs1 hs2 hs3 hs4 hD hz1' hz2' hz3' hz4' hb1 hb2 hb3 hb4 hnew he0 hp0 hd0 ha0
  go_enter Tryd.func18, Tryd.ntmps18
  go_wp2_with (rw [HW0.out, HN.out])
  refine HRD.out.mono ?_
  rintro e w1 ⟨rfl, hrd1, g1⟩
  have HR1 := Lib.hid hrd1
  have HS1 := Lib.hid (And.intro (grownBy_trans HR0.out.2 g1) (g1.heap HR0.out.1 (by simp)))
  clear hrd1 g1 HRD HR0
  go_wp2_with fail
  refine (HF1.out _ HR1.out).mono ?_
  rintro e w2 ⟨rfl, hrd2, g2⟩
  have HR2 := Lib.hid hrd2
  have HS2 := Lib.hid (And.intro (grown_row HS1.out.1 g2 HNEW.out) (g2.heap HS1.out.2 (fun e => by have := Option.some.inj e; omega)))
  clear hrd2 g2 HR1 HS1 HF1
  go_wp2_with fail
  refine (HF2.out _ HR2.out).mono ?_
  rintro e w3 ⟨rfl, hrd3, g3⟩
  have HR3 := Lib.hid hrd3
  have HS3 := Lib.hid (And.intro (grown_row HS2.out.1 g3 HNEW.out) (g3.heap HS2.out.2 (fun e => by have := Option.some.inj e; omega)))
  clear hrd3 g3 HR2 HS2 HF2
  go_wp2_with fail
  refine (HF3.out _ HR3.out).mono ?_
  rintro e w4 ⟨rfl, hrd4, g4⟩
  have hlt4 : n + 1 < w4.heap.size := (Array.getElem?_eq_some_iff.1 (show w4.heap[n + 1]? = _ from hrd4)).1
  have hgr4 := grown_row HS3.out.1 g4 HNEW.out
  have hre4 := g4.heap HS3.out.2 (fun e => by have := Option.some.inj e; omega)
  clear g4 HR3 HS3 HF3
  obtain ⟨hb, hhb⟩ : ∃ hb, w4.heap.size = hb := ⟨_, rfl⟩
  have hh5 := heap_alloc_at w4 (.cells #[.int .u64 e0, .string p0, .int .i64 d0, .int .i64 0, .slice none 0 0] 28) hb hhb
  have hg5 : w4.grownBy (w4.alloc (.cells #[.int .u64 e0, .string p0, .int .i64 d0, .int .i64 0, .slice none 0 0] 28)) none := World.grownBy_alloc _ _ _
  obtain ⟨W5, hW5⟩ : ∃ W5, w4.alloc (.cells #[.int .u64 e0, .string p0, .int .i64 d0, .int .i64 0, .slice none 0 0] 28) = W5 := ⟨_, rfl⟩
  rw [hW5] at hh5 hg5
  have H5 : Hid (HDecAt n hb w W5 e0 p0 d0 0 (.slice none 0 0) [] s3.2) := Lib.hid ⟨World.ownsRow_nil _ _ _ _, hg5.heap hre4 (by simp), hg5.heap hrd4 (by simp), hh5, grownBy_trans hgr4 hg5, by omega⟩
  have HW5 := Lib.hid (And.intro hW5 hhb)
  obtain ⟨x0, x1, x2, x3, x4⟩ := cells5 hh5
  have HDM := Lib.hid (fun w' => depthMay_any (d0 : Int) w')
  clear hrd4 hlt4 hgr4 hre4 hhb hh5 hg5 hW5
  by_cases hd4 : 4 < d0
  · have hdec : decide ((0 : Int) ≤ (d0 : Int) ∧ (d0 : Int) ≤ 4) = false := decide_eq_false (by omega)
    rw [hdec] at HDM
    have HER : Hid ((decH j).err = 10) := Lib.hid (by rw [HD.out]; unfold DecH.err; rw [if_pos hd4])
    obtain ⟨u0, u1, u2, u3, u4⟩ := cells5 H5.out.res
    have uf : ∀ j, W5.frozen? ⟨n, j, none⟩ = false := fun j => free_of H5.out.res j
    clear hdec hd4
    go_wp2_with (first | rw [HW5.out.1, HW5.out.2] | rw [HW5.out.1])
    refine (HDM.out _).mono ?_
    rintro e w6 ⟨rfl, rfl⟩
    go_wp2_with fail
    refine bodyPost_ret (results_hdec (n := n) (v0 := .int .u64 0) (v1 := .string ⟨#[]⟩) (v2 := .int .i64 0) (v3 := .int .i64 0) (v4 := .slice none 0 0) rfl rfl (heap5 H5.out.res _ _ _ _ _)) rfl ?_
    exact hdecAns_bad HER.out (by decide) (grown_row H5.out.grown (grown5 _ n _ _ _ _ _) (fun y q => by have e2 : n = y := Option.some.inj q; have := HN.out; omega))
  · have hdec : decide ((0 : Int) ≤ (d0 : Int) ∧ (d0 : Int) ≤ 4) = true := decide_eq_true (by omega)
    rw [hdec] at HDM
    have HD4 := Lib.hid hd4
    have HC := Lib.hid (fun w' => bcount_in d0 (by omega) w')
    have hN16 : 2 ^ d0 ≤ 16 := pow4 (by omega)
    obtain ⟨N, hNN⟩ : ∃ N, 2 ^ d0 = N := ⟨_, rfl⟩
    rw [hNN] at HC HD hN16
    have HNN := Lib.hid (And.intro hNN hN16)
    have HBB := Lib.hid (And.intro HB.out.1 HB.out.2.1)
    clear hdec hd4 hNN hN16
    go_wp2_with (first | rw [HW5.out.1, HW5.out.2] | rw [HW5.out.1])
    refine (HDM.out _).mono ?_
    rintro e w6 ⟨rfl, rfl⟩
    clear x0 x1 x2 x3 x4
    go_wp2_with fail
    refine (HF4.out _ H5.out.rd).mono ?_
    rintro e w7 ⟨rfl, hrd7, g7⟩
    have H7 := Lib.hid (H5.out.read HN.out g7 hrd7)
    obtain ⟨x0, x1, x2, x3, x4⟩ := cells5 H7.out.hdr
    have uf : ∀ j, w7.frozen? ⟨hb, j, none⟩ = false := fun j => free_of H7.out.hdr j
    have H8 := Lib.hid (H7.out.aud HN.out (a0 : Int))
    obtain ⟨W8, hW8⟩ : ∃ W8, w7.setCell ⟨hb, 3, none⟩ (.int .i64 (a0 : Int)) = W8 := ⟨_, rfl⟩
    rw [hW8] at H8
    have HW8 := Lib.hid hW8
    have y2 : W8.cell? ⟨hb, 2, none⟩ = some (.int .i64 d0) := (cells5 H8.out.hdr).2.2.1
    clear hrd7 g7 H5 HF4 H7 hW8
    go_wp2_with (rw [HW8.out])
    refine (HC.out _).mono ?_
    rintro e w9 ⟨rfl, rfl⟩
    clear x0 x1 x2 x3 x4 uf y2
    go_wp2_with fail
    go_loopw [29] (fun iv wr => ∃ i : Nat, i ≤ N ∧ ∃ (bv : Value) (Bk : List ByteArray), iv = .int .i64 i ∧ Hid (Bk = (readK s4.2 i).1) ∧ Hid (HDecAt n hb w wr e0 p0 d0 a0 bv Bk (readK s4.2 i).2)) (fun iv _ => N - (intOf iv).toNat)
    case atStart => exact ⟨0, Nat.zero_le _, _, [], rfl, Lib.hid rfl, H8.out⟩
    case round =>
      clear H8
      obtain ⟨i, hi, bv, Bk, rfl, HBk, HA1⟩ := hrel
      obtain ⟨ba, bc, rfl⟩ := slice_own' HA1.out.way
      have hbl : Bk.length = i := by rw [HBk.out, readK_len]
      by_cases hil : i < N
      · have e1 : (i : Int) < (N : Int) := by omega
        have hsz : (readK s4.2 i).2.rest.size ≤ maxLen := by have := readK_rest_le s4.2 i; have := HB.out.2.2.2.2; unfold maxLen; omega
        have htx := rd_text1 (s := (readK s4.2 i).2) HA1.out.drew.rd hsz
        obtain ⟨x, hx⟩ : ∃ x, (readK s4.2 i).2.text.1 = x := ⟨_, rfl⟩
        obtain ⟨s5, hs5⟩ : ∃ x, (readK s4.2 i).2.text.2 = x := ⟨_, rfl⟩
        rw [hx, hs5] at htx
        have HTX := Lib.hid htx
        have HX := Lib.hid (And.intro hx hs5)
        have hcp := HA1.out.cell
        have hN16 := HNN.out.2
        have hz1' : Bk.length + 1 ≤ maxLen := by unfold maxLen; omega
        have hz2' : (Bk.length + 1) * 16 ≤ 140737488355328 := by omega
        have HSZ := Lib.hid (And.intro hz1' hz2')
        have HIL := Lib.hid hil
        have e16 : (i : Int) < 16 := by omega
        have r3 : IntKind.i64.wrap ((i : Int) + 1) = (i : Int) + 1 := IntWalk.i64_in _ (by omega)
        clear hsz htx hx hs5 hz1' hz2' hbl hN16
        go_wp2_with fail
        refine wp_region_any (by kernel_rfl) ?_
        try (change wpAny _ _ _ _ _ _ _ (World.drew _))
        refine wpAny_take (i := 0) (v := ?vhd_0) rfl (by kernel_rfl) (by kernel_rfl) (by kernel_rfl) (fun _ _ _ h => h) (Or.inl ⟨by rfl, ?hhd_0⟩) ?rhd_0
        case hhd_0 => (intro w0; go_simp; (try with_reducible rfl))
        try simp only [Act.put, List.setIfInBounds_toArray, List.set_cons_zero, List.set_cons_succ]
        refine wpAny_take (i := 2) (v := ?vhd_1) rfl (by kernel_rfl) (by kernel_rfl) (by kernel_rfl) (fun _ _ _ h => h) (Or.inl ⟨by rfl, ?hhd_1⟩) ?rhd_1
        case hhd_1 => (intro w0; go_simp; (try with_reducible rfl))
        try simp only [Act.put, List.setIfInBounds_toArray, List.set_cons_zero, List.set_cons_succ]
        refine wpAny_ready (rs := [1, 3]) (by kernel_rfl) (by simp) ?_
        refine AllReady.cons rfl (fun K hK => ?ahd_3) ?bhd_3
        case ahd_3 =>
          go_simp
          refine hK _ _ ?_
          clear hK K
          try simp only [Act.put, List.setIfInBounds_toArray, List.set_cons_zero, List.set_cons_succ]
          refine wpAny_ready (rs := [3]) (by kernel_rfl) (by simp) ?_
          refine AllReady.cons rfl (fun K hK => ?ahd_4) ?bhd_4
          case ahd_4 =>
            (go_simp; go_at_call 53; (with_reducible refine (HTX.out).mono ?_); rintro e w7 ⟨rfl, hw7, g7⟩; have HA7 := Lib.hid ((HA1.out.drew).read HN.out g7 hw7); have hc7 : w7.cell? ⟨hb, 4, none⟩ = some (.slice ba Bk.length bc) := HA7.out.cell; clear hw7 g7)
            refine hK _ _ ?_
            clear hK K
            try simp only [Act.put, List.setIfInBounds_toArray, List.set_cons_zero, List.set_cons_succ]
            refine wpAny_ready (rs := [4]) (by kernel_rfl) (by simp) ?_
            refine AllReady.cons rfl (fun K hK => ?ahd_5) ?bhd_5
            case ahd_5 =>
              go_simp
              refine hK _ _ ?_
              clear hK K
              try simp only [Act.put, List.setIfInBounds_toArray, List.set_cons_zero, List.set_cons_succ]
              refine wpAny_ready (rs := [5]) (by kernel_rfl) (by simp) ?_
              refine AllReady.cons rfl (fun K hK => ?ahd_6) ?bhd_6
              case ahd_6 =>
                (refine step_append_lies _ rfl (.tmp 32) (.tmp 35) 26 rfl (hb + 1) 9 i0 (.string ⟨#[]⟩) 1 16 Tryd.underlying26 hti hz0 hz1 hz2 rfl (by decide) (.slice ba Bk.length bc) Bk.length (strsV Bk) rfl (HA7.out.way.alloc _) ⟨w7.heap.size, 0, none⟩ 1 1 [.string x] rfl rfl (lit_one w7 x) (one_textP x) (Nat.zero_lt_one) HSZ.out.1 HSZ.out.2 (Nat.le_trans HA7.out.size (size_allocP (World.grownBy.refl w7 none) _)) _ rfl ?_; intro g8 c8 w8 ho8 hg8 hor _; rw [push_strs] at ho8; have HPU := Lib.hid (HA7.out.push HN.out hg8 ho8 hor); have h8 := HA7.out.prf8 hg8; have hc8 := h8.1; have hf8 := h8.2; clear h8 ho8 hg8 hor)
                refine hK _ _ ?_
                clear hK K
                try simp only [Act.put, List.setIfInBounds_toArray, List.set_cons_zero, List.set_cons_succ]
                refine wpAny_take (i := 6) (v := ?vhd_6) rfl (by kernel_rfl) (by kernel_rfl) (by kernel_rfl) (fun _ _ _ h => h) (Or.inl ⟨by rfl, ?hhd_6⟩) ?rhd_6
                case hhd_6 => (intro w0; go_simp; (try with_reducible rfl))
                try simp only [Act.put, List.setIfInBounds_toArray, List.set_cons_zero, List.set_cons_succ]
                refine wpAny_ready (rs := [7]) (by kernel_rfl) (by simp) ?_
                refine AllReady.cons rfl (fun K hK => ?ahd_8) ?bhd_8
                case ahd_8 =>
                  go_simp
                  refine hK _ _ ?_
                  clear hK K
                  try simp only [Act.put, List.setIfInBounds_toArray, List.set_cons_zero, List.set_cons_succ]
                  refine wpAny_done (by kernel_rfl) ?_ _
                  try dsimp only
                  (go_wp2_with fail; go_roundw; (case rel => exact ⟨i + 1, by have := HIL.out; omega, _, Bk ++ [x], by go_num, Lib.hid (by rw [HBk.out, ← HX.out.1]; rfl), Lib.hid (by have := HPU.out; rw [← HX.out.2] at this; exact this)⟩); (case measure => have := HIL.out; simp [intOf]; omega))
                case bhd_8 =>
                  exact AllReady.nil
              case bhd_6 =>
                exact AllReady.nil
            case bhd_5 =>
              exact AllReady.nil
          case bhd_4 =>
            exact AllReady.nil
        case bhd_3 =>
          refine AllReady.cons rfl (fun K hK => ?ahd_9) ?bhd_9
          case ahd_9 =>
            (go_simp; go_at_call 53; (with_reducible refine (HTX.out).mono ?_); rintro e w7 ⟨rfl, hw7, g7⟩; have HA7 := Lib.hid ((HA1.out.drew).read HN.out g7 hw7); have hc7 : w7.cell? ⟨hb, 4, none⟩ = some (.slice ba Bk.length bc) := HA7.out.cell; clear hw7 g7)
            refine hK _ _ ?_
            clear hK K
            try simp only [Act.put, List.setIfInBounds_toArray, List.set_cons_zero, List.set_cons_succ]
            refine wpAny_ready (rs := [1, 4]) (by kernel_rfl) (by simp) ?_
            refine AllReady.cons rfl (fun K hK => ?ahd_10) ?bhd_10
            case ahd_10 =>
              go_simp
              refine hK _ _ ?_
              clear hK K
              try simp only [Act.put, List.setIfInBounds_toArray, List.set_cons_zero, List.set_cons_succ]
              refine wpAny_ready (rs := [4]) (by kernel_rfl) (by simp) ?_
              refine AllReady.cons rfl (fun K hK => ?ahd_11) ?bhd_11
              case ahd_11 =>
                go_simp
                refine hK _ _ ?_
                clear hK K
                try simp only [Act.put, List.setIfInBounds_toArray, List.set_cons_zero, List.set_cons_succ]
                refine wpAny_ready (rs := [5]) (by kernel_rfl) (by simp) ?_
                refine AllReady.cons rfl (fun K hK => ?ahd_12) ?bhd_12
                case ahd_12 =>
                  (refine step_append_lies _ rfl (.tmp 32) (.tmp 35) 26 rfl (hb + 1) 9 i0 (.string ⟨#[]⟩) 1 16 Tryd.underlying26 hti hz0 hz1 hz2 rfl (by decide) (.slice ba Bk.length bc) Bk.length (strsV Bk) rfl (HA7.out.way.alloc _) ⟨w7.heap.size, 0, none⟩ 1 1 [.string x] rfl rfl (lit_one w7 x) (one_textP x) (Nat.zero_lt_one) HSZ.out.1 HSZ.out.2 (Nat.le_trans HA7.out.size (size_allocP (World.grownBy.refl w7 none) _)) _ rfl ?_; intro g8 c8 w8 ho8 hg8 hor _; rw [push_strs] at ho8; have HPU := Lib.hid (HA7.out.push HN.out hg8 ho8 hor); have h8 := HA7.out.prf8 hg8; have hc8 := h8.1; have hf8 := h8.2; clear h8 ho8 hg8 hor)
                  refine hK _ _ ?_
                  clear hK K
                  try simp only [Act.put, List.setIfInBounds_toArray, List.set_cons_zero, List.set_cons_succ]
                  refine wpAny_take (i := 6) (v := ?vhd_12) rfl (by kernel_rfl) (by kernel_rfl) (by kernel_rfl) (fun _ _ _ h => h) (Or.inl ⟨by rfl, ?hhd_12⟩) ?rhd_12
                  case hhd_12 => (intro w0; go_simp; (try with_reducible rfl))
                  try simp only [Act.put, List.setIfInBounds_toArray, List.set_cons_zero, List.set_cons_succ]
                  refine wpAny_ready (rs := [7]) (by kernel_rfl) (by simp) ?_
                  refine AllReady.cons rfl (fun K hK => ?ahd_14) ?bhd_14
                  case ahd_14 =>
                    go_simp
                    refine hK _ _ ?_
                    clear hK K
                    try simp only [Act.put, List.setIfInBounds_toArray, List.set_cons_zero, List.set_cons_succ]
                    refine wpAny_done (by kernel_rfl) ?_ _
                    try dsimp only
                    (go_wp2_with fail; go_roundw; (case rel => exact ⟨i + 1, by have := HIL.out; omega, _, Bk ++ [x], by go_num, Lib.hid (by rw [HBk.out, ← HX.out.1]; rfl), Lib.hid (by have := HPU.out; rw [← HX.out.2] at this; exact this)⟩); (case measure => have := HIL.out; simp [intOf]; omega))
                  case bhd_14 =>
                    exact AllReady.nil
                case bhd_12 =>
                  exact AllReady.nil
              case bhd_11 =>
                exact AllReady.nil
            case bhd_10 =>
              refine AllReady.cons rfl (fun K hK => ?ahd_15) ?bhd_15
              case ahd_15 =>
                go_simp
                refine hK _ _ ?_
                clear hK K
                try simp only [Act.put, List.setIfInBounds_toArray, List.set_cons_zero, List.set_cons_succ]
                refine wpAny_ready (rs := [1]) (by kernel_rfl) (by simp) ?_
                refine AllReady.cons rfl (fun K hK => ?ahd_16) ?bhd_16
                case ahd_16 =>
                  (have hc7a : (w7.alloc (.cells #[.string x] 9)).cell? ⟨hb, 4, none⟩ = some (.slice ba Bk.length bc) := (World.grownBy_alloc w7 _ none).cell hc7 (by simp); go_simp)
                  refine hK _ _ ?_
                  clear hK K
                  try simp only [Act.put, List.setIfInBounds_toArray, List.set_cons_zero, List.set_cons_succ]
                  refine wpAny_ready (rs := [5]) (by kernel_rfl) (by simp) ?_
                  refine AllReady.cons rfl (fun K hK => ?ahd_17) ?bhd_17
                  case ahd_17 =>
                    (refine step_append_lies _ rfl (.tmp 32) (.tmp 35) 26 rfl (hb + 1) 9 i0 (.string ⟨#[]⟩) 1 16 Tryd.underlying26 hti hz0 hz1 hz2 rfl (by decide) (.slice ba Bk.length bc) Bk.length (strsV Bk) rfl (HA7.out.way.alloc _) ⟨w7.heap.size, 0, none⟩ 1 1 [.string x] rfl rfl (lit_one w7 x) (one_textP x) (Nat.zero_lt_one) HSZ.out.1 HSZ.out.2 (Nat.le_trans HA7.out.size (size_allocP (World.grownBy.refl w7 none) _)) _ rfl ?_; intro g8 c8 w8 ho8 hg8 hor _; rw [push_strs] at ho8; have HPU := Lib.hid (HA7.out.push HN.out hg8 ho8 hor); have h8 := HA7.out.prf8 hg8; have hc8 := h8.1; have hf8 := h8.2; clear h8 ho8 hg8 hor)
                    refine hK _ _ ?_
                    clear hK K
                    try simp only [Act.put, List.setIfInBounds_toArray, List.set_cons_zero, List.set_cons_succ]
                    refine wpAny_take (i := 6) (v := ?vhd_17) rfl (by kernel_rfl) (by kernel_rfl) (by kernel_rfl) (fun _ _ _ h => h) (Or.inl ⟨by rfl, ?hhd_17⟩) ?rhd_17
                    case hhd_17 => (intro w0; go_simp; (try with_reducible rfl))
                    try simp only [Act.put, List.setIfInBounds_toArray, List.set_cons_zero, List.set_cons_succ]
                    refine wpAny_ready (rs := [7]) (by kernel_rfl) (by simp) ?_
                    refine AllReady.cons rfl (fun K hK => ?ahd_19) ?bhd_19
                    case ahd_19 =>
                      go_simp
                      refine hK _ _ ?_
                      clear hK K
                      try simp only [Act.put, List.setIfInBounds_toArray, List.set_cons_zero, List.set_cons_succ]
                      refine wpAny_done (by kernel_rfl) ?_ _
                      try dsimp only
                      (go_wp2_with fail; go_roundw; (case rel => exact ⟨i + 1, by have := HIL.out; omega, _, Bk ++ [x], by go_num, Lib.hid (by rw [HBk.out, ← HX.out.1]; rfl), Lib.hid (by have := HPU.out; rw [← HX.out.2] at this; exact this)⟩); (case measure => have := HIL.out; simp [intOf]; omega))
                    case bhd_19 =>
                      exact AllReady.nil
                  case bhd_17 =>
                    exact AllReady.nil
                case bhd_16 =>
                  exact AllReady.nil
              case bhd_15 =>
                exact AllReady.nil
          case bhd_9 =>
            exact AllReady.nil
      · have e1 : ¬ (i : Int) < (N : Int) := by omega
        have hiN : i = N := by omega
        rw [hiN] at HBk HA1 hbl
        obtain ⟨R, hR⟩ : ∃ R, readK s4.2 N = R := ⟨_, rfl⟩
        have hsm : ∀ x ∈ Bk, x.size ≤ 4096 := by rw [HBk.out]; exact readK_small s4.2 N
        have HDD : Hid (decH j = ⟨e0, p0, d0, a0, R.1, R.2⟩) := Lib.hid (by rw [HD.out, ← HNN.out.1] ; rw [HNN.out.1, hR])
        rw [hR] at HBk HA1
        have HBL := Lib.hid hbl
        have HSM := Lib.hid hsm
        have HEND := Lib.hid (rd_endS HA1.out.rd)
        obtain ⟨dn, hdn⟩ : ∃ dn, R.2.done = dn := ⟨_, rfl⟩
        rw [hdn] at HEND
        have HDN := Lib.hid hdn
        have HNEW2 : Hid (∀ (wz : World) (v0 v1 v2 v3 v4 : Value), w.grownBy wz none → w.grownBy (((((wz.setCell ⟨n, 0, none⟩ v0).setCell ⟨n, 1, none⟩ v1).setCell ⟨n, 2, none⟩ v2).setCell ⟨n, 3, none⟩ v3).setCell ⟨n, 4, none⟩ v4) none) := Lib.hid (fun wz v0 v1 v2 v3 v4 q => grown_row q (grown5 wz n _ _ _ _ _) (fun y e => by have e2 : n = y := Option.some.inj e; have := HN.out; omega))
        clear hR hsm hbl hdn hi hil hiN HD HB HC
        go_wp2_with fail
        refine HEND.out.mono ?_
        rintro e w9 ⟨rfl, rfl⟩
        by_cases hd0 : dn = 0
        · have q1 : (dn == 0) = true := by simp [hd0]
          have q2 : (dn != 0) = false := by simp [hd0]
          have HD0 := Lib.hid hd0
          have HCK := Lib.hid (fun w' q => hcheck_any (⟨e0, p0, d0, a0, Bk⟩ : HdrS) ⟨by show e0 ≤ _; have := HBB.out.1; omega, by show p0.size ≤ _; have := HBB.out.2; omega, by show Bk.length ≤ _; have := HBL.out; have := HNN.out.2; omega, fun s hs => by have := HSM.out s hs; omega⟩ (.slice ba Bk.length bc) w' q)
          obtain ⟨ce, hce⟩ : ∃ ce, (⟨e0, p0, d0, a0, Bk⟩ : HdrS).err = ce := ⟨_, rfl⟩
          rw [hce] at HCK
          have HCE := Lib.hid hce
          have HERR : Hid ((decH j).err = ce) := Lib.hid (by
            rw [HDD.out]
            unfold DecH.err
            rw [if_neg (by exact HD4.out), if_neg (by show ¬ R.2.done ≠ 0; rw [HDN.out, HD0.out]; simp)]
            show (⟨e0, p0, d0, a0, R.1⟩ : HdrS).err = ce
            rw [← HBk.out]
            exact HCE.out)
          obtain ⟨x0, x1, x2, x3, x4⟩ := cells5 HA1.out.hdr
          clear hce hd0
          go_wp2_with fail
          refine (HCK.out _ (strs_own HA1.out.way)).mono ?_
          rintro e w10 ⟨rfl, g10⟩
          have hres := g10.heap HA1.out.res (by simp)
          have hhdr := g10.heap HA1.out.hdr (by simp)
          have hway := own_keep HA1.out.way g10 (fun _ _ e => by cases e)
          have HX10 := Lib.hid (And.intro hres (And.intro (grownBy_trans HA1.out.grown g10) (And.intro hway hway.lt)))
          obtain ⟨u0, u1, u2, u3, u4⟩ := cells5 hres
          have uf : ∀ j, w10.frozen? ⟨n, j, none⟩ = false := fun j => free_of hres j
          clear x0 x1 x2 x3 x4
          obtain ⟨x0, x1, x2, x3, x4⟩ := cells5 hhdr
          clear hres hhdr hway g10
          have HLT := Lib.hid HA1.out.lt
          by_cases hc0 : ce = 0
          · have q3 : (ce == 0) = true := by simp [hc0]
            have q4 : (ce != 0) = false := by simp [hc0]
            have HC0 := Lib.hid hc0
            clear hc0
            go_wp2_with fail
            refine bodyPost_ret (results_hdec (n := n) (v0 := .int .u64 e0) (v1 := .string p0) (v2 := .int .i64 d0) (v3 := .int .i64 a0) (v4 := .slice ba Bk.length bc) rfl rfl (heap5 HX10.out.1 _ _ _ _ _)) rfl ?_
            have hans : (decH j).ans = ⟨e0, p0, d0, a0, Bk⟩ := by
              unfold DecH.ans
              rw [if_pos (by rw [HERR.out, HC0.out]), HDD.out, HBk.out]
              rfl
            refine ⟨.slice ba Bk.length bc, ?_, ?_, HNEW2.out _ _ _ _ _ _ HX10.out.2.1⟩
            · rw [hans, HERR.out, HC0.out]; rfl
            · rw [hans]
              refine own_low (own_keep HX10.out.2.2.1 (grown5 _ n _ _ _ _ _) (fun y hy e => by have e2 : n = y := Option.some.inj e; have := (HX10.out.2.2.2 y hy).1; have := HLT.out; omega)) ?_
              have := HN.out
              have := HLT.out
              omega
          · have q3 : (ce == 0) = false := by simp [hc0]
            have q4 : (ce != 0) = true := by simp [hc0]
            have HC0 := Lib.hid hc0
            clear hc0
            go_wp2_with fail
            refine bodyPost_ret (results_hdec (n := n) (v0 := .int .u64 0) (v1 := .string ⟨#[]⟩) (v2 := .int .i64 0) (v3 := .int .i64 0) (v4 := .slice none 0 0) rfl rfl (heap5 HX10.out.1 _ _ _ _ _)) rfl ?_
            exact hdecAns_bad HERR.out HC0.out (HNEW2.out _ _ _ _ _ _ HX10.out.2.1)
        · have q1 : (dn == 0) = false := by simp [hd0]
          have q2 : (dn != 0) = true := by simp [hd0]
          have HD0 := Lib.hid hd0
          have HERR : Hid ((decH j).err = dn) := Lib.hid (by
            rw [HDD.out]
            unfold DecH.err
            rw [if_neg (by exact HD4.out), if_pos (by show R.2.done ≠ 0; rw [HDN.out]; exact HD0.out)]
            exact HDN.out)
          obtain ⟨u0, u1, u2, u3, u4⟩ := cells5 HA1.out.res
          have uf : ∀ j, wr.frozen? ⟨n, j, none⟩ = false := fun j => free_of HA1.out.res j
          clear hd0
          go_wp2_with fail
          refine bodyPost_ret (results_hdec (n := n) (v0 := .int .u64 0) (v1 := .string ⟨#[]⟩) (v2 := .int .i64 0) (v3 := .int .i64 0) (v4 := .slice none 0 0) rfl rfl (heap5 HA1.out.res _ _ _ _ _)) rfl ?_
          exact hdecAns_bad HERR.out HD0.out (HNEW2.out _ _ _ _ _ _ HA1.out.grown)
end Go.Proofs.YtemndmhdlgfajaaDoor
