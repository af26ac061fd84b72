/- The walk of an attestation's Decode, of any bytes. -/
import Derived.Test.YtioahjdojgcfdaaDoorAttestParsesB5
import Derived.Test.YtioahjdojgcfdaaDoorAttestParsesB6
import Derived.Test.YtioahjdojgcfdaaDoorPolC
import Derived.Test.YtioahjdojgcfdaaDoorAttestParsesB2
namespace Go.Proofs.YtioahjdojgcfdaaDoor
open Go.RowKit
attribute [local irreducible] shaL

def attZ : Value := attV 0 0 ⟨#[]⟩ 0 0 (.slice none 0 0) (.slice none 0 0)
/-- what Decode answers -/
def AttAns (w : World) (d : DecA) (g : DecG) (er : Int) (e : Ending) (w' : World) : Prop :=
  ∃ ca cc pa pc, e = .returned (.tuple #[if er = 0 then attV d.e d.b d.h d.n g.i (.slice ca 35 cc) (.slice pa (min g.n 6 : Nat) pc) else attZ, .int .i64 er]) ∧ (er = 0 → StrsAt w' (.slice ca 35 cc) g.C ∧ StrsAt w' (.slice pa (min g.n 6 : Nat) pc) g.P) ∧ w.grownBy w' none
theorem results_adec {n : Nat} {v0 v1 v2 v3 v4 v5 v6 : Value} {z : Int} {tmps : Array Value} {w : World} (h6 : tmps[2]? = some (.pointer (some ⟨n, 0, none⟩))) (h7 : tmps[3]? = some (.int .i64 z)) (hb : w.heap[n]? = some (.cells #[v0, v1, v2, v3, v4, v5, v6] 48 (0, 0))) :
    (results Tryd.f19 tmps).run Tryd.prog w = .ok (.tuple #[.agg #[v0, v1, v2, v3, v4, v5, v6], .int .i64 z]) w := by
  obtain ⟨c0, c1, c2, c3, c4, c5, c6⟩ := cells7 hb
  simp [results, Tryd.results19, go_sem, h6, h7, c0, c1, c2, c3, c4, c5, c6]
def set7 (w : World) (n : Nat) (v0 v1 v2 v3 v4 v5 v6 : Value) : World := ((((((w.setCell ⟨n, 0, none⟩ v0).setCell ⟨n, 1, none⟩ v1).setCell ⟨n, 2, none⟩ v2).setCell ⟨n, 3, none⟩ v3).setCell ⟨n, 4, none⟩ v4).setCell ⟨n, 5, none⟩ v5).setCell ⟨n, 6, none⟩ v6
theorem heap7 {w : World} {n : Nat} {t : TypeId} {u0 u1 u2 u3 u4 u5 u6 : Value} (h : w.heap[n]? = some (.cells #[u0, u1, u2, u3, u4, u5, u6] t (0, 0))) (v0 v1 v2 v3 v4 v5 v6 : Value) :
    (set7 w n v0 v1 v2 v3 v4 v5 v6).heap[n]? = some (.cells #[v0, v1, v2, v3, v4, v5, v6] t (0, 0)) := by
  have h1 : (((w.setCell ⟨n, 0, none⟩ v0).setCell ⟨n, 1, none⟩ v1).setCell ⟨n, 2, none⟩ v2).heap[n]? = some (.cells #[v0, v1, v2, u3, u4, u5, u6] t (0, 0)) := (heap_setCell (heap_setCell (heap_setCell h 0 v0) 1 v1) 2 v2).trans rfl
  have h2 : (((((w.setCell ⟨n, 0, none⟩ v0).setCell ⟨n, 1, none⟩ v1).setCell ⟨n, 2, none⟩ v2).setCell ⟨n, 3, none⟩ v3).setCell ⟨n, 4, none⟩ v4).heap[n]? = some (.cells #[v0, v1, v2, v3, v4, u5, u6] t (0, 0)) := (heap_setCell (heap_setCell h1 3 v3) 4 v4).trans rfl
  exact (heap_setCell (heap_setCell h2 5 v5) 6 v6).trans rfl
theorem grown7 (w : World) (n : Nat) (v0 v1 v2 v3 v4 v5 v6 : Value) : w.grownBy (set7 w n v0 v1 v2 v3 v4 v5 v6) (some n) :=
  grownBy_setCell (grownBy_setCell (grownBy_setCell (grownBy_setCell (grownBy_setCell (grownBy_setCell (grownBy_setCell (World.grownBy.refl w _) 0 _) 1 _) 2 _) 3 _) 4 _) 5 _) 6 _
theorem text_size_le (s : RSt) : s.text.1.size ≤ 4096 := by
  unfold RSt.text
  split
  · exact Nat.zero_le _
  · exact Nat.le_trans (fixed_size _ _) (by omega)
set_option maxRecDepth 100000 in
set_option maxHeartbeats 3200000 in
theorem adecode_any (s : ByteArray) (hs : s.size ≤ 1000000000) (w : World) :
    Calls Tryd.prog 19 #[.string s] w (AttAns w (decA s) (decG (decA s).t) (decA s).err) := by
  obtain ⟨n, hn⟩ : ∃ n, w.heap.size = n := ⟨_, rfl⟩
  have hr0 := heap_alloc_at w (.cells #[.int .u64 0, .int .i64 0, .string ⟨#[]⟩, .int .i64 0, .int .i64 0, .slice none 0 0, .slice none 0 0] 48) n hn
  have hg0 : w.grownBy (w.alloc (.cells #[.int .u64 0, .int .i64 0, .string ⟨#[]⟩, .int .i64 0, .int .i64 0, .slice none 0 0, .slice none 0 0] 48)) none := World.grownBy_alloc _ _ _
  obtain ⟨W0, hW0⟩ : ∃ W0, w.alloc (.cells #[.int .u64 0, .int .i64 0, .string ⟨#[]⟩, .int .i64 0, .int .i64 0, .slice none 0 0, .slice none 0 0] 48) = W0 := ⟨_, rfl⟩
  rw [hW0] at hr0 hg0
  have hz0 : W0.heap.size = n + 1 := by rw [← hW0, World.size_alloc, hn]
  have hrd := read_any s W0
  rw [hz0] at hrd
  have HRD := Lib.hid hrd
  have HR0 := Lib.hid hr0
  have HG0 := Lib.hid hg0
  have HW0 := Lib.hid hW0
  have HN := Lib.hid hn
  obtain ⟨s1, hs1⟩ : ∃ x, (⟨s, 0⟩ : RSt).num 4 = x := ⟨_, rfl⟩
  obtain ⟨s2, hs2⟩ : ∃ x, s1.2.num 1 = x := ⟨_, rfl⟩
  obtain ⟨s3, hs3⟩ : ∃ x, s2.2.num 2 = x := ⟨_, rfl⟩
  obtain ⟨s4, hs4⟩ : ∃ x, s3.2.fixed 16 = x := ⟨_, rfl⟩
  obtain ⟨s5, hs5⟩ : ∃ x, s4.2.text = x := ⟨_, rfl⟩
  have hD : decA s = ⟨s1.1, s2.1, s3.1, s4.1, s5.1, s5.2⟩ := by
    unfold decA
    rw [hs1, hs2, hs3, hs4, hs5]
  have hz1 : s1.2.rest.size ≤ 1000000000 := by rw [← hs1]; exact Nat.le_trans (rest_le _ _).1 hs
  have hz2 : s2.2.rest.size ≤ 1000000000 := by rw [← hs2]; exact Nat.le_trans (rest_le _ _).1 hz1
  have hz3 : s3.2.rest.size ≤ 1000000000 := by rw [← hs3]; exact Nat.le_trans (rest_le _ _).1 hz2
  have hz4 : s4.2.rest.size ≤ 1000000000 := by rw [← hs4]; exact Nat.le_trans (rest_le _ _).2 hz3
  have hb1 : s1.1 < 4294967296 := by rw [← hs1]; exact num_small _ 4 (by decide)
  have hb2 : s2.1 < 256 := by rw [← hs2]; exact num_small _ 1 (by decide)
  have hb3 : s3.1 < 65536 := by rw [← hs3]; exact num_small _ 2 (by decide)
  have hb5 : s5.1.size ≤ 1000000 := by rw [← hs5]; exact Nat.le_trans (text_size_le _) (by decide)
  have F1 : Hid (∀ w' : World, RdAt w' (n + 1) s 0 → Calls Tryd.prog 64 #[.pointer (some ⟨n + 1, 0, none⟩), .int .i64 4] w' fun e w'' => e = .returned (.int .u64 s1.1) ∧ RdAt w'' (n + 1) s1.2.rest s1.2.err ∧ w'.grownBy w'' (some (n + 1))) := fun w' q => by
    have := rd_numS (s := ⟨s, 0⟩) 4 q (by show s.size ≤ _; unfold maxLen; omega)
    rwa [hs1] at this
  have F2 : Hid (∀ w' : World, RdAt w' (n + 1) s1.2.rest s1.2.err → Calls Tryd.prog 64 #[.pointer (some ⟨n + 1, 0, none⟩), .int .i64 1] w' fun e w'' => e = .returned (.int .u64 s2.1) ∧ RdAt w'' (n + 1) s2.2.rest s2.2.err ∧ w'.grownBy w'' (some (n + 1))) := fun w' q => by
    have := rd_numS (s := s1.2) 1 q (by unfold maxLen; omega)
    rwa [hs2] at this
  have F3 : Hid (∀ w' : World, RdAt w' (n + 1) s2.2.rest s2.2.err → Calls Tryd.prog 64 #[.pointer (some ⟨n + 1, 0, none⟩), .int .i64 2] w' fun e w'' => e = .returned (.int .u64 s3.1) ∧ RdAt w'' (n + 1) s3.2.rest s3.2.err ∧ w'.grownBy w'' (some (n + 1))) := fun w' q => by
    have := rd_numS (s := s2.2) 2 q (by unfold maxLen; omega)
    rwa [hs3] at this
  have F4 : Hid (∀ w' : World, RdAt w' (n + 1) s3.2.rest s3.2.err → Calls Tryd.prog 65 #[.pointer (some ⟨n + 1, 0, none⟩), .int .i64 16] w' fun e w'' => e = .returned (.string s4.1) ∧ RdAt w'' (n + 1) s4.2.rest s4.2.err ∧ w'.grownBy w'' (some (n + 1))) := fun w' q => by
    have := rd_fixedS (s := s3.2) 16 q (by unfold maxLen; omega)
    rwa [hs4] at this
  have F5 : Hid (∀ w' : World, RdAt w' (n + 1) s4.2.rest s4.2.err → Calls Tryd.prog 66 #[.pointer (some ⟨n + 1, 0, none⟩)] w' fun e w'' => e = .returned (.string s5.1) ∧ RdAt w'' (n + 1) s5.2.rest s5.2.err ∧ w'.grownBy w'' (some (n + 1))) := fun w' q => by
    have := rd_textU (s := s4.2) q (by unfold maxLen; omega)
    rwa [hs5] at this
  obtain ⟨dn, hdn⟩ : ∃ dn, s5.2.done = dn := ⟨_, rfl⟩
  have F6 : Hid (∀ w' : World, RdAt w' (n + 1) s5.2.rest s5.2.err → Calls Tryd.prog 67 #[.pointer (some ⟨n + 1, 0, none⟩)] w' fun e w'' => e = .returned (.int .i64 dn) ∧ w' = w'') := fun w' q => by
    have := rd_endS (s := s5.2) q
    rwa [hdn] at this
  have HSD := Lib.hid (fun w' => dsig_any s5.1 (by omega) w')
  obtain ⟨g, hg⟩ : ∃ g, decG s5.1 = g := ⟨_, rfl⟩
  rw [hg] at HSD
  have HMB := Lib.hid (fun w' => mayBe_any s1.1 s2.1 s4.1 s3.1 0 none none 0 0 0 0 w')
  obtain ⟨ok, hok⟩ : ∃ ok, attOk s1.1 s2.1 s3.1 s4.1 = ok := ⟨_, rfl⟩
  rw [hok] at HMB
  obtain ⟨ge, hge⟩ : ∃ ge, g.err = ge := ⟨_, rfl⟩
  rw [hge] at HSD
  have hE : (decA s).err = if dn ≠ 0 then dn else if ge ≠ 0 then ge else if ok then 0 else 10 := by
    rw [hD]
    unfold DecA.err
    show (if s5.2.done ≠ 0 then s5.2.done else if (decG s5.1).err ≠ 0 then (decG s5.1).err else if attOk s1.1 s2.1 s3.1 s4.1 then 0 else 10) = _
    rw [hdn, hg, hge, hok]
  rw [hE, hD]
  clear hE
  obtain ⟨ER, hE⟩ : ∃ ER, (if dn ≠ 0 then dn else if ge ≠ 0 then ge else if ok then 0 else 10) = ER := ⟨_, rfl⟩
  rw [hE]
  have HE := Lib.hid hE
  show Calls _ _ _ _ (AttAns w ⟨s1.1, s2.1, s3.1, s4.1, s5.1, s5.2⟩ (decG s5.1) _)
  rw [hg]
  have HNEW : Hid (∀ g, some (n + 1) = some g → w.heap.size ≤ g) := Lib.hid (fun g e => by cases e; omega)
  have HNEW0 : Hid (∀ g, some n = some g → w.heap.size ≤ g) := Lib.hid (fun g e => by cases e; omega)
  have c2 : IntKind.i64.wrap (s2.1 : Int) = (s2.1 : Int) := IntWalk.i64_in _ (by omega)
  have c3 : IntKind.i64.wrap (s3.1 : Int) = (s3.1 : Int) := IntWalk.i64_in _ (by omega)
  have b2 : s2.1 ≤ 255 := by omega
  have b3 : s3.1 ≤ 65535 := by omega
  clear hr0 hg0 hW0 hz0 hrd hn hs hs1 hs2 hs3 hs4 hs5 hD hz1 hz2 hz3 hz4 hb1 hb2 hb3 hb5 hdn hg hok hge hE
  go_enter Tryd.func19, Tryd.ntmps19
  go_wp2_with (rw [HW0.out, HN.out])
  refine HRD.out.mono ?_
  rintro e w1 ⟨rfl, hrd1, g1⟩
  have R1 := Lib.hid hrd1
  have S1 := Lib.hid (And.intro (grownBy_trans HG0.out g1) (g1.heap HR0.out (by simp)))
  clear hrd1 g1 HRD
  go_wp2_with fail
  refine (F1.out _ R1.out).mono ?_
  rintro e w2 ⟨rfl, hrd2, g2⟩
  have R2 := Lib.hid hrd2
  have S2 := Lib.hid (And.intro (grown_row S1.out.1 g2 HNEW.out) (g2.heap S1.out.2 (fun e => by have := Option.some.inj e; omega)))
  clear hrd2 g2 R1 S1 F1
  go_wp2_with fail
  refine (F2.out _ R2.out).mono ?_
  rintro e w3 ⟨rfl, hrd2, g2⟩
  have R3 := Lib.hid hrd2
  have S3 := Lib.hid (And.intro (grown_row S2.out.1 g2 HNEW.out) (g2.heap S2.out.2 (fun e => by have := Option.some.inj e; omega)))
  clear hrd2 g2 R2 S2 F2
  go_wp2_with fail
  refine (F3.out _ R3.out).mono ?_
  rintro e w4 ⟨rfl, hrd2, g2⟩
  have R4 := Lib.hid hrd2
  have S4 := Lib.hid (And.intro (grown_row S3.out.1 g2 HNEW.out) (g2.heap S3.out.2 (fun e => by have := Option.some.inj e; omega)))
  clear hrd2 g2 R3 S3 F3
  go_wp2_with fail
  refine (F4.out _ R4.out).mono ?_
  rintro e w5 ⟨rfl, hrd2, g2⟩
  have R5 := Lib.hid hrd2
  have S5 := Lib.hid (And.intro (grown_row S4.out.1 g2 HNEW.out) (g2.heap S4.out.2 (fun e => by have := Option.some.inj e; omega)))
  clear hrd2 g2 R4 S4 F4
  go_wp2_with fail
  obtain ⟨XB, hXB⟩ : ∃ XB, w5.heap.size = XB := ⟨_, rfl⟩
  have hx5 := heap_alloc_at w5 (.cells #[.int .u64 s1.1, .int .i64 s2.1, .string s4.1, .int .i64 s3.1, .int .i64 0, .slice none 0 0, .slice none 0 0] 48) XB hXB
  have hga := World.grownBy_alloc w5 (.cells #[.int .u64 s1.1, .int .i64 s2.1, .string s4.1, .int .i64 s3.1, .int .i64 0, .slice none 0 0, .slice none 0 0] 48) none
  have hnX : n < XB := by rw [← hXB]; exact (Array.getElem?_eq_some_iff.1 S5.out.2).1
  have hnX1 : n + 1 < XB := by rw [← hXB]; exact (Array.getElem?_eq_some_iff.1 R5.out).1
  have R6 : Hid (RdAt (w5.alloc (.cells #[.int .u64 s1.1, .int .i64 s2.1, .string s4.1, .int .i64 s3.1, .int .i64 0, .slice none 0 0, .slice none 0 0] 48)) (n + 1) s4.2.rest s4.2.err) := Lib.hid (hga.heap R5.out (by simp))
  have S6 := Lib.hid (And.intro (grownBy_trans S5.out.1 hga) (And.intro (hga.heap S5.out.2 (by simp)) hx5))
  refine (F5.out _ R6.out).mono ?_
  rintro e w6 ⟨rfl, hrd2, g2⟩
  have R7 := Lib.hid hrd2
  have S7 := Lib.hid (And.intro (grown_row S6.out.1 g2 HNEW.out) (And.intro (g2.heap S6.out.2.1 (fun e => by have := Option.some.inj e; omega)) (g2.heap S6.out.2.2 (fun e => by have := Option.some.inj e; omega))))
  rw [hXB]
  clear hrd2 g2 R5 S5 F5 hx5 hga hXB R6 S6
  go_wp2_with fail
  refine (F6.out _ R7.out).mono ?_
  rintro e w7 ⟨rfl, hw7⟩
  subst hw7
  obtain ⟨u0, u1, u2, u3, u4, u5, u6⟩ := cells7 S7.out.2.1
  have uf : ∀ j, w6.frozen? ⟨n, j, none⟩ = false := fun j => free_of S7.out.2.1 j
  by_cases hd0 : dn ≠ 0
  · have hdb : (dn != 0) = true := by simp [hd0]
    have HE1 := HE.out
    rw [if_pos hd0] at HE1
    have HD0 := Lib.hid (And.intro hd0 HE1.symm)
    clear hd0 HE1
    go_wp2_with fail
    refine bodyPost_ret (results_adec (n := n) (v0 := .int .u64 0) (v1 := .int .i64 0) (v2 := .string ⟨#[]⟩) (v3 := .int .i64 0) (v4 := .int .i64 0) (v5 := .slice none 0 0) (v6 := .slice none 0 0) rfl rfl (heap7 S7.out.2.1 _ _ _ _ _ _ _)) rfl ?_
    rw [HD0.out.2]
    exact ⟨none, 0, none, 0, by rw [if_neg HD0.out.1]; rfl, fun q => absurd q HD0.out.1, grown_row S7.out.1 (grown7 _ _ _ _ _ _ _ _ _) HNEW0.out⟩
  · have hdb : (dn != 0) = false := by simpa using hd0
    have HE1 := HE.out
    rw [if_neg hd0] at HE1
    clear hd0
    go_wp2_with fail
    refine (HSD.out _).mono ?_
    rintro e w8 ⟨ca, cc, pa, pc, rfl, oc, op, g8⟩
    have S8 := Lib.hid (And.intro (grownBy_trans S7.out.1 g8) (And.intro (g8.heap S7.out.2.1 (by simp)) (g8.heap S7.out.2.2 (by simp))))
    obtain ⟨M, hM⟩ : ∃ M, min g.n 6 = M := ⟨_, rfl⟩
    rw [hM] at op ⊢
    have hXL : XB < w6.heap.size := (Array.getElem?_eq_some_iff.1 S7.out.2.2).1
    generalize w6.heap.size = LB at oc op hXL
    have HOC := Lib.hid (And.intro oc op)
    have HM := Lib.hid hM
    clear oc op g8 hM S7 u0 u1 u2 u3 u4 u5 u6 uf
    by_cases hg0 : ge = 0
    · subst hg0
      rw [if_neg (by decide)] at HE1
      have HE2 := Lib.hid HE1
      clear HE1
      rw [if_pos rfl]
      unfold sigV
      have ga := World.grownBy_alloc w8 (.cells #[.int .i64 g.i, .slice ca 35 cc, .slice pa M pc] 46) none
      have hs8 := heap_alloc_at w8 (.cells #[.int .i64 g.i, .slice ca 35 cc, .slice pa M pc] 46) _ rfl
      obtain ⟨YB, hYB⟩ : ∃ YB, w8.heap.size = YB := ⟨_, rfl⟩
      obtain ⟨W9, hW9⟩ : ∃ W9, w8.alloc (.cells #[.int .i64 g.i, .slice ca 35 cc, .slice pa M pc] 46) = W9 := ⟨_, rfl⟩
      rw [hW9] at ga hs8
      rw [hYB] at hs8
      have hXY : XB < YB := by rw [← hYB]; exact (Array.getElem?_eq_some_iff.1 S8.out.2.2).1
      have S9 := Lib.hid (And.intro (grownBy_trans S8.out.1 ga) (And.intro (ga.heap S8.out.2.1 (by simp)) (And.intro (ga.heap S8.out.2.2 (by simp)) hs8)))
      have HOC9 := Lib.hid (And.intro (own_keepP HOC.out.1 ga (fun _ _ => by simp)) (own_keepP HOC.out.2 ga (fun _ _ => by simp)))
      obtain ⟨x0, x1, x2, x3, x4, x5, x6⟩ := cells7 S9.out.2.2.1
      have HW9 := Lib.hid (And.intro hW9 hYB)
      clear ga hs8 hYB hW9
      go_wp2_with (rw [HW9.out.1, HW9.out.2])
      refine (HMB.out _).mono ?_
      rintro e w10 ⟨rfl, g10⟩
      have S10 := Lib.hid (And.intro (grownBy_trans S9.out.1 g10) (And.intro (g10.heap S9.out.2.1 (by simp)) (And.intro (g10.heap S9.out.2.2.1 (by simp)) (g10.heap S9.out.2.2.2 (by simp)))))
      have HOC10 := Lib.hid (And.intro (own_keepP HOC9.out.1 g10 (fun _ _ => by simp)) (own_keepP HOC9.out.2 g10 (fun _ _ => by simp)))
      clear g10 x0 x1 x2 x3 x4 x5 x6
      obtain ⟨x0, x1, x2, x3, x4, x5, x6⟩ := cells7 S10.out.2.2.1
      obtain ⟨u0, u1, u2, u3, u4, u5, u6⟩ := cells7 S10.out.2.1
      obtain ⟨z0, z1, z2⟩ := sig_cells S10.out.2.2.2
      have uf : ∀ j, w10.frozen? ⟨n, j, none⟩ = false := fun j => free_of S10.out.2.1 j
      have xf : ∀ j, w10.frozen? ⟨XB, j, none⟩ = false := fun j => free_of S10.out.2.2.1 j
      cases ok
      · have he : ER = 10 := HE2.out.symm
        subst he
        go_wp2_with fail
        refine bodyPost_ret (results_adec (n := n) (v0 := .int .u64 0) (v1 := .int .i64 0) (v2 := .string ⟨#[]⟩) (v3 := .int .i64 0) (v4 := .int .i64 0) (v5 := .slice none 0 0) (v6 := .slice none 0 0) rfl rfl (heap7 S10.out.2.1 _ _ _ _ _ _ _)) rfl ?_
        exact ⟨none, 0, none, 0, by rw [if_neg (by decide)]; rfl, fun q => absurd q (by decide), grown_row S10.out.1 (grown7 _ _ _ _ _ _ _ _ _) HNEW0.out⟩
      · have he : ER = 0 := HE2.out.symm
        subst he
        have F10 : (set7 (((w10.setCell ⟨XB, 4, none⟩ (.int .i64 g.i)).setCell ⟨XB, 5, none⟩ (.slice ca 35 cc)).setCell ⟨XB, 6, none⟩ (.slice pa M pc)) n (.int .u64 s1.1) (.int .i64 s2.1) (.string s4.1) (.int .i64 s3.1) (.int .i64 g.i) (.slice ca 35 cc) (.slice pa M pc)).heap[n]? = some (.cells #[.int .u64 s1.1, .int .i64 s2.1, .string s4.1, .int .i64 s3.1, .int .i64 g.i, .slice ca 35 cc, .slice pa M pc] 48 (0, 0)) := by
          refine heap7 (u0 := .int .u64 0) (u1 := .int .i64 0) (u2 := .string ⟨#[]⟩) (u3 := .int .i64 0) (u4 := .int .i64 0) (u5 := .slice none 0 0) (u6 := .slice none 0 0) ?_ _ _ _ _ _ _ _
          rw [heap_setCell_ne _ _ _ _ (Nat.ne_of_gt hnX), heap_setCell_ne _ _ _ _ (Nat.ne_of_gt hnX), heap_setCell_ne _ _ _ _ (Nat.ne_of_gt hnX)]
          exact S10.out.2.1
        have HF10 := Lib.hid F10
        clear F10
        go_wp2_with fail
        refine bodyPost_ret (results_adec (n := n) (v0 := .int .u64 s1.1) (v1 := .int .i64 s2.1) (v2 := .string s4.1) (v3 := .int .i64 s3.1) (v4 := .int .i64 g.i) (v5 := .slice ca 35 cc) (v6 := .slice pa M pc) rfl rfl HF10.out) rfl ?_
        have ga : w10.grownBy (((w10.setCell ⟨XB, 4, none⟩ (.int .i64 g.i)).setCell ⟨XB, 5, none⟩ (.slice ca 35 cc)).setCell ⟨XB, 6, none⟩ (.slice pa M pc)) (some XB) := grownBy_setCell (grownBy_setCell (grownBy_setCell (World.grownBy.refl w10 _) 4 _) 5 _) 6 _
        have gb := grown7 (((w10.setCell ⟨XB, 4, none⟩ (.int .i64 g.i)).setCell ⟨XB, 5, none⟩ (.slice ca 35 cc)).setCell ⟨XB, 6, none⟩ (.slice pa M pc)) n (.int .u64 s1.1) (.int .i64 s2.1) (.string s4.1) (.int .i64 s3.1) (.int .i64 g.i) (.slice ca 35 cc) (.slice pa M pc)
        refine ⟨ca, cc, pa, pc, ?_, fun _ => ⟨?_, ?_⟩, ?_⟩
        · rw [if_pos rfl, HM.out]
          rfl
        · exact strs_own (own_next (own_next HOC10.out.1 ga hXL) gb (by omega))
        · show StrsAt _ (.slice pa (min g.n 6 : Nat) pc) _
          rw [HM.out]
          exact strs_own (own_next (own_next HOC10.out.2 ga hXL) gb (by omega))
        · exact grown_row (grown_row S10.out.1 ga (fun y e => by cases e; have := HN.out; omega)) gb HNEW0.out
    · have hgb : (ge != 0) = true := by simp [hg0]
      rw [if_pos hg0] at HE1
      have HD0 := Lib.hid (And.intro hg0 HE1.symm)
      clear HE1
      rw [if_neg hg0]
      clear hg0
      unfold sigV
      have ga := World.grownBy_alloc w8 (.cells #[.int .i64 0, .slice none 0 0, .slice none 0 0] 46) none
      have S9 := Lib.hid (And.intro (grownBy_trans S8.out.1 ga) (ga.heap S8.out.2.1 (by simp)))
      obtain ⟨u0, u1, u2, u3, u4, u5, u6⟩ := cells7 S9.out.2
      have uf : ∀ j, (w8.alloc (.cells #[.int .i64 0, .slice none 0 0, .slice none 0 0] 46)).frozen? ⟨n, j, none⟩ = false := fun j => free_of S9.out.2 j
      clear ga
      go_wp2_with fail
      refine bodyPost_ret (results_adec (n := n) (v0 := .int .u64 0) (v1 := .int .i64 0) (v2 := .string ⟨#[]⟩) (v3 := .int .i64 0) (v4 := .int .i64 0) (v5 := .slice none 0 0) (v6 := .slice none 0 0) rfl rfl (heap7 S9.out.2 _ _ _ _ _ _ _)) rfl ?_
      rw [HD0.out.2]
      exact ⟨none, 0, none, 0, by rw [if_neg HD0.out.1]; rfl, fun q => absurd q HD0.out.1, grown_row S9.out.1 (grown7 _ _ _ _ _ _ _ _ _) HNEW0.out⟩
end Go.Proofs.YtioahjdojgcfdaaDoor
