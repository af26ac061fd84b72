/- The walk of DecodeSig, on any bytes. -/
import Derived.Test.YtioahjdojgcfdaaDoorAttestParsesB5
import Derived.Test.YtioahjdojgcfdaaDoorAttestParsesB1
import Derived.Handy
import Derived.Deep.DeepCutAuto
namespace Go.Proofs.YtioahjdojgcfdaaDoor
open Go.RowKit
attribute [local irreducible] shaL

theorem own_lowG {w : World} {B B' n : Nat} {t : TypeId} {v : Value} {xs : List Value} (h : w.ownsRow B t 1 v n xs) (hB : B' ≤ B) : w.ownsRow B' t 1 v n xs := by
  refine ⟨h.1, ?_⟩
  rcases h.2 with h' | ⟨g, cap, cur, rfl, hg, r⟩
  · exact .inl h'
  · exact .inr ⟨g, cap, cur, rfl, Nat.le_trans hB hg, r⟩
theorem own_next {w w' : World} {B n b : Nat} {t : TypeId} {v : Value} {xs : List Value} (h : w.ownsRow B t 1 v n xs) (k : w.grownBy w' (some b)) (hb : b < B) : w'.ownsRow B t 1 v n xs :=
  own_keepP h k (fun x hx e => by have e1 := Option.some.inj e; have := (h.lt x hx).1; omega)
theorem heapG {w : World} {n : Nat} {a0 a1 a2 : Value} {t : TypeId} (h : w.heap[n]? = some (.cells #[a0, a1, a2] t (0, 0))) (v0 v1 v2 : Value) :
    (((w.setCell ⟨n, 0, none⟩ v0).setCell ⟨n, 1, none⟩ v1).setCell ⟨n, 2, none⟩ v2).heap[n]? = some (.cells #[v0, v1, v2] t (0, 0)) :=
  (heap_setCell (heap_setCell (heap_setCell h 0 v0) 1 v1) 2 v2).trans rfl
theorem grownG (w : World) (n : Nat) (v0 v1 v2 : Value) : w.grownBy (((w.setCell ⟨n, 0, none⟩ v0).setCell ⟨n, 1, none⟩ v1).setCell ⟨n, 2, none⟩ v2) (some n) :=
  grownBy_setCell (grownBy_setCell (grownBy_setCell (World.grownBy.refl w _) 0 _) 1 _) 2 _
theorem results_decodeG {n : Nat} {v0 v1 v2 : Value} {z : Int} {tmps : Array Value} {w : World} (h6 : tmps[2]? = some (.pointer (some ⟨n, 0, none⟩))) (h7 : tmps[3]? = some (.int .i64 z)) (hb : w.heap[n]? = some (.cells #[v0, v1, v2] 46 (0, 0))) :
    (results Tryd.f68 tmps).run Tryd.prog w = .ok (.tuple #[.agg #[v0, v1, v2], .int .i64 z]) w := by
  obtain ⟨c0, c1, c2⟩ := sig_cells hb
  simp [results, Tryd.results68, go_sem, h6, h7, c0, c1, c2]
theorem fixed1_lt (s : RSt) : (s.num 1).1 < 256 := by
  have h := num_of s 1 (by decide)
  have h : s.num 1 = _ := h
  rw [h]
  have h3 := fixed_size s 1
  have h4 := val_lt ((s.fixed (1 : Nat)).1.data.toList)
  have h5 : 256 ^ ((s.fixed (1 : Nat)).1.data.toList).length ≤ 256 ^ 1 := Nat.pow_le_pow_right (by decide) (by rw [Array.length_toList]; exact h3)
  exact Nat.lt_of_lt_of_le h4 h5
/-- what DecodeSig answers, and what it leaves in memory -/
def DecAns (w : World) (I M : Nat) (C P : List ByteArray) (er : Int) (e : Ending) (w' : World) : Prop :=
  ∃ ca cc pa pc, e = .returned (.tuple #[if er = 0 then sigV I (.slice ca 35 cc) (.slice pa M pc) else sigV 0 (.slice none 0 0) (.slice none 0 0), .int .i64 er]) ∧ w'.ownsRow w.heap.size 9 1 (.slice ca 35 cc) 35 (strsV C) ∧ w'.ownsRow w.heap.size 9 1 (.slice pa M pc) M (strsV P) ∧ w.grownBy w' none
set_option maxRecDepth 100000 in
set_option maxHeartbeats 1600000 in
theorem dsig_any (s : ByteArray) (hs : s.size ≤ 1000000000) (w : World) :
    Calls Tryd.prog 68 #[.string s] w (DecAns w (decG s).i (min (decG s).n 6) (decG s).C (decG s).P (decG s).err) := by
  obtain ⟨n, hn⟩ : ∃ n, w.heap.size = n := ⟨_, rfl⟩
  have hr0 := heap_alloc_at w (.cells #[.int .i64 0, .slice none 0 0, .slice none 0 0] 46) n hn
  have hg0 : w.grownBy (w.alloc (.cells #[.int .i64 0, .slice none 0 0, .slice none 0 0] 46)) none := World.grownBy_alloc _ _ _
  obtain ⟨W0, hW0⟩ : ∃ W0, w.alloc (.cells #[.int .i64 0, .slice none 0 0, .slice none 0 0] 46) = W0 := ⟨_, rfl⟩
  rw [hW0] at hr0 hg0
  have hz0 : W0.heap.size = n + 1 := by rw [← hW0, World.size_alloc, hn]
  have hrd := read_any s W0
  rw [hz0] at hrd
  -- the states
  obtain ⟨s1, hs1⟩ : ∃ x, ((⟨s, 0⟩ : RSt).num 1) = x := ⟨_, rfl⟩
  obtain ⟨s2, hs2⟩ : ∃ x, reads 35 s1.2 = x := ⟨_, rfl⟩
  obtain ⟨s3, hs3⟩ : ∃ x, (s2.2.num 1) = x := ⟨_, rfl⟩
  obtain ⟨M, hM⟩ : ∃ M, min s3.1 6 = M := ⟨_, rfl⟩
  obtain ⟨s4, hs4⟩ : ∃ x, reads M s3.2 = x := ⟨_, rfl⟩
  have hD : decG s = ⟨s1.1, s2.1, s3.1, s4.1, s4.2⟩ := by
    unfold decG
    rw [hs1, hs2, hs3, hM, hs4]
  have hi1 : s1.1 < 256 := by rw [← hs1]; exact fixed1_lt _
  have hi3 : s3.1 < 256 := by rw [← hs3]; exact fixed1_lt _
  have hz1 : s1.2.rest.size ≤ 1000000000 := by rw [← hs1]; exact Nat.le_trans (rest_le _ _).1 hs
  have hz2 : s2.2.rest.size ≤ 1000000000 := by rw [← hs2]; exact Nat.le_trans (reads_rest _ _) hz1
  have hz3 : s3.2.rest.size ≤ 1000000000 := by rw [← hs3]; exact Nat.le_trans (rest_le _ _).1 hz2
  have F1 : Hid (∀ w' : World, RdAt w' (n + 1) s 0 → Calls Tryd.prog 64 #[.pointer (some ⟨n + 1, 0, none⟩), .int .i64 1] w' fun e w'' => e = .returned (.int .u64 s1.1) ∧ RdAt w'' (n + 1) s1.2.rest s1.2.err ∧ w'.grownBy w'' (some (n + 1))) := fun w' q => by
    have := rd_numS (s := ⟨s, 0⟩) 1 q (by show s.size ≤ _; unfold maxLen; omega)
    rwa [hs1] at this
  have F2 : Hid (∀ w' : World, RdAt w' (n + 1) s1.2.rest s1.2.err → Calls Tryd.prog 107 #[.pointer (some ⟨n + 1, 0, none⟩), .int .i64 35] w' fun e w'' => ∃ a c, e = .returned (.slice a 35 c) ∧ w''.ownsRow w'.heap.size 9 1 (.slice a 35 c) 35 (strsV s2.1) ∧ RdAt w'' (n + 1) s2.2.rest s2.2.err ∧ w'.grownBy w'' (some (n + 1))) := fun w' q => by
    have := xread_any (n + 1) 35 s1.2 (by omega) hz1 w' q
    rwa [hs2] at this
  have F3 : Hid (∀ w' : World, RdAt w' (n + 1) s2.2.rest s2.2.err → Calls Tryd.prog 64 #[.pointer (some ⟨n + 1, 0, none⟩), .int .i64 1] w' fun e w'' => e = .returned (.int .u64 s3.1) ∧ RdAt w'' (n + 1) s3.2.rest s3.2.err ∧ w'.grownBy w'' (some (n + 1))) := fun w' q => by
    have := rd_numS (s := s2.2) 1 q (by unfold maxLen; omega)
    rwa [hs3] at this
  have F4 : Hid (∀ w' : World, RdAt w' (n + 1) s3.2.rest s3.2.err → Calls Tryd.prog 107 #[.pointer (some ⟨n + 1, 0, none⟩), .int .i64 M] w' fun e w'' => ∃ a c, e = .returned (.slice a M c) ∧ w''.ownsRow w'.heap.size 9 1 (.slice a M c) M (strsV s4.1) ∧ RdAt w'' (n + 1) s4.2.rest s4.2.err ∧ w'.grownBy w'' (some (n + 1))) := fun w' q => by
    have := xread_any (n + 1) M s3.2 (by omega) hz3 w' q
    rwa [hs4] at this
  rw [hD]
  obtain ⟨dn, hdn⟩ : ∃ dn, s4.2.done = dn := ⟨_, rfl⟩
  have F5 : Hid (∀ w' : World, RdAt w' (n + 1) s4.2.rest s4.2.err → Calls Tryd.prog 67 #[.pointer (some ⟨n + 1, 0, none⟩)] w' fun e w'' => e = .returned (.int .i64 dn) ∧ w' = w'') := fun w' q => by
    have := rd_endS (s := s4.2) q
    rwa [hdn] at this
  obtain ⟨er, her⟩ : ∃ er, (⟨s1.1, s2.1, s3.1, s4.1, s4.2⟩ : DecG).err = er := ⟨_, rfl⟩
  have her2 : er = if dn ≠ 3 ∧ (63 < s1.1 ∨ 6 < s3.1) then 4 else dn := by rw [← her, ← hdn]; rfl
  show Calls _ _ _ _ (DecAns w s1.1 (min s3.1 6) s2.1 s4.1 (⟨s1.1, s2.1, s3.1, s4.1, s4.2⟩ : DecG).err)
  rw [her, hM]
  generalize s1.1 = I at hi1 her2 F1 ⊢
  generalize s3.1 = K at hi3 hM her2 F3 ⊢
  have HRD := Lib.hid hrd
  have HR0 := Lib.hid hr0
  have HG0 := Lib.hid hg0
  have HW0 := Lib.hid hW0
  have HN := Lib.hid hn
  have cI : IntKind.i64.wrap (I : Int) = (I : Int) := IntWalk.i64_in _ (by omega)
  have cK : IntKind.i64.wrap (K : Int) = (K : Int) := IntWalk.i64_in _ (by omega)
  have HNEW : Hid (∀ g, some (n + 1) = some g → w.heap.size ≤ g) := Lib.hid (fun g e => by cases e; omega)
  have HM := Lib.hid hM
  have HER := Lib.hid her2
  have HZERO : Hid (∀ (w' : World) (v0 v1 v2 : Value), w.grownBy w' none → w.grownBy (((w'.setCell ⟨n, 0, none⟩ v0).setCell ⟨n, 1, none⟩ v1).setCell ⟨n, 2, none⟩ v2) none) := Lib.hid (fun w' v0 v1 v2 q => grown_row q (grownG w' n v0 v1 v2) (fun x e => by have e2 : n = x := Option.some.inj e; omega))
  clear hr0 hg0 hW0 hz0 hrd hn hs hs1 hs2 hs3 hs4 hD hz1 hz2 hz3 hdn her her2 hM hi1
  go_enter Tryd.func68, Tryd.ntmps68
  go_wp2_with (rw [HW0.out, HN.out])
  refine HRD.out.mono ?_
  rintro e w1 ⟨rfl, hrd1, g1⟩
  have R1 := Lib.hid hrd1
  have S1 := Lib.hid (And.intro (grownBy_trans HG0.out g1) (g1.heap HR0.out (by simp)))
  clear hrd1 g1 HRD
  go_wp2_with fail
  refine (F1.out _ R1.out).mono ?_
  rintro e w2 ⟨rfl, hrd2, g2⟩
  have R2 := Lib.hid hrd2
  have S2 := Lib.hid (And.intro (grown_row S1.out.1 g2 HNEW.out) (g2.heap S1.out.2 (fun e => by have := Option.some.inj e; omega)))
  clear hrd2 g2 R1 S1
  go_wp2_with fail
  refine (F2.out _ R2.out).mono ?_
  rintro e w3 ⟨ca, cc, rfl, ho3, hrd3, g3⟩
  have R3 := Lib.hid hrd3
  have hb2 : n + 1 < w2.heap.size := R2.out.lt
  have O3 := Lib.hid (own_lowG ho3 hb2)
  have S3 := Lib.hid (And.intro (grown_row S2.out.1 g3 HNEW.out) (g3.heap S2.out.2 (fun e => by have := Option.some.inj e; omega)))
  clear hrd3 g3 ho3 R2 S2 hb2
  go_wp2_with fail
  refine (F3.out _ R3.out).mono ?_
  rintro e w4 ⟨rfl, hrd4, g4⟩
  have R4 := Lib.hid hrd4
  have O4 := Lib.hid (own_next O3.out g4 (by omega))
  have S4 := Lib.hid (And.intro (grown_row S3.out.1 g4 HNEW.out) (g4.heap S3.out.2 (fun e => by have := Option.some.inj e; omega)))
  clear hrd4 g4 R3 S3 O3
  by_cases h6 : K ≤ 6
  · obtain rfl : M = K := by have := HM.out; omega
    have c6 : (M : Int) ≤ 6 := by omega
    have c7 : ¬ (M : Int) > 6 := by omega
    go_wp2_with fail
    refine (F4.out _ R4.out).mono ?_
    rintro e w5 ⟨pa, pc, rfl, ho5, hrd5, g5⟩
    have R5 := Lib.hid hrd5
    have hb4 : n + 1 < w4.heap.size := R4.out.lt
    have P5 := Lib.hid (own_lowG ho5 hb4)
    have O5 := Lib.hid (own_next O4.out g5 (by omega))
    have S5 := Lib.hid (And.intro (grown_row S4.out.1 g5 HNEW.out) (g5.heap S4.out.2 (fun e => by have := Option.some.inj e; omega)))
    clear hrd5 g5 ho5 R4 S4 O4 hb4
    go_wp2_with fail
    refine (F5.out _ R5.out).mono ?_
    rintro e w6 ⟨rfl, hw6⟩
    subst hw6
    obtain ⟨u0, u1, u2⟩ := sig_cells S5.out.2
    have uf : ∀ j, w5.frozen? ⟨n, j, none⟩ = false := fun j => free_of S5.out.2 j
    by_cases hd : dn = 3
    · subst hd
      have HV : Hid (er = 3) := Lib.hid (by rw [HER.out]; rfl)
      clear HER
      go_wp2_with fail
      refine bodyPost_ret (results_decodeG (n := n) (v0 := .int .i64 0) (v1 := .slice none 0 0) (v2 := .slice none 0 0) rfl rfl (heapG S5.out.2 _ _ _)) rfl ?_
      show DecAns _ _ _ _ _ _ _ _
      unfold DecAns
      exact ⟨ca, cc, pa, pc, by rw [HV.out]; rfl, by rw [HN.out]; exact own_lowG (own_next O5.out (grownG _ n _ _ _) (by omega)) (by omega), by rw [HN.out]; exact own_lowG (own_next P5.out (grownG _ n _ _ _) (by omega)) (by omega), HZERO.out _ _ _ _ S5.out.1⟩
    · have hdb : (dn != 3) = true := by simp [hd]
      by_cases h63 : I ≤ 63
      · have c63 : ¬ (I : Int) > 63 := by omega
        have HV : Hid (er = dn) := Lib.hid (by rw [HER.out, if_neg (by omega)])
        have HD := Lib.hid hd
        clear HER hd
        by_cases hz : dn = 0
        · subst hz
          go_wp2_with fail
          refine bodyPost_ret (results_decodeG (n := n) (v0 := .int .i64 I) (v1 := .slice ca 35 cc) (v2 := .slice pa M pc) rfl rfl (heapG S5.out.2 _ _ _)) rfl ?_
          show DecAns _ _ _ _ _ _ _ _
          unfold DecAns
          exact ⟨ca, cc, pa, pc, by rw [HV.out]; rfl, by rw [HN.out]; exact own_lowG (own_next O5.out (grownG _ n _ _ _) (by omega)) (by omega), by rw [HN.out]; exact own_lowG (own_next P5.out (grownG _ n _ _ _) (by omega)) (by omega), HZERO.out _ _ _ _ S5.out.1⟩
        · have hzb : (dn != 0) = true := by simp [hz]
          have HZ := Lib.hid hz
          clear hz
          go_wp2_with fail
          refine bodyPost_ret (results_decodeG (n := n) (v0 := .int .i64 0) (v1 := .slice none 0 0) (v2 := .slice none 0 0) rfl rfl (heapG S5.out.2 _ _ _)) rfl ?_
          show DecAns _ _ _ _ _ _ _ _
          unfold DecAns
          exact ⟨ca, cc, pa, pc, by rw [HV.out, if_neg HZ.out]; rfl, by rw [HN.out]; exact own_lowG (own_next O5.out (grownG _ n _ _ _) (by omega)) (by omega), by rw [HN.out]; exact own_lowG (own_next P5.out (grownG _ n _ _ _) (by omega)) (by omega), HZERO.out _ _ _ _ S5.out.1⟩
      · have c63 : (I : Int) > 63 := by omega
        have HV : Hid (er = 4) := Lib.hid (by rw [HER.out, if_pos ⟨hd, Or.inl (by omega)⟩])
        have HD := Lib.hid hd
        clear HER hd
        go_wp2_with fail
        refine bodyPost_ret (results_decodeG (n := n) (v0 := .int .i64 0) (v1 := .slice none 0 0) (v2 := .slice none 0 0) rfl rfl (heapG S5.out.2 _ _ _)) rfl ?_
        show DecAns _ _ _ _ _ _ _ _
        unfold DecAns
        exact ⟨ca, cc, pa, pc, by rw [HV.out]; rfl, by rw [HN.out]; exact own_lowG (own_next O5.out (grownG _ n _ _ _) (by omega)) (by omega), by rw [HN.out]; exact own_lowG (own_next P5.out (grownG _ n _ _ _) (by omega)) (by omega), HZERO.out _ _ _ _ S5.out.1⟩
  · obtain rfl : M = 6 := by have := HM.out; omega
    have c6 : ¬ (K : Int) ≤ 6 := by omega
    have c7 : (K : Int) > 6 := by omega
    go_wp2_with fail
    refine (F4.out _ R4.out).mono ?_
    rintro e w5 ⟨pa, pc, rfl, ho5, hrd5, g5⟩
    have R5 := Lib.hid hrd5
    have hb4 : n + 1 < w4.heap.size := R4.out.lt
    have P5 := Lib.hid (own_lowG ho5 hb4)
    have O5 := Lib.hid (own_next O4.out g5 (by omega))
    have S5 := Lib.hid (And.intro (grown_row S4.out.1 g5 HNEW.out) (g5.heap S4.out.2 (fun e => by have := Option.some.inj e; omega)))
    clear hrd5 g5 ho5 R4 S4 O4 hb4
    go_wp2_with fail
    refine (F5.out _ R5.out).mono ?_
    rintro e w6 ⟨rfl, hw6⟩
    subst hw6
    obtain ⟨u0, u1, u2⟩ := sig_cells S5.out.2
    have uf : ∀ j, w5.frozen? ⟨n, j, none⟩ = false := fun j => free_of S5.out.2 j
    by_cases hd : dn = 3
    · subst hd
      have HV : Hid (er = 3) := Lib.hid (by rw [HER.out]; rfl)
      clear HER
      go_wp2_with fail
      refine bodyPost_ret (results_decodeG (n := n) (v0 := .int .i64 0) (v1 := .slice none 0 0) (v2 := .slice none 0 0) rfl rfl (heapG S5.out.2 _ _ _)) rfl ?_
      show DecAns _ _ _ _ _ _ _ _
      unfold DecAns
      exact ⟨ca, cc, pa, pc, by rw [HV.out]; rfl, by rw [HN.out]; exact own_lowG (own_next O5.out (grownG _ n _ _ _) (by omega)) (by omega), by rw [HN.out]; exact own_lowG (own_next P5.out (grownG _ n _ _ _) (by omega)) (by omega), HZERO.out _ _ _ _ S5.out.1⟩
    · have hdb : (dn != 3) = true := by simp [hd]
      have HV : Hid (er = 4) := Lib.hid (by rw [HER.out, if_pos ⟨hd, Or.inr (by omega)⟩])
      have HD := Lib.hid hd
      clear HER hd
      by_cases h63 : I ≤ 63
      · have c63 : ¬ (I : Int) > 63 := by omega
        go_wp2_with fail
        refine bodyPost_ret (results_decodeG (n := n) (v0 := .int .i64 0) (v1 := .slice none 0 0) (v2 := .slice none 0 0) rfl rfl (heapG S5.out.2 _ _ _)) rfl ?_
        show DecAns _ _ _ _ _ _ _ _
        unfold DecAns
        exact ⟨ca, cc, pa, pc, by rw [HV.out]; rfl, by rw [HN.out]; exact own_lowG (own_next O5.out (grownG _ n _ _ _) (by omega)) (by omega), by rw [HN.out]; exact own_lowG (own_next P5.out (grownG _ n _ _ _) (by omega)) (by omega), HZERO.out _ _ _ _ S5.out.1⟩
      · have c63 : (I : Int) > 63 := by omega
        go_wp2_with fail
        refine bodyPost_ret (results_decodeG (n := n) (v0 := .int .i64 0) (v1 := .slice none 0 0) (v2 := .slice none 0 0) rfl rfl (heapG S5.out.2 _ _ _)) rfl ?_
        show DecAns _ _ _ _ _ _ _ _
        unfold DecAns
        exact ⟨ca, cc, pa, pc, by rw [HV.out]; rfl, by rw [HN.out]; exact own_lowG (own_next O5.out (grownG _ n _ _ _) (by omega)) (by omega), by rw [HN.out]; exact own_lowG (own_next P5.out (grownG _ n _ _ _) (by omega)) (by omega), HZERO.out _ _ _ _ S5.out.1⟩
end Go.Proofs.YtioahjdojgcfdaaDoor
