/- The walk of entry's Decode. -/
import Derived.Test.YtemndmhdlgfajaaGreatDoorEntA
namespace Go.Proofs.YtemndmhdlgfajaaGreatDoor
open Go.RowKit
attribute [local irreducible] shaL

theorem heap5 {w : World} {n : Nat} {a0 a1 a2 a3 a4 : Value} {t : TypeId} (h : w.heap[n]? = some (.cells #[a0, a1, a2, a3, a4] t (0, 0))) (v0 v1 v2 v3 v4 : Value) :
    (((((w.setCell ⟨n, 0, none⟩ v0).setCell ⟨n, 1, none⟩ v1).setCell ⟨n, 2, none⟩ v2).setCell ⟨n, 3, none⟩ v3).setCell ⟨n, 4, none⟩ v4).heap[n]? = some (.cells #[v0, v1, v2, v3, v4] t (0, 0)) :=
  (heap_setCell (heap_setCell (heap_setCell (heap_setCell (heap_setCell h 0 v0) 1 v1) 2 v2) 3 v3) 4 v4).trans rfl
theorem grown5 (w : World) (n : Nat) (v0 v1 v2 v3 v4 : Value) : w.grownBy (((((w.setCell ⟨n, 0, none⟩ v0).setCell ⟨n, 1, none⟩ v1).setCell ⟨n, 2, none⟩ v2).setCell ⟨n, 3, none⟩ v3).setCell ⟨n, 4, none⟩ v4) (some n) :=
  grownBy_setCell (grownBy_setCell (grownBy_setCell (grownBy_setCell (grownBy_setCell (World.grownBy.refl w _) 0 _) 1 _) 2 _) 3 _) 4 _
theorem results_decodeE {n : Nat} {v0 v1 v2 v3 v4 : Value} {z : Int} {tmps : Array Value} {w : World} (h6 : tmps[2]? = some (.pointer (some ⟨n, 0, none⟩))) (h7 : tmps[3]? = some (.int .i64 z)) (hb : w.heap[n]? = some (.cells #[v0, v1, v2, v3, v4] 34 (0, 0))) :
    (results Tryz.f43 tmps).run Tryz.prog w = .ok (.tuple #[.agg #[v0, v1, v2, v3, v4], .int .i64 z]) w := by
  obtain ⟨c0, c1, c2, c3, c4⟩ := cells5 hb
  simp [results, Tryz.results43, go_sem, h6, h7, c0, c1, c2, c3, c4]
set_option maxRecDepth 100000 in
set_option maxHeartbeats 1600000 in
theorem edecode_any (s : ByteArray) (hs : s.size ≤ 1000000000) (w : World) :
    Calls Tryz.prog 43 #[.string s] w fun e w' => e = .returned (.tuple #[(decE s).ent.val, .int .i64 (decE s).err]) ∧ w.grownBy w' none := by
  obtain ⟨n, hn⟩ : ∃ n, w.heap.size = n := ⟨_, rfl⟩
  have hr0 := heap_alloc_at w (.cells #[.int .u64 0, .string ⟨#[]⟩, .string ⟨#[]⟩, .int .i64 0, .string ⟨#[]⟩] 34) n hn
  have hg0 : w.grownBy (w.alloc (.cells #[.int .u64 0, .string ⟨#[]⟩, .string ⟨#[]⟩, .int .i64 0, .string ⟨#[]⟩] 34)) none := World.grownBy_alloc _ _ _
  obtain ⟨W0, hW0⟩ : ∃ W0, w.alloc (.cells #[.int .u64 0, .string ⟨#[]⟩, .string ⟨#[]⟩, .int .i64 0, .string ⟨#[]⟩] 34) = W0 := ⟨_, rfl⟩
  rw [hW0] at hr0 hg0
  have hz0 : W0.heap.size = n + 1 := by rw [← hW0, World.size_alloc, hn]
  have hrd := read_any s W0
  rw [hz0] at hrd
  have HRD := Lib.hid hrd
  have HR0 := Lib.hid hr0
  have HG0 := Lib.hid hg0
  have HW0 := Lib.hid hW0
  have HN := Lib.hid hn
  obtain ⟨s1, hs1⟩ : ∃ x, ((⟨s, 0⟩ : RSt).num 4) = x := ⟨_, rfl⟩
  obtain ⟨s2, hs2⟩ : ∃ x, (s1.2.fixed 33) = x := ⟨_, rfl⟩
  obtain ⟨s3, hs3⟩ : ∃ x, (s2.2.fixed 16) = x := ⟨_, rfl⟩
  have hD : decE s = ⟨s1.1, s2.1, s3.1, s3.2⟩ := by
    unfold decE
    simp only
    rw [hs1, hs2, hs3]
  have hz1 : s1.2.rest.size ≤ 1000000000 := by rw [← hs1]; exact Nat.le_trans (rest_le _ _).1 hs
  have hz2 : s2.2.rest.size ≤ 1000000000 := by rw [← hs2]; exact Nat.le_trans (rest_le _ _).2 hz1
  have hk33 : s2.1.size ≤ 33 := by rw [← hs2]; exact fixed_size s1.2 33
  have HF1 : Hid (∀ w' : World, RdAt w' (n + 1) s 0 → Calls Tryz.prog 94 #[.pointer (some ⟨n + 1, 0, none⟩), .int .i64 4] w' fun e w'' => e = .returned (.int .u64 s1.1) ∧ RdAt w'' (n + 1) s1.2.rest s1.2.err ∧ w'.grownBy w'' (some (n + 1))) := fun w' q => by
    have := rd_numS (s := ⟨s, 0⟩) 4 q (by show s.size ≤ _; unfold maxLen; omega)
    rwa [hs1] at this
  have HF2 : Hid (∀ w' : World, RdAt w' (n + 1) s1.2.rest s1.2.err → Calls Tryz.prog 96 #[.pointer (some ⟨n + 1, 0, none⟩), .int .i64 33] w' fun e w'' => e = .returned (.string s2.1) ∧ RdAt w'' (n + 1) s2.2.rest s2.2.err ∧ w'.grownBy w'' (some (n + 1))) := fun w' q => by
    have := rd_fixedS (s := s1.2) 33 q (by unfold maxLen; omega)
    rwa [hs2] at this
  have HF3 : Hid (∀ w' : World, RdAt w' (n + 1) s2.2.rest s2.2.err → Calls Tryz.prog 96 #[.pointer (some ⟨n + 1, 0, none⟩), .int .i64 16] w' fun e w'' => e = .returned (.string s3.1) ∧ RdAt w'' (n + 1) s3.2.rest s3.2.err ∧ w'.grownBy w'' (some (n + 1))) := fun w' q => by
    have := rd_fixedS (s := s2.2) 16 q (by unfold maxLen; omega)
    rwa [hs3] at this
  have HPD := Lib.hid (fun w' => pdecode_any s2.1 (by omega) w')
  rw [hD]
  obtain ⟨dn, hdn⟩ : ∃ dn, s3.2.done = dn := ⟨_, rfl⟩
  have HE : Hid (∀ w' : World, RdAt w' (n + 1) s3.2.rest s3.2.err → Calls Tryz.prog 42 #[.pointer (some ⟨n + 1, 0, none⟩)] w' fun e w'' => e = .returned (.int .i64 dn) ∧ w' = w'') := fun w' q => by
    have := rd_endS (s := s3.2) q
    rwa [hdn] at this
  have hnew : ∀ g, some (n + 1) = some g → w.heap.size ≤ g := fun g e => by cases e; omega
  have HNEW := Lib.hid hnew
  have HDN := Lib.hid hdn
  have hzero : ∀ (w' : World) (v0 v1 v2 v3 v4 : Value), w.grownBy w' none → w.grownBy (((((w'.setCell ⟨n, 0, none⟩ v0).setCell ⟨n, 1, none⟩ v1).setCell ⟨n, 2, none⟩ v2).setCell ⟨n, 3, none⟩ v3).setCell ⟨n, 4, none⟩ v4) none := fun w' v0 v1 v2 v3 v4 q => grown_row q (grown5 w' n v0 v1 v2 v3 v4) (fun x e => by have e2 : n = x := Option.some.inj e; have := HN.out; omega)
  have HZERO := Lib.hid hzero
  have hv4 : s1.1 < 4294967296 := by
    rw [← hs1]
    have h1 := num_of (⟨s, 0⟩ : RSt) 4 (by omega)
    have h1' : (⟨s, 0⟩ : RSt).num 4 = (val ((⟨s, 0⟩ : RSt).fixed (4 : Nat)).1.data.toList, ((⟨s, 0⟩ : RSt).fixed (4 : Nat)).2) := h1
    rw [h1']
    have h3 := fixed_size (⟨s, 0⟩ : RSt) 4
    have h4 := val_lt (((⟨s, 0⟩ : RSt).fixed (4 : Nat)).1.data.toList)
    have h5 : 256 ^ (((⟨s, 0⟩ : RSt).fixed (4 : Nat)).1.data.toList).length ≤ 256 ^ 4 := Nat.pow_le_pow_right (by decide) (by rw [Array.length_toList]; exact h3)
    exact Nat.lt_of_lt_of_le h4 h5
  clear hr0 hg0 hW0 hz0 hrd hn hs hs1 hs2 hs3 hD hz1 hz2 hdn hnew hzero hk33
  go_enter Tryz.func43, Tryz.ntmps43
  go_wp2_with (rw [HW0.out, HN.out])
  refine HRD.out.mono ?_
  rintro e w1 ⟨rfl, hrd1, g1⟩
  have HR1 := Lib.hid hrd1
  have HS1 := Lib.hid (And.intro (grownBy_trans HG0.out g1) (g1.heap HR0.out (by simp)))
  clear hrd1 g1 HRD
  go_wp2_with fail
  refine (HF1.out _ HR1.out).mono ?_
  rintro e w2 ⟨rfl, hrd2, g2⟩
  have HR2 := Lib.hid hrd2
  have HS2 := Lib.hid (And.intro (grown_row HS1.out.1 g2 HNEW.out) (g2.heap HS1.out.2 (fun e => by have := Option.some.inj e; omega)))
  clear hrd2 g2 HR1 HS1
  go_wp2_with fail
  refine (HF2.out _ HR2.out).mono ?_
  rintro e w3 ⟨rfl, hrd3, g3⟩
  have HR3 := Lib.hid hrd3
  have HS3 := Lib.hid (And.intro (grown_row HS2.out.1 g3 HNEW.out) (g3.heap HS2.out.2 (fun e => by have := Option.some.inj e; omega)))
  clear hrd3 g3 HR2 HS2
  go_wp2_with fail
  refine (HF3.out _ HR3.out).mono ?_
  rintro e w4 ⟨rfl, hrd4, g4⟩
  have HR4 := Lib.hid hrd4
  have HS4 := Lib.hid (And.intro (grown_row HS3.out.1 g4 HNEW.out) (g4.heap HS3.out.2 (fun e => by have := Option.some.inj e; omega)))
  clear hrd4 g4 HR3 HS3
  go_wp2_with fail
  refine (HE.out _ HR4.out).mono ?_
  rintro e w5 ⟨rfl, hw5⟩
  subst hw5
  by_cases hz : dn = 0
  · have hzb : (dn != 0) = false := by simp [hz]
    have HDZ : Hid (s3.2.done = 0) := HDN.out.trans hz
    clear HDN
    go_wp2_with fail
    refine (HPD.out _).mono ?_
    rintro e w6 ⟨rfl, g6⟩
    have HS6 := Lib.hid (And.intro (grownBy_trans HS4.out.1 g6) (g6.heap HS4.out.2 (by simp)))
    clear g6 HR4 HS4
    obtain ⟨u0, u1, u2, u3, u4⟩ := cells5 HS6.out.2
    have uf : ∀ j, w6.frozen? ⟨n, j, none⟩ = false := fun j => free_of HS6.out.2 j
    obtain ⟨ke, hke⟩ : ∃ ke, (decP s2.1).err = ke := ⟨_, rfl⟩
    rw [hke]
    by_cases hk0 : ke = 0
    · have hkb : (ke != 0) = false := by simp [hk0]
      have HKE : Hid ((decP s2.1).err = 0) := hke.trans hk0
      have hval : (decP s2.1).val = pubZ (decP s2.1).o (decP s2.1).r (decP s2.1).h := by unfold DecP.val; rw [HKE.out, if_pos rfl]
      rw [hval]
      obtain ⟨O, hO⟩ : ∃ O, (decP s2.1).o = O := ⟨_, rfl⟩
      obtain ⟨R, hR⟩ : ∃ R, (decP s2.1).r = R := ⟨_, rfl⟩
      obtain ⟨H, hH⟩ : ∃ H, (decP s2.1).h = H := ⟨_, rfl⟩
      rw [hO, hR, hH]
      have HQ := Lib.hid (And.intro hO (And.intro hR hH))
      unfold pubZ
      clear hke hval hO hR hH
      have hg7 := World.grownBy_alloc w6 (.cells #[.string O, .string R, .int .i64 H] 31) none
      have HS7 := Lib.hid (And.intro (grownBy_trans HS6.out.1 hg7) (hg7.heap HS6.out.2 (by simp)))
      clear hg7 u0 u1 u2 u3 u4 uf
      obtain ⟨u0, u1, u2, u3, u4⟩ := cells5 HS7.out.2
      have uf := fun j => free_of HS7.out.2 j
      by_cases hv1 : s1.1 < 1
      · have q1 : (s1.1 : Int) < 1 := by omega
        have HER : Hid ((⟨s1.1, s2.1, s3.1, s3.2⟩ : DecE).err = 13) := by
          show (if s3.2.done ≠ 0 then _ else if (decP s2.1).err ≠ 0 then _ else if s1.1 < 1 then (13 : Int) else 0) = 13
          rw [if_neg (by rw [HDZ.out]; simp), if_neg (by rw [HKE.out]; simp), if_pos hv1]
        go_wp2_with fail
        refine bodyPost_ret (results_decodeE (n := n) (v0 := .int .u64 0) (v1 := .string ⟨#[]⟩) (v2 := .string ⟨#[]⟩) (v3 := .int .i64 0) (v4 := .string ⟨#[]⟩) rfl rfl (heap5 HS7.out.2 _ _ _ _ _)) rfl ?_
        refine ⟨?_, HZERO.out _ _ _ _ _ _ HS7.out.1⟩
        unfold DecE.ent
        rw [HER.out]
        rfl
      · have q1 : ¬ (s1.1 : Int) < 1 := by omega
        have HER : Hid ((⟨s1.1, s2.1, s3.1, s3.2⟩ : DecE).err = 0) := by
          show (if s3.2.done ≠ 0 then _ else if (decP s2.1).err ≠ 0 then _ else if s1.1 < 1 then (13 : Int) else 0) = 0
          rw [if_neg (by rw [HDZ.out]; simp), if_neg (by rw [HKE.out]; simp), if_neg hv1]
        go_wp2_with fail
        refine bodyPost_ret (results_decodeE (n := n) (v0 := .int .u64 s1.1) (v1 := .string O) (v2 := .string R) (v3 := .int .i64 H) (v4 := .string s3.1) rfl rfl (heap5 HS7.out.2 _ _ _ _ _)) rfl ?_
        refine ⟨?_, HZERO.out _ _ _ _ _ _ HS7.out.1⟩
        unfold DecE.ent
        rw [HER.out]
        simp only [if_true]
        rw [HQ.out.1, HQ.out.2.1, HQ.out.2.2]
        rfl
    · have hkb : (ke != 0) = true := by simp [hk0]
      have HKE := Lib.hid hke
      have hval : (decP s2.1).val = pubZ ⟨#[]⟩ ⟨#[]⟩ 0 := by unfold DecP.val; rw [hke, if_neg hk0]
      rw [hval]
      have HER : Hid ((⟨s1.1, s2.1, s3.1, s3.2⟩ : DecE).err = ke) := by
        show (if s3.2.done ≠ 0 then _ else if (decP s2.1).err ≠ 0 then (decP s2.1).err else if s1.1 < 1 then (13 : Int) else 0) = ke
        rw [if_neg (by rw [HDZ.out]; simp), HKE.out, if_pos hk0]
      have HNZ := Lib.hid hk0
      unfold pubZ
      clear hke hval hk0
      have hg7 := World.grownBy_alloc w6 (.cells #[.string ⟨#[]⟩, .string ⟨#[]⟩, .int .i64 0] 31) none
      have HS7 := Lib.hid (And.intro (grownBy_trans HS6.out.1 hg7) (hg7.heap HS6.out.2 (by simp)))
      clear hg7 u0 u1 u2 u3 u4 uf
      obtain ⟨u0, u1, u2, u3, u4⟩ := cells5 HS7.out.2
      have uf := fun j => free_of HS7.out.2 j
      go_wp2_with fail
      refine bodyPost_ret (results_decodeE (n := n) (v0 := .int .u64 0) (v1 := .string ⟨#[]⟩) (v2 := .string ⟨#[]⟩) (v3 := .int .i64 0) (v4 := .string ⟨#[]⟩) rfl rfl (heap5 HS7.out.2 _ _ _ _ _)) rfl ?_
      refine ⟨?_, HZERO.out _ _ _ _ _ _ HS7.out.1⟩
      unfold DecE.ent
      rw [HER.out, if_neg HNZ.out]
      rfl
  · have hzb : (dn != 0) = true := by simp [hz]
    obtain ⟨u0, u1, u2, u3, u4⟩ := cells5 HS4.out.2
    have uf : ∀ j, w4.frozen? ⟨n, j, none⟩ = false := fun j => free_of HS4.out.2 j
    have HER : Hid ((⟨s1.1, s2.1, s3.1, s3.2⟩ : DecE).err = dn) := by
      show (if s3.2.done ≠ 0 then s3.2.done else if (decP s2.1).err ≠ 0 then (decP s2.1).err else if s1.1 < 1 then (13 : Int) else 0) = dn
      rw [HDN.out, if_pos hz]
    have HNZ := Lib.hid hz
    go_wp2_with fail
    refine bodyPost_ret (results_decodeE (n := n) (v0 := .int .u64 0) (v1 := .string ⟨#[]⟩) (v2 := .string ⟨#[]⟩) (v3 := .int .i64 0) (v4 := .string ⟨#[]⟩) rfl rfl (heap5 HS4.out.2 _ _ _ _ _)) rfl ?_
    refine ⟨?_, HZERO.out _ _ _ _ _ _ HS4.out.1⟩
    unfold DecE.ent
    rw [HER.out, if_neg HNZ.out]
    rfl
end Go.Proofs.YtemndmhdlgfajaaGreatDoor
