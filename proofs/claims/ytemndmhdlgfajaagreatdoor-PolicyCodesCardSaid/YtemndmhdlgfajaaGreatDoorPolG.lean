/- The walk of an update's Decode: bytes that it made, and bytes that are too short or too long. -/
import Derived.Test.YtemndmhdlgfajaaGreatDoorPolC
import Derived.Test.YtemndmhdlgfajaaGreatDoorPolicyCodesB5
import Derived.Test.YtemndmhdlgfajaaGreatDoorPolicyCodesB4
import Derived.Test.YtemndmhdlgfajaaGreatDoorEntB
import Derived.Test.YtemndmhdlgfajaaGreatDoorPolE
import Derived.Handy
import Derived.Deep.DeepCutAuto
namespace Go.Proofs.YtemndmhdlgfajaaGreatDoor
open Go.RowKit
attribute [local irreducible] shaL

theorem rd_textU {w : World} {b : Nat} {s : RSt} (h : RdAt w b s.rest s.err) (hm : s.rest.size ≤ maxLen) :
    Calls Tryz.prog 41 #[.pointer (some ⟨b, 0, none⟩)] w fun e w' => e = .returned (.string s.text.1) ∧ RdAt w' b s.text.2.rest s.text.2.err ∧ w.grownBy w' (some b) := by
  refine (rtext_any w (some ⟨b, 0, none⟩) (some s) ⟨b, rfl, h⟩ (by rintro x ⟨⟩; exact hm)).mono ?_
  rintro e w' ⟨rfl, hw, g⟩
  obtain ⟨b', e', hw⟩ := hw
  cases e'
  exact ⟨rfl, hw, g⟩
theorem text_rest_leU (s : RSt) : s.text.2.rest.size ≤ s.rest.size := by
  have h1 := (rest_le s 2).1
  have hf : ∀ (s : RSt) e, (s.fail e).rest.size = s.rest.size := by intro s e; unfold RSt.fail; split <;> rfl
  unfold RSt.text
  split
  · show ((s.num 2).2.fail 4).rest.size ≤ _
    rw [hf]; exact h1
  · exact Nat.le_trans (rest_le _ _).2 h1
set_option maxRecDepth 100000 in
set_option maxHeartbeats 3200000 in
theorem udecode_bad (s : ByteArray) (hs : s.size ≤ 1000000000) (hd : (decU s).s.done ≠ 0) (w : World) :
    Calls Tryz.prog 11 #[.string s] w fun e w' => e = .returned (.tuple #[updZ, .int .i64 (decU s).s.done]) ∧ w.grownBy w' none := by
  obtain ⟨n, hn⟩ : ∃ n, w.heap.size = n := ⟨_, rfl⟩
  have hr0 := heap_alloc_at w (.cells #[.string ⟨#[]⟩, .int .u64 0, .string ⟨#[]⟩, .string ⟨#[]⟩, .int .i64 0, .string ⟨#[]⟩, .int .i64 0, .slice none 0 0, .slice none 0 0] 39) n hn
  have hg0 : w.grownBy (w.alloc (.cells #[.string ⟨#[]⟩, .int .u64 0, .string ⟨#[]⟩, .string ⟨#[]⟩, .int .i64 0, .string ⟨#[]⟩, .int .i64 0, .slice none 0 0, .slice none 0 0] 39)) none := World.grownBy_alloc _ _ _
  obtain ⟨W0, hW0⟩ : ∃ W0, w.alloc (.cells #[.string ⟨#[]⟩, .int .u64 0, .string ⟨#[]⟩, .string ⟨#[]⟩, .int .i64 0, .string ⟨#[]⟩, .int .i64 0, .slice none 0 0, .slice none 0 0] 39) = W0 := ⟨_, rfl⟩
  rw [hW0] at hr0 hg0
  have hz0 : W0.heap.size = n + 1 := by rw [← hW0, World.size_alloc, hn]
  have hrd := read_any s W0
  rw [hz0] at hrd
  have HRD := Lib.hid hrd
  have HR0 := Lib.hid hr0
  have HG0 := Lib.hid hg0
  have HW0 := Lib.hid hW0
  have HN := Lib.hid hn
  obtain ⟨s1, hs1⟩ : ∃ x, (⟨s, 0⟩ : RSt).text = x := ⟨_, rfl⟩
  obtain ⟨s2, hs2⟩ : ∃ x, s1.2.text = x := ⟨_, rfl⟩
  obtain ⟨s3, hs3⟩ : ∃ x, s2.2.text = x := ⟨_, rfl⟩
  have hD : decU s = ⟨s1.1, s2.1, s3.1, s3.2⟩ := by
    unfold decU
    rw [hs1, hs2, hs3]
  have hz1 : s1.2.rest.size ≤ 1000000000 := by rw [← hs1]; exact Nat.le_trans (text_rest_leU _) hs
  have hz2 : s2.2.rest.size ≤ 1000000000 := by rw [← hs2]; exact Nat.le_trans (text_rest_leU _) hz1
  have F1 : Hid (∀ w' : World, RdAt w' (n + 1) s 0 → Calls Tryz.prog 41 #[.pointer (some ⟨n + 1, 0, none⟩)] w' fun e w'' => e = .returned (.string s1.1) ∧ RdAt w'' (n + 1) s1.2.rest s1.2.err ∧ w'.grownBy w'' (some (n + 1))) := fun w' q => by
    have := rd_textU (s := ⟨s, 0⟩) q (by show s.size ≤ _; unfold maxLen; omega)
    rwa [hs1] at this
  have F2 : Hid (∀ w' : World, RdAt w' (n + 1) s1.2.rest s1.2.err → Calls Tryz.prog 41 #[.pointer (some ⟨n + 1, 0, none⟩)] w' fun e w'' => e = .returned (.string s2.1) ∧ RdAt w'' (n + 1) s2.2.rest s2.2.err ∧ w'.grownBy w'' (some (n + 1))) := fun w' q => by
    have := rd_textU (s := s1.2) q (by unfold maxLen; omega)
    rwa [hs2] at this
  have F3 : Hid (∀ w' : World, RdAt w' (n + 1) s2.2.rest s2.2.err → Calls Tryz.prog 41 #[.pointer (some ⟨n + 1, 0, none⟩)] w' fun e w'' => e = .returned (.string s3.1) ∧ RdAt w'' (n + 1) s3.2.rest s3.2.err ∧ w'.grownBy w'' (some (n + 1))) := fun w' q => by
    have := rd_textU (s := s2.2) q (by unfold maxLen; omega)
    rwa [hs3] at this
  rw [hD] at hd ⊢
  show Calls _ _ _ _ (fun e w' => e = .returned (.tuple #[updZ, .int .i64 s3.2.done]) ∧ w.grownBy w' none)
  have hd : s3.2.done ≠ 0 := hd
  obtain ⟨dn, hdn⟩ : ∃ dn, s3.2.done = dn := ⟨_, rfl⟩
  have F4 : Hid (∀ w' : World, RdAt w' (n + 1) s3.2.rest s3.2.err → Calls Tryz.prog 42 #[.pointer (some ⟨n + 1, 0, none⟩)] w' fun e w'' => e = .returned (.int .i64 dn) ∧ w' = w'') := fun w' q => by
    have := rd_endS (s := s3.2) q
    rwa [hdn] at this
  have HNEW : Hid (∀ g, some (n + 1) = some g → w.heap.size ≤ g) := Lib.hid (fun g e => by cases e; omega)
  have HZERO : Hid (∀ (w' : World) (v0 v1 v2 v3 v4 v5 v6 v7 v8 : Value), w.grownBy w' none → w.grownBy (((((((((w'.setCell ⟨n, 0, none⟩ v0).setCell ⟨n, 1, none⟩ v1).setCell ⟨n, 2, none⟩ v2).setCell ⟨n, 3, none⟩ v3).setCell ⟨n, 4, none⟩ v4).setCell ⟨n, 5, none⟩ v5).setCell ⟨n, 6, none⟩ v6).setCell ⟨n, 7, none⟩ v7).setCell ⟨n, 8, none⟩ v8) none) := Lib.hid (fun w' v0 v1 v2 v3 v4 v5 v6 v7 v8 q => grown_row q (grown9 w' n v0 v1 v2 v3 v4 v5 v6 v7 v8) (fun y e => by have e2 : n = y := Option.some.inj e; omega))
  rw [hdn] at hd ⊢
  have hdb : (dn != 0) = true := by simp [hd]
  clear hd hdn
  clear hr0 hg0 hW0 hz0 hrd hn hs hs1 hs2 hs3 hD hz1 hz2
  go_enter Tryz.func11, Tryz.ntmps11
  go_wp2_with (rw [HW0.out, HN.out])
  refine HRD.out.mono ?_
  rintro e w1 ⟨rfl, hrd1, g1⟩
  have R1 := Lib.hid hrd1
  have S1 := Lib.hid (And.intro (grownBy_trans HG0.out g1) (g1.heap HR0.out (by simp)))
  clear hrd1 g1 HRD
  go_wp2_with fail
  refine (F1.out _ R1.out).mono ?_
  rintro e w2 ⟨rfl, hrd2, g2⟩
  have R2 := Lib.hid hrd2
  have S2 := Lib.hid (And.intro (grown_row S1.out.1 g2 HNEW.out) (g2.heap S1.out.2 (fun e => by have := Option.some.inj e; omega)))
  clear hrd2 g2 R1 S1
  go_wp2_with fail
  refine (F2.out _ R2.out).mono ?_
  rintro e w3 ⟨rfl, hrd2, g2⟩
  have R3 := Lib.hid hrd2
  have S3 := Lib.hid (And.intro (grown_row S2.out.1 g2 HNEW.out) (g2.heap S2.out.2 (fun e => by have := Option.some.inj e; omega)))
  clear hrd2 g2 R2 S2
  go_wp2_with fail
  refine (F3.out _ R3.out).mono ?_
  rintro e w4 ⟨rfl, hrd2, g2⟩
  have R4 := Lib.hid hrd2
  have S4 := Lib.hid (And.intro (grown_row S3.out.1 g2 HNEW.out) (g2.heap S3.out.2 (fun e => by have := Option.some.inj e; omega)))
  clear hrd2 g2 R3 S3
  go_wp2_with fail
  refine (F4.out _ R4.out).mono ?_
  rintro e w5 ⟨rfl, hw5⟩
  subst hw5
  obtain ⟨u0, u1, u2, u3, u4, u5, u6, u7, u8⟩ := cells9 S4.out.2
  have uf : ∀ j, w4.frozen? ⟨n, j, none⟩ = false := fun j => free_of S4.out.2 j
  go_wp2_with fail
  refine bodyPost_ret (results_pdec (n := n) (v0 := .string ⟨#[]⟩) (v1 := .int .u64 0) (v2 := .string ⟨#[]⟩) (v3 := .string ⟨#[]⟩) (v4 := .int .i64 0) (v5 := .string ⟨#[]⟩) (v6 := .int .i64 0) (v7 := .slice none 0 0) (v8 := .slice none 0 0) rfl rfl (heap9 S4.out.2 _ _ _ _ _ _ _ _ _)) rfl ?_
  exact ⟨rfl, HZERO.out _ _ _ _ _ _ _ _ _ _ S4.out.1⟩
/-- what Decode answers where the bytes are an update's -/
def UpdAns (w : World) (l : ByteArray) (x : EntS) (i h : Nat) (C P : List ByteArray) (e : Ending) (w' : World) : Prop :=
  ∃ ca cc pa pc, e = .returned (.tuple #[updV l x i (.slice ca 35 cc) (.slice pa h pc), .int .i64 0]) ∧ w'.ownsRow w.heap.size 9 1 (.slice ca 35 cc) 35 (strsV C) ∧ w'.ownsRow w.heap.size 9 1 (.slice pa h pc) h (strsV P) ∧ w.grownBy w' none
set_option maxRecDepth 100000 in
set_option maxHeartbeats 3200000 in
theorem udecode_fine (s : ByteArray) (hs : s.size ≤ 1000000000) (l : ByteArray) (x : EntS) (i : Nat) (C P : List ByteArray) (h : Nat) (hl : l.size ≤ 4096) (he : x.err = 0) (hi : i ≤ 63) (hC : C.length = 35) (hP : P.length = h) (hh : h ≤ 6) (h1 : ∀ t ∈ C, t.size = 16) (h2 : ∀ t ∈ P, t.size = 16) (hb : s = str (updB l (str x.bytes) (str (sigB i C P)))) (w : World) :
    Calls Tryz.prog 11 #[.string s] w fun e w' => UpdAns w l x i h C P e w' := by
  obtain ⟨n, hn⟩ : ∃ n, w.heap.size = n := ⟨_, rfl⟩
  have hr0 := heap_alloc_at w (.cells #[.string ⟨#[]⟩, .int .u64 0, .string ⟨#[]⟩, .string ⟨#[]⟩, .int .i64 0, .string ⟨#[]⟩, .int .i64 0, .slice none 0 0, .slice none 0 0] 39) n hn
  have hg0 : w.grownBy (w.alloc (.cells #[.string ⟨#[]⟩, .int .u64 0, .string ⟨#[]⟩, .string ⟨#[]⟩, .int .i64 0, .string ⟨#[]⟩, .int .i64 0, .slice none 0 0, .slice none 0 0] 39)) none := World.grownBy_alloc _ _ _
  obtain ⟨W0, hW0⟩ : ∃ W0, w.alloc (.cells #[.string ⟨#[]⟩, .int .u64 0, .string ⟨#[]⟩, .string ⟨#[]⟩, .int .i64 0, .string ⟨#[]⟩, .int .i64 0, .slice none 0 0, .slice none 0 0] 39) = W0 := ⟨_, rfl⟩
  rw [hW0] at hr0 hg0
  have hz0 : W0.heap.size = n + 1 := by rw [← hW0, World.size_alloc, hn]
  have hrd := read_any s W0
  rw [hz0] at hrd
  have HRD := Lib.hid hrd
  have HR0 := Lib.hid hr0
  have HG0 := Lib.hid hg0
  have HW0 := Lib.hid hW0
  have HN := Lib.hid hn
  obtain ⟨s1, hs1⟩ : ∃ x, (⟨s, 0⟩ : RSt).text = x := ⟨_, rfl⟩
  obtain ⟨s2, hs2⟩ : ∃ x, s1.2.text = x := ⟨_, rfl⟩
  obtain ⟨s3, hs3⟩ : ∃ x, s2.2.text = x := ⟨_, rfl⟩
  have hD : decU s = ⟨s1.1, s2.1, s3.1, s3.2⟩ := by
    unfold decU
    rw [hs1, hs2, hs3]
  have hz1 : s1.2.rest.size ≤ 1000000000 := by rw [← hs1]; exact Nat.le_trans (text_rest_leU _) hs
  have hz2 : s2.2.rest.size ≤ 1000000000 := by rw [← hs2]; exact Nat.le_trans (text_rest_leU _) hz1
  have F1 : Hid (∀ w' : World, RdAt w' (n + 1) s 0 → Calls Tryz.prog 41 #[.pointer (some ⟨n + 1, 0, none⟩)] w' fun e w'' => e = .returned (.string s1.1) ∧ RdAt w'' (n + 1) s1.2.rest s1.2.err ∧ w'.grownBy w'' (some (n + 1))) := fun w' q => by
    have := rd_textU (s := ⟨s, 0⟩) q (by show s.size ≤ _; unfold maxLen; omega)
    rwa [hs1] at this
  have F2 : Hid (∀ w' : World, RdAt w' (n + 1) s1.2.rest s1.2.err → Calls Tryz.prog 41 #[.pointer (some ⟨n + 1, 0, none⟩)] w' fun e w'' => e = .returned (.string s2.1) ∧ RdAt w'' (n + 1) s2.2.rest s2.2.err ∧ w'.grownBy w'' (some (n + 1))) := fun w' q => by
    have := rd_textU (s := s1.2) q (by unfold maxLen; omega)
    rwa [hs2] at this
  have F3 : Hid (∀ w' : World, RdAt w' (n + 1) s2.2.rest s2.2.err → Calls Tryz.prog 41 #[.pointer (some ⟨n + 1, 0, none⟩)] w' fun e w'' => e = .returned (.string s3.1) ∧ RdAt w'' (n + 1) s3.2.rest s3.2.err ∧ w'.grownBy w'' (some (n + 1))) := fun w' q => by
    have := rd_textU (s := s2.2) q (by unfold maxLen; omega)
    rwa [hs3] at this
  have hn1 : (str x.bytes).size ≤ 4096 := by rw [str_size, EntS.len he]; omega
  have hn2 : (str (sigB i C P)).size ≤ 4096 := by rw [str_size, sigB_len i C P hC h1 h2]; omega
  have hU := decU_fine l (str x.bytes) (str (sigB i C P)) hl hn1 hn2
  rw [← hb, hD] at hU
  have k1 : s1.1 = l := congrArg DecU.l hU
  have k2 : s2.1 = str x.bytes := congrArg DecU.x hU
  have k3 : s3.1 = str (sigB i C P) := congrArg DecU.g hU
  have k4 : s3.2 = ⟨str [], 0⟩ := congrArg DecU.s hU
  have hde := decE_enc x he
  have henc : x.enc = str x.bytes := by unfold EntS.enc; rw [if_pos he]
  rw [henc] at hde
  have HED : Hid (∀ w', Calls Tryz.prog 43 #[.string (str x.bytes)] w' fun e w'' => e = .returned (.tuple #[.agg #[.int .u64 x.v, .string x.o, .string x.r, .int .i64 x.h, .string x.p], .int .i64 0]) ∧ w'.grownBy w'' none) := fun w' => by
    have := edecode_any (str x.bytes) (by omega) w'
    rw [hde.1, hde.2] at this
    exact this
  have hdg := decG_fine i C P hi hC (by omega) h1 h2
  have HSD : Hid (∀ w', Calls Tryz.prog 44 #[.string (str (sigB i C P))] w' fun e w'' => ∃ ca cc pa pc, e = .returned (.tuple #[.agg #[.int .i64 i, .slice ca 35 cc, .slice pa h pc], .int .i64 0]) ∧ w''.ownsRow w'.heap.size 9 1 (.slice ca 35 cc) 35 (strsV C) ∧ w''.ownsRow w'.heap.size 9 1 (.slice pa h pc) h (strsV P) ∧ w'.grownBy w'' none) := fun w' => by
    have := dsig_any (str (sigB i C P)) (by omega) w'
    rw [hdg, decG_ok i C P hi (by omega)] at this
    have hm : min P.length 6 = h := by omega
    refine this.mono ?_
    rintro e w'' ⟨ca, cc, pa, pc, rfl, q1, q2, q3⟩
    rw [if_pos rfl]
    have q2 : w''.ownsRow w'.heap.size 9 1 (.slice pa (min P.length 6 : Nat) pc) (min P.length 6) (strsV P) := q2
    rw [hm] at q2
    exact ⟨ca, cc, pa, pc, by show Ending.returned (.tuple #[sigV i _ (.slice pa (min P.length 6 : Nat) pc), _]) = _; rw [hm]; rfl, q1, q2, q3⟩
  rw [k1] at F1
  rw [k2] at F2
  rw [k3] at F3
  rw [k4] at F3
  generalize str x.bytes = xe at HED F2
  generalize str (sigB i C P) = se at HSD F3
  obtain ⟨dn, hdn⟩ : ∃ dn, (⟨str [], 0⟩ : RSt).done = dn := ⟨_, rfl⟩
  have F4 : Hid (∀ w' : World, RdAt w' (n + 1) (str []) 0 → Calls Tryz.prog 42 #[.pointer (some ⟨n + 1, 0, none⟩)] w' fun e w'' => e = .returned (.int .i64 dn) ∧ w' = w'') := fun w' q => by
    have := rd_endS (s := ⟨str [], 0⟩) q
    rwa [hdn] at this
  have HNEW : Hid (∀ g, some (n + 1) = some g → w.heap.size ≤ g) := Lib.hid (fun g e => by cases e; omega)
  have HZERO : Hid (∀ (w' : World) (v0 v1 v2 v3 v4 v5 v6 v7 v8 : Value), w.grownBy w' none → w.grownBy (((((((((w'.setCell ⟨n, 0, none⟩ v0).setCell ⟨n, 1, none⟩ v1).setCell ⟨n, 2, none⟩ v2).setCell ⟨n, 3, none⟩ v3).setCell ⟨n, 4, none⟩ v4).setCell ⟨n, 5, none⟩ v5).setCell ⟨n, 6, none⟩ v6).setCell ⟨n, 7, none⟩ v7).setCell ⟨n, 8, none⟩ v8) none) := Lib.hid (fun w' v0 v1 v2 v3 v4 v5 v6 v7 v8 q => grown_row q (grown9 w' n v0 v1 v2 v3 v4 v5 v6 v7 v8) (fun y e => by have e2 : n = y := Option.some.inj e; omega))
  rw [done_nil] at hdn
  subst hdn
  clear hl he hi hC hP hh h1 h2 hb hn1 hn2 hU k1 k2 k3 k4 hde henc hdg
  clear hr0 hg0 hW0 hz0 hrd hn hs hs1 hs2 hs3 hD hz1 hz2
  go_enter Tryz.func11, Tryz.ntmps11
  go_wp2_with (rw [HW0.out, HN.out])
  refine HRD.out.mono ?_
  rintro e w1 ⟨rfl, hrd1, g1⟩
  have R1 := Lib.hid hrd1
  have S1 := Lib.hid (And.intro (grownBy_trans HG0.out g1) (g1.heap HR0.out (by simp)))
  clear hrd1 g1 HRD
  go_wp2_with fail
  refine (F1.out _ R1.out).mono ?_
  rintro e w2 ⟨rfl, hrd2, g2⟩
  have R2 := Lib.hid hrd2
  have S2 := Lib.hid (And.intro (grown_row S1.out.1 g2 HNEW.out) (g2.heap S1.out.2 (fun e => by have := Option.some.inj e; omega)))
  clear hrd2 g2 R1 S1
  go_wp2_with fail
  refine (F2.out _ R2.out).mono ?_
  rintro e w3 ⟨rfl, hrd2, g2⟩
  have R3 := Lib.hid hrd2
  have S3 := Lib.hid (And.intro (grown_row S2.out.1 g2 HNEW.out) (g2.heap S2.out.2 (fun e => by have := Option.some.inj e; omega)))
  clear hrd2 g2 R2 S2
  go_wp2_with fail
  refine (F3.out _ R3.out).mono ?_
  rintro e w4 ⟨rfl, hrd2, g2⟩
  have R4 := Lib.hid hrd2
  have S4 := Lib.hid (And.intro (grown_row S3.out.1 g2 HNEW.out) (g2.heap S3.out.2 (fun e => by have := Option.some.inj e; omega)))
  clear hrd2 g2 R3 S3
  go_wp2_with fail
  refine (F4.out _ R4.out).mono ?_
  rintro e w5 ⟨rfl, hw5⟩
  subst hw5
  go_wp2_with fail
  refine (HED.out _).mono ?_
  rintro e w6 ⟨rfl, g6⟩
  have hn4 : n < w4.heap.size := (Array.getElem?_eq_some_iff.1 S4.out.2).1
  have S6 := Lib.hid (And.intro (grownBy_trans S4.out.1 g6) (g6.heap S4.out.2 (by simp)))
  have S7 : Hid (w.grownBy (w6.alloc (.cells #[.int .u64 x.v, .string x.o, .string x.r, .int .i64 x.h, .string x.p] 34)) none ∧ (w6.alloc (.cells #[.int .u64 x.v, .string x.o, .string x.r, .int .i64 x.h, .string x.p] 34)).heap[n]? = some (.cells #[.string ⟨#[]⟩, .int .u64 0, .string ⟨#[]⟩, .string ⟨#[]⟩, .int .i64 0, .string ⟨#[]⟩, .int .i64 0, .slice none 0 0, .slice none 0 0] 39 (0, 0)) ∧ (w6.alloc (.cells #[.int .u64 x.v, .string x.o, .string x.r, .int .i64 x.h, .string x.p] 34)).heap[w6.heap.size]? = some (.cells #[.int .u64 x.v, .string x.o, .string x.r, .int .i64 x.h, .string x.p] 34 (0, 0))) := Lib.hid ⟨grownBy_alloc' S6.out.1 _, (World.grownBy_alloc w6 (.cells #[.int .u64 x.v, .string x.o, .string x.r, .int .i64 x.h, .string x.p] 34) none).heap S6.out.2 (by simp), heap_alloc_at w6 _ _ rfl⟩
  clear g6 hn4 HED R4
  go_wp2_with fail
  refine (HSD.out _).mono ?_
  rintro e w8 ⟨ca, cc, pa, pc, rfl, oc, op, g8⟩
  have hn7 : n < (w6.alloc (.cells #[.int .u64 x.v, .string x.o, .string x.r, .int .i64 x.h, .string x.p] 34)).heap.size := (Array.getElem?_eq_some_iff.1 S7.out.2.1).1
  have S8 : Hid (w.grownBy w8 none ∧ w8.heap[n]? = some (.cells #[.string ⟨#[]⟩, .int .u64 0, .string ⟨#[]⟩, .string ⟨#[]⟩, .int .i64 0, .string ⟨#[]⟩, .int .i64 0, .slice none 0 0, .slice none 0 0] 39 (0, 0)) ∧ w8.heap[w6.heap.size]? = some (.cells #[.int .u64 x.v, .string x.o, .string x.r, .int .i64 x.h, .string x.p] 34 (0, 0))) := Lib.hid ⟨grownBy_trans S7.out.1 g8, g8.heap S7.out.2.1 (by simp), g8.heap S7.out.2.2 (by simp)⟩
  have O8 : Hid (w8.ownsRow (n + 1) 9 1 (.slice ca 35 cc) 35 (strsV C) ∧ w8.ownsRow (n + 1) 9 1 (.slice pa h pc) h (strsV P)) := Lib.hid ⟨own_low oc hn7, own_low op hn7⟩
  have ga : w8.grownBy (w8.alloc (.cells #[.int .i64 i, .slice ca 35 cc, .slice pa h pc] 37)) none := World.grownBy_alloc _ _ _
  have S9 : Hid (w.grownBy (w8.alloc (.cells #[.int .i64 i, .slice ca 35 cc, .slice pa h pc] 37)) none ∧ (w8.alloc (.cells #[.int .i64 i, .slice ca 35 cc, .slice pa h pc] 37)).heap[n]? = some (.cells #[.string ⟨#[]⟩, .int .u64 0, .string ⟨#[]⟩, .string ⟨#[]⟩, .int .i64 0, .string ⟨#[]⟩, .int .i64 0, .slice none 0 0, .slice none 0 0] 39 (0, 0)) ∧ (w8.alloc (.cells #[.int .i64 i, .slice ca 35 cc, .slice pa h pc] 37)).heap[w6.heap.size]? = some (.cells #[.int .u64 x.v, .string x.o, .string x.r, .int .i64 x.h, .string x.p] 34 (0, 0))) := Lib.hid ⟨grownBy_trans S8.out.1 ga, ga.heap S8.out.2.1 (by simp), ga.heap S8.out.2.2 (by simp)⟩
  have O9 : Hid ((w8.alloc (.cells #[.int .i64 i, .slice ca 35 cc, .slice pa h pc] 37)).ownsRow (n + 1) 9 1 (.slice ca 35 cc) 35 (strsV C) ∧ (w8.alloc (.cells #[.int .i64 i, .slice ca 35 cc, .slice pa h pc] 37)).ownsRow (n + 1) 9 1 (.slice pa h pc) h (strsV P)) := Lib.hid ⟨own_keepP O8.out.1 ga (fun _ _ => by simp), own_keepP O8.out.2 ga (fun _ _ => by simp)⟩
  obtain ⟨z0, z1, z2⟩ := sig_cells (heap_alloc_at w8 (.cells #[.int .i64 i, .slice ca 35 cc, .slice pa h pc] 37) w8.heap.size rfl)
  obtain ⟨y0, y1, y2, y3, y4⟩ := cells5 S9.out.2.2
  obtain ⟨u0, u1, u2, u3, u4, u5, u6, u7, u8⟩ := cells9 S9.out.2.1
  have uf : ∀ j, (w8.alloc (.cells #[.int .i64 i, .slice ca 35 cc, .slice pa h pc] 37)).frozen? ⟨n, j, none⟩ = false := fun j => free_of S9.out.2.1 j
  clear ga oc op g8 hn7
  go_wp2_with fail
  refine bodyPost_ret (results_pdec (n := n) (v0 := .string l) (v1 := .int .u64 x.v) (v2 := .string x.o) (v3 := .string x.r) (v4 := .int .i64 x.h) (v5 := .string x.p) (v6 := .int .i64 i) (v7 := .slice ca 35 cc) (v8 := .slice pa h pc) rfl rfl (heap9 S9.out.2.1 _ _ _ _ _ _ _ _ _)) rfl ?_
  show UpdAns _ _ _ _ _ _ _ _ _
  unfold UpdAns
  exact ⟨_, _, _, _, rfl, by rw [HN.out]; exact own_low (own_next O9.out.1 (grown9 _ n _ _ _ _ _ _ _ _ _) (by omega)) (by omega), by rw [HN.out]; exact own_low (own_next O9.out.2 (grown9 _ n _ _ _ _ _ _ _ _ _) (by omega)) (by omega), HZERO.out _ _ _ _ _ _ _ _ _ _ S9.out.1⟩
end Go.Proofs.YtemndmhdlgfajaaGreatDoor
