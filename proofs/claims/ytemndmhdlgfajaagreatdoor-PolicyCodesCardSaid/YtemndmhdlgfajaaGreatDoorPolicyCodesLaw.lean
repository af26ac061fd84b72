/- The walk of the law PolicyCodes. -/
import Derived.Test.YtemndmhdlgfajaaGreatDoorPolK
import Derived.Test.YtemndmhdlgfajaaGreatDoorPolF
import Derived.Test.YtemndmhdlgfajaaGreatDoorPolG
import Derived.Test.YtemndmhdlgfajaaGreatDoorPolicyCodesB4
import Derived.Deep.RegionHeld3
namespace Go.Proofs.YtemndmhdlgfajaaGreatDoor
open Go.RowKit
attribute [local irreducible] shaL

/-- one byte more -/
def oneX : ByteArray := ⟨#[120]⟩
theorem app_x (l : List UInt8) : str l ++ oneX = str (l ++ [120]) := by
  apply ByteArray.ext
  simp [str, oneX]
theorem take_str (l : List UInt8) (k : Nat) : (str l).extract 0 k = str (l.take k) := by
  apply ByteArray.ext
  simp [str]
theorem err_zero {O R : ByteArray} (h : Int) : (⟨0, O, R, h, noughtsS⟩ : EntS).err = 13 := by
  unfold EntS.err
  rw [if_pos (Or.inl (by show (0 : Nat) < 1; omega))]
theorem zero_row (w0 w : World) (q : w0.grownBy w none) : w0.grownBy ((((((((((w.alloc (.cells #[.string ⟨#[]⟩, .int .u64 0, .string ⟨#[]⟩, .string ⟨#[]⟩, .int .i64 0, .string ⟨#[]⟩, .int .i64 0, .slice none 0 0, .slice none 0 0] 39)).setCell ⟨w.heap.size, 0, none⟩ (.string ⟨#[]⟩)).setCell ⟨w.heap.size, 1, none⟩ (.int .u64 0)).setCell ⟨w.heap.size, 2, none⟩ (.string ⟨#[]⟩)).setCell ⟨w.heap.size, 3, none⟩ (.string ⟨#[]⟩)).setCell ⟨w.heap.size, 4, none⟩ (.int .i64 0)).setCell ⟨w.heap.size, 5, none⟩ (.string ⟨#[]⟩)).setCell ⟨w.heap.size, 6, none⟩ (.int .i64 0)).setCell ⟨w.heap.size, 7, none⟩ (.slice none 0 0)).setCell ⟨w.heap.size, 8, none⟩ (.slice none 0 0)) none :=
  grown_row (grownBy_alloc' q _) (grown9 _ w.heap.size _ _ _ _ _ _ _ _ _) (fun y e => by have e2 : w.heap.size = y := Option.some.inj e; have := q.size; omega)
set_option maxRecDepth 100000 in
set_option maxHeartbeats 6400000 in
theorem policyCodes_walk (l0 : ByteArray) (hl0 : l0.size ≤ maxLen) (ver : Nat) (hver : ver ≤ 4294967295) (cut : Nat) (hcut : cut ≤ 65535) (w : World) (hr : ShaReady w) (hj : ∀ w', ShaReady w' → w.grownBy w' none → Calls Tryz.prog 76 #[.string ⟨#[97, 108, 105, 99, 101]⟩] w' fun e w'' => e = .returned (.int .i64 0) ∧ w'.grownBy w'' none) :
    Calls Tryz.prog 3 #[.string l0, .int .u32 ver, .int .u16 cut] w fun e w' => e = .returned (.bool true) ∧ w.grownBy w' none := by
  have HSP := Lib.hid (policy_speaks w hr hj)
  have HR := Lib.hid hr
  have HNEW := Lib.hid (fun w' q => xnew_any seedA 0 (by decide) (by decide) w' q)
  have ho := openS_size seedA
  have hro := rootK_16 seedA 0
  have hpub : Hid (∀ w0 b, KeyAt w0 b seedA 0 → Calls Tryz.prog 7 #[.pointer (some ⟨b, 0, none⟩)] w0 fun e w' => e = .returned (.agg #[.string (openS seedA), .string (rootK seedA 0), .int .i64 0]) ∧ w0.grownBy w' none) := Lib.hid (fun w0 b hk => xpublic_any b seedA 0 w0 hk)
  have hver0 := Lib.hid (fun (m : ByteArray) (hm : m.size ≤ 1000000000000) (i : Nat) (hi : i < 2 ^ 0) (ca pa : Option Addr) (cc pc : Nat) (w0 : World) hc hp h0 => verify_own seedA m 0 i (by decide) hi hm ca pa cc pc w0 hc hp h0)
  generalize openS seedA = O at ho hpub hver0
  generalize rootK seedA 0 = R at hro hpub hver0
  have hsm : (⟨ver, O, R, 0, noughtsS⟩ : EntS).small := ⟨by show ver ≤ _; omega, by show O.size ≤ _; omega, by show R.size ≤ _; omega, by show noughtsS.size ≤ _; decide⟩
  have HSEED : Hid (∀ w', ShaReady w' → Calls Tryz.prog 6 #[.string ⟨#[97]⟩, .int .i64 0] w' fun e w'' => ∃ b, e = .returned (.tuple #[.pointer (some ⟨b, 0, none⟩), .int .i64 0]) ∧ KeyAt w'' b seedA 0 ∧ w'.grownBy w'' none) := HNEW
  have HB := Lib.hid (And.intro hver (And.intro hcut (And.intro ho hro)))
  unfold maxLen at hl0
  clear hj hr HNEW
  go_enter Tryz.func3, Tryz.ntmps3
  go_wp2_with fail
  refine HSP.out.mono ?_
  rintro e w1 ⟨rfl, g1⟩
  have HG1 := Lib.hid g1
  clear g1 HSP
  go_upto_region 3 with (fail)
  go_cut [0] (fun sv wx => ∃ s : ByteArray, sv = .string s ∧ s.size ≤ 50 ∧ Hid (w1 = wx))
  case first =>
    by_cases hz : l0.size ≤ 50
    · have hz2 : (l0.size : Int) ≤ 50 := by omega
      go_wp2_with fail
      go_meet
      case rel => exact ⟨_, rfl, by first | exact hz | (rw [ByteArray.size_extract]; omega), rfl⟩
    · have hz2 : ¬ (l0.size : Int) ≤ 50 := by omega
      have hz3 : (50 : Int) < (l0.size : Int) := by omega
      have hz4 : (50 : Int) ≤ (l0.size : Int) := by omega
      go_wp2_with fail
      go_meet
      case rel => exact ⟨_, rfl, by rw [ByteArray.size_extract]; omega, rfl⟩
  obtain ⟨l, rfl, hT, HWE⟩ := hcut
  have hwe := HWE.out
  subst hwe
  have HL := Lib.hid hT
  clear HWE hl0 hT
  go_wp2_with fail
  refine (HSEED.out _ (HR.out.grown HG1.out)).mono ?_
  rintro e w2 ⟨b, rfl, hk2, g2⟩
  have K2 := Lib.hid hk2
  have G2 := Lib.hid (grownBy_trans HG1.out g2)
  clear hk2 g2 HSEED
  go_wp2_with fail
  refine (hpub.out w2 b K2.out).mono ?_
  rintro e w3 ⟨rfl, g3⟩
  have hb4 := heap_alloc_at w3 (.cells #[.int .u64 ver, .string O, .string R, .int .i64 0, .string ⟨#[0, 0, 0, 0, 0, 0, 0, 0, 0, 0, 0, 0, 0, 0, 0, 0]⟩] 34) _ rfl
  have g4 : w3.grownBy (w3.alloc (.cells #[.int .u64 ver, .string O, .string R, .int .i64 0, .string ⟨#[0, 0, 0, 0, 0, 0, 0, 0, 0, 0, 0, 0, 0, 0, 0, 0]⟩] 34)) none := World.grownBy_alloc _ _ _
  obtain ⟨W4, hW4⟩ : ∃ W4, w3.alloc (.cells #[.int .u64 ver, .string O, .string R, .int .i64 0, .string ⟨#[0, 0, 0, 0, 0, 0, 0, 0, 0, 0, 0, 0, 0, 0, 0, 0]⟩] 34) = W4 := ⟨_, rfl⟩
  obtain ⟨XB, hXB⟩ : ∃ XB, w3.heap.size = XB := ⟨_, rfl⟩
  rw [hW4] at hb4 g4
  rw [hXB] at hb4
  have K4 := Lib.hid (K2.out.grown (grownBy_trans g3 g4))
  have G4 := Lib.hid (grownBy_trans G2.out (grownBy_trans g3 g4))
  have B4 := Lib.hid hb4
  have HW4 := Lib.hid hW4
  have HXB := Lib.hid hXB
  obtain ⟨x0, x1, x2, x3, x4⟩ := cells5 hb4
  clear g3 hb4 g4 hW4 hXB K2 G2
  by_cases hv0 : ver = 0
  · have herr : (⟨ver, O, R, 0, noughtsS⟩ : EntS).err = 13 := by rw [hv0]; exact err_zero 0
    have HBAD := Lib.hid (fun w' q k => psign_bad b seedA l (⟨ver, O, R, 0, noughtsS⟩ : EntS) 0 0 (by rw [herr]; decide) hsm w' q k)
    rw [herr] at HBAD
    have HBAD2 : Hid (∀ w', ShaReady w' → KeyAt w' b seedA 0 → Calls Tryz.prog 8 #[.pointer (some ⟨b, 0, none⟩), .int .i64 0, .string l, .agg #[.int .u64 ver, .string O, .string R, .int .i64 0, .string ⟨#[0, 0, 0, 0, 0, 0, 0, 0, 0, 0, 0, 0, 0, 0, 0, 0]⟩]] w' fun e w'' => e = .returned (.tuple #[.agg #[.string ⟨#[]⟩, .int .u64 0, .string ⟨#[]⟩, .string ⟨#[]⟩, .int .i64 0, .string ⟨#[]⟩, .int .i64 0, .slice none 0 0, .slice none 0 0], .int .i64 13]) ∧ w'.grownBy w'' none) := HBAD
    have HMSG := Lib.hid (fun w' q => message_any l (⟨ver, O, R, 0, noughtsS⟩ : EntS) (by have := HL.out; omega) hsm w' q)
    have hm0 : msgS l (⟨ver, O, R, 0, noughtsS⟩ : EntS) = ⟨#[]⟩ := by unfold msgS; rw [herr, if_neg (by decide)]
    rw [hm0] at HMSG
    have HMSG2 : Hid (∀ w', ShaReady w' → Calls Tryz.prog 9 #[.string l, .agg #[.int .u64 ver, .string O, .string R, .int .i64 0, .string ⟨#[0, 0, 0, 0, 0, 0, 0, 0, 0, 0, 0, 0, 0, 0, 0, 0]⟩]] w' fun e w'' => e = .returned (.string ⟨#[]⟩) ∧ w'.grownBy w'' none) := HMSG
    have q1 : ((ver : Int) == 0) = true := by simp [hv0]
    clear HBAD HMSG hm0 hsm hpub hver0 herr hv0
    go_wp2_with (rw [HW4.out, HXB.out])
    refine (HBAD2.out _ (HR.out.grown G4.out) K4.out).mono ?_
    rintro e w5 ⟨rfl, g5⟩
    have B5 := Lib.hid (g5.heap B4.out (by simp))
    have G5 := Lib.hid (grownBy_trans G4.out g5)
    clear g5 x0 x1 x2 x3 x4
    have HG6 := Lib.hid (grownBy_alloc' G5.out (.cells #[.string ⟨#[]⟩, .int .u64 0, .string ⟨#[]⟩, .string ⟨#[]⟩, .int .i64 0, .string ⟨#[]⟩, .int .i64 0, .slice none 0 0, .slice none 0 0] 39))
    have B6 := (World.grownBy_alloc w5 (.cells #[.string ⟨#[]⟩, .int .u64 0, .string ⟨#[]⟩, .string ⟨#[]⟩, .int .i64 0, .string ⟨#[]⟩, .int .i64 0, .slice none 0 0, .slice none 0 0] 39) none).heap B5.out (by simp)
    obtain ⟨x0, x1, x2, x3, x4⟩ := cells5 B6
    clear B6
    go_wp2_with fail
    refine (HMSG2.out _ (HR.out.grown HG6.out)).mono ?_
    rintro e w6 ⟨rfl, g6⟩
    have G6 := Lib.hid (grownBy_trans HG6.out g6)
    clear g6
    go_wp2_with fail
    go_ret
    exact ⟨rfl, G6.out⟩
  · have herr : (⟨ver, O, R, 0, noughtsS⟩ : EntS).err = 0 := ent_ok ver ⟨by omega, by have := HB.out.1; omega⟩ ho hro noughts_16 ⟨by decide, by decide⟩
    have HSG := Lib.hid (fun w' q k => psign_fine b seedA l (⟨ver, O, R, 0, noughtsS⟩ : EntS) 0 0 (by decide) (by decide) (by decide) (by have := HL.out; omega) herr hsm w' q k)
    have HSP := Lib.hid (fun w' q k => psign_spent b seedA l (⟨ver, O, R, 0, noughtsS⟩ : EntS) 0 1 (by decide) (by have := HL.out; omega) herr hsm w' q k)
    have HSP2 : Hid (∀ w', ShaReady w' → KeyAt w' b seedA 0 → Calls Tryz.prog 8 #[.pointer (some ⟨b, 0, none⟩), .int .i64 1, .string l, .agg #[.int .u64 ver, .string O, .string R, .int .i64 0, .string ⟨#[0, 0, 0, 0, 0, 0, 0, 0, 0, 0, 0, 0, 0, 0, 0, 0]⟩]] w' fun e w'' => e = .returned (.tuple #[.agg #[.string ⟨#[]⟩, .int .u64 0, .string ⟨#[]⟩, .string ⟨#[]⟩, .int .i64 0, .string ⟨#[]⟩, .int .i64 0, .slice none 0 0, .slice none 0 0], .int .i64 11]) ∧ w'.grownBy w'' none) := HSP
    have HMSG := Lib.hid (fun w' q => message_any l (⟨ver, O, R, 0, noughtsS⟩ : EntS) (by have := HL.out; omega) hsm w' q)
    have hms := msgS_size l (⟨ver, O, R, 0, noughtsS⟩ : EntS)
    obtain ⟨M, hM⟩ : ∃ M, msgS l (⟨ver, O, R, 0, noughtsS⟩ : EntS) = M := ⟨_, rfl⟩
    rw [hM] at HSG HMSG hms
    have HMSG2 : Hid (∀ w', ShaReady w' → Calls Tryz.prog 9 #[.string l, .agg #[.int .u64 ver, .string O, .string R, .int .i64 0, .string ⟨#[0, 0, 0, 0, 0, 0, 0, 0, 0, 0, 0, 0, 0, 0, 0, 0]⟩]] w' fun e w'' => e = .returned (.string M) ∧ w'.grownBy w'' none) := HMSG
    have hC35 := chains_35 seedA M 0
    have hC16 := chains_16 seedA M 0
    have hP0 : (pathS 0 (leavesS seedA 0) 0).length = 0 := pathS_length 0 _ _
    have hVER := hver0.out M (by omega) 0 (by decide)
    obtain ⟨C, hC⟩ : ∃ C, chainsS seedA 0 M = C := ⟨_, rfl⟩
    obtain ⟨P, hP⟩ : ∃ P, pathS 0 (leavesS seedA 0) 0 = P := ⟨_, rfl⟩
    rw [hC] at HSG hC35 hC16 hVER
    rw [hP] at HSG hP0 hVER
    have hP16 : ∀ t ∈ P, t.size = 16 := by intro t ht; rw [List.length_eq_zero_iff.1 hP0] at ht; cases ht
    have HVER : Hid (∀ (ca pa : Option Addr) (cc pc : Nat) (w0 : World), StrsAt w0 (.slice ca 35 cc) C → StrsAt w0 (.slice pa 0 pc) P → ShaReady w0 → Calls Tryz.prog 12 #[.agg #[.string O, .string R, .int .i64 0], .string M, .agg #[.int .i64 0, .slice ca 35 cc, .slice pa 0 pc]] w0 fun e w' => e = .returned (.bool true) ∧ w0.grownBy w' none) := Lib.hid hVER
    have HSG2 : Hid (∀ w', ShaReady w' → KeyAt w' b seedA 0 → Calls Tryz.prog 8 #[.pointer (some ⟨b, 0, none⟩), .int .i64 0, .string l, .agg #[.int .u64 ver, .string O, .string R, .int .i64 0, .string ⟨#[0, 0, 0, 0, 0, 0, 0, 0, 0, 0, 0, 0, 0, 0, 0, 0]⟩]] w' fun e w'' => ∃ ca cc pa pc, e = .returned (.tuple #[.agg #[.string l, .int .u64 ver, .string O, .string R, .int .i64 0, .string ⟨#[0, 0, 0, 0, 0, 0, 0, 0, 0, 0, 0, 0, 0, 0, 0, 0]⟩, .int .i64 0, .slice ca 35 cc, .slice pa 0 pc], .int .i64 0]) ∧ StrsAt w'' (.slice ca 35 cc) C ∧ StrsAt w'' (.slice pa 0 pc) P ∧ w'.grownBy w'' none) := Lib.hid (fun w' q k => (HSG.out w' q k).mono (by
      rintro e w'' ⟨ca, cc, pa, pc, rfl, q1, q2, _, _, q3⟩
      exact ⟨ca, cc, pa, pc, rfl, q1, q2, q3⟩))
    have hl4 : l.size ≤ 4096 := by have := HL.out; omega
    have hx4 : (str (⟨ver, O, R, 0, noughtsS⟩ : EntS).bytes).size ≤ 4096 := by rw [str_size, EntS.len herr]; decide
    have hs4 : (str (sigB 0 C P)).size ≤ 4096 := by rw [str_size, sigB_len 0 C P hC35 hC16 hP16, hP0]; decide
    have HEN0 := Lib.hid (fun (ca pa : Option Addr) (cc pc : Nat) (w' : World) hc hp => uencode_fine l (⟨ver, O, R, 0, noughtsS⟩ : EntS) 0 C P ca pa cc pc 0 hl4 hsm herr (by decide) hC35 hP0 (by decide) hC16 hP16 w' hc hp)
    have hlen : (updB l (str (⟨ver, O, R, 0, noughtsS⟩ : EntS).bytes) (str (sigB 0 C P))).length ≤ 10000 := by unfold updB; rw [List.length_append, List.length_append, textU_len, textU_len, textU_len, str_size, str_size, EntS.len herr, sigB_len 0 C P hC35 hC16 hP16, hP0]; omega
    have hlen0 : 0 < (updB l (str (⟨ver, O, R, 0, noughtsS⟩ : EntS).bytes) (str (sigB 0 C P))).length := by unfold updB; rw [List.length_append, textU_len]; omega
    have HLESS := Lib.hid (fun k hk => decU_less l (str (⟨ver, O, R, 0, noughtsS⟩ : EntS).bytes) (str (sigB 0 C P)) k hl4 hx4 hs4 hk)
    have HMORE := Lib.hid (decU_more l (str (⟨ver, O, R, 0, noughtsS⟩ : EntS).bytes) (str (sigB 0 C P)) [120] hl4 hx4 hs4)
    have HDF := Lib.hid (fun s hs hb w' => udecode_fine s hs l (⟨ver, O, R, 0, noughtsS⟩ : EntS) 0 C P 0 hl4 herr (by decide) hC35 hP0 (by decide) hC16 hP16 hb w')
    obtain ⟨U, hU⟩ : ∃ U, updB l (str (⟨ver, O, R, 0, noughtsS⟩ : EntS).bytes) (str (sigB 0 C P)) = U := ⟨_, rfl⟩
    rw [hU] at HEN0 hlen hlen0 HLESS HMORE HDF
    have HEN : Hid (∀ (ca pa : Option Addr) (cc pc : Nat) (w' : World), StrsAt w' (.slice ca 35 cc) C → StrsAt w' (.slice pa 0 pc) P → Calls Tryz.prog 10 #[.agg #[.string l, .int .u64 ver, .string O, .string R, .int .i64 0, .string ⟨#[0, 0, 0, 0, 0, 0, 0, 0, 0, 0, 0, 0, 0, 0, 0, 0]⟩, .int .i64 0, .slice ca 35 cc, .slice pa 0 pc]] w' fun e w'' => e = .returned (.tuple #[.string (str U), .int .i64 0]) ∧ w'.grownBy w'' none) := HEN0
    obtain ⟨S, hS⟩ : ∃ S, str U = S := ⟨_, rfl⟩
    have hSs : S.size = U.length := by rw [← hS, str_size]
    have HDEC : Hid (∀ w', Calls Tryz.prog 11 #[.string S] w' fun e w'' => ∃ ca cc pa pc, e = .returned (.tuple #[.agg #[.string l, .int .u64 ver, .string O, .string R, .int .i64 0, .string ⟨#[0, 0, 0, 0, 0, 0, 0, 0, 0, 0, 0, 0, 0, 0, 0, 0]⟩, .int .i64 0, .slice ca 35 cc, .slice pa 0 pc], .int .i64 0]) ∧ StrsAt w'' (.slice ca 35 cc) C ∧ StrsAt w'' (.slice pa 0 pc) P ∧ w'.grownBy w'' none) := Lib.hid (fun w' => (HDF.out S (by omega) hS.symm w').mono (by
      rintro e w'' ⟨ca, cc, pa, pc, rfl, q1, q2, q3⟩
      exact ⟨ca, cc, pa, pc, rfl, strs_own q1, strs_own q2, q3⟩))
    have HCUT : Hid (∀ (k : Nat) (w' : World), k < S.size → Calls Tryz.prog 11 #[.string (S.extract 0 k)] w' fun e w'' => e = .returned (.tuple #[.agg #[.string ⟨#[]⟩, .int .u64 0, .string ⟨#[]⟩, .string ⟨#[]⟩, .int .i64 0, .string ⟨#[]⟩, .int .i64 0, .slice none 0 0, .slice none 0 0], .int .i64 3]) ∧ w'.grownBy w'' none) := Lib.hid (fun k w' hk => by
      have hd := HLESS.out k (by omega)
      have e1 : S.extract 0 k = str (U.take k) := by rw [← hS, take_str]
      have := udecode_bad (S.extract 0 k) (by rw [ByteArray.size_extract]; omega) (by rw [e1, hd]; decide) w'
      rw [e1, hd, ← e1] at this
      exact this)
    have HMX : Hid (∀ (w' : World), Calls Tryz.prog 11 #[.string (S ++ ⟨#[120]⟩)] w' fun e w'' => e = .returned (.tuple #[.agg #[.string ⟨#[]⟩, .int .u64 0, .string ⟨#[]⟩, .string ⟨#[]⟩, .int .i64 0, .string ⟨#[]⟩, .int .i64 0, .slice none 0 0, .slice none 0 0], .int .i64 2]) ∧ w'.grownBy w'' none) := Lib.hid (fun w' => by
      have e1 : S ++ (⟨#[120]⟩ : ByteArray) = str (U ++ [120]) := by rw [← hS]; exact app_x U
      have hd : (decU (str (U ++ [120]))).s.done = 2 := by rw [HMORE.out]; rfl
      have := udecode_bad (S ++ ⟨#[120]⟩) (by rw [e1, str_size, List.length_append, List.length_singleton]; omega) (by rw [e1, hd]; decide) w'
      rw [e1, hd, ← e1] at this
      exact this)
    rw [hS] at HEN
    have HSZ := Lib.hid (And.intro (show 0 < S.size by omega) (show S.size ≤ 10000 by omega))
    have q1 : ((ver : Int) == 0) = false := by simp; omega
    clear HSG HSP HMSG hver0 hVER hC hP hM hC35 hC16 hP0 hP16 hms hl4 hx4 hs4 HEN0 hlen hlen0 HLESS HMORE HDF hU hS hSs herr hsm hv0 ho hro
    go_wp2_with (rw [HW4.out, HXB.out])
    refine (HSG2.out _ (HR.out.grown G4.out) K4.out).mono ?_
    rintro e w5 ⟨ca0, cc0, pa0, pc0, rfl, hc5, hp5, g5⟩
    have hb6 := heap_alloc_at w5 (.cells #[.string l, .int .u64 ver, .string O, .string R, .int .i64 0, .string ⟨#[0, 0, 0, 0, 0, 0, 0, 0, 0, 0, 0, 0, 0, 0, 0, 0]⟩, .int .i64 0, .slice ca0 35 cc0, .slice pa0 0 pc0] 39) _ rfl
    have g6 : w5.grownBy (w5.alloc (.cells #[.string l, .int .u64 ver, .string O, .string R, .int .i64 0, .string ⟨#[0, 0, 0, 0, 0, 0, 0, 0, 0, 0, 0, 0, 0, 0, 0, 0]⟩, .int .i64 0, .slice ca0 35 cc0, .slice pa0 0 pc0] 39)) none := World.grownBy_alloc _ _ _
    obtain ⟨W6, hW6⟩ : ∃ W6, w5.alloc (.cells #[.string l, .int .u64 ver, .string O, .string R, .int .i64 0, .string ⟨#[0, 0, 0, 0, 0, 0, 0, 0, 0, 0, 0, 0, 0, 0, 0, 0]⟩, .int .i64 0, .slice ca0 35 cc0, .slice pa0 0 pc0] 39) = W6 := ⟨_, rfl⟩
    obtain ⟨UB, hUB⟩ : ∃ UB, w5.heap.size = UB := ⟨_, rfl⟩
    rw [hW6] at hb6 g6
    rw [hUB] at hb6
    have K6 := Lib.hid (K4.out.grown (grownBy_trans g5 g6))
    have G6 := Lib.hid (grownBy_trans G4.out (grownBy_trans g5 g6))
    have B6 := Lib.hid ((grownBy_trans g5 g6).heap B4.out (by simp))
    have SC6 := Lib.hid (And.intro (hc5.grown g6) (hp5.grown g6))
    have HW6 := Lib.hid (And.intro hW6 hUB)
    clear x0 x1 x2 x3 x4 g5 hc5 hp5 hW6 hUB g6 B4 K4 G4
    obtain ⟨x0, x1, x2, x3, x4⟩ := cells5 B6.out
    obtain ⟨u0, u1, u2, u3, u4, u5, u6, u7, u8⟩ := cells9 hb6
    clear hb6
    go_wp2_with (rw [HW6.out.1, HW6.out.2])
    refine (HEN.out ca0 pa0 cc0 pc0 _ SC6.out.1 SC6.out.2).mono ?_
    rintro e w7 ⟨rfl, g7⟩
    have B7 := Lib.hid (g7.heap B6.out (by simp))
    have K7 := Lib.hid (K6.out.grown g7)
    have G7 := Lib.hid (grownBy_trans G6.out g7)
    clear x0 x1 x2 x3 x4 u0 u1 u2 u3 u4 u5 u6 u7 u8 g7 HEN SC6 G6 K6 B6
    go_wp2_with fail
    refine (HDEC.out _).mono ?_
    rintro e w8 ⟨ca, cc, pa, pc, rfl, hc8, hp8, g8⟩
    have hb9 := heap_alloc_at w8 (.cells #[.string l, .int .u64 ver, .string O, .string R, .int .i64 0, .string ⟨#[0, 0, 0, 0, 0, 0, 0, 0, 0, 0, 0, 0, 0, 0, 0, 0]⟩, .int .i64 0, .slice ca 35 cc, .slice pa 0 pc] 39) _ rfl
    have g9 : w8.grownBy (w8.alloc (.cells #[.string l, .int .u64 ver, .string O, .string R, .int .i64 0, .string ⟨#[0, 0, 0, 0, 0, 0, 0, 0, 0, 0, 0, 0, 0, 0, 0, 0]⟩, .int .i64 0, .slice ca 35 cc, .slice pa 0 pc] 39)) none := World.grownBy_alloc _ _ _
    obtain ⟨W9, hW9⟩ : ∃ W9, w8.alloc (.cells #[.string l, .int .u64 ver, .string O, .string R, .int .i64 0, .string ⟨#[0, 0, 0, 0, 0, 0, 0, 0, 0, 0, 0, 0, 0, 0, 0, 0]⟩, .int .i64 0, .slice ca 35 cc, .slice pa 0 pc] 39) = W9 := ⟨_, rfl⟩
    obtain ⟨VB, hVB⟩ : ∃ VB, w8.heap.size = VB := ⟨_, rfl⟩
    rw [hW9] at hb9 g9
    rw [hVB] at hb9
    have B9 := Lib.hid (And.intro ((grownBy_trans g8 g9).heap B7.out (by simp)) hb9)
    have K9 := Lib.hid (K7.out.grown (grownBy_trans g8 g9))
    have G9 := Lib.hid (grownBy_trans G7.out (grownBy_trans g8 g9))
    have SC9 := Lib.hid (And.intro (hc8.grown g9) (hp8.grown g9))
    have HW9 := Lib.hid (And.intro hW9 hVB)
    have hSZ := HSZ.out
    have r1 : ((S.size : Int) == 0) = false := by rw [beq_eq_false_iff_ne]; omega
    have r2 : (0 : Int) < (S.size : Int) := by omega
    have r3 : ¬ (S.size : Int) = 0 := by omega
    have r4 : (cut : Int) % (S.size : Int) = ((cut % S.size : Nat) : Int) := by simp
    have r5 : cut % S.size < S.size := Nat.mod_lt _ hSZ.1
    have HCT := Lib.hid (fun w' => HCUT.out (cut % S.size) w' r5)
    generalize cut % S.size = K at r4 r5 HCT
    have r6 : (K : Int) ≤ (S.size : Int) := by omega
    have r7 : (0 : Int) ≤ (K : Int) := by omega
    clear hb9 g9 g8 hW9 hVB hc8 hp8 hSZ B7 K7 G7 HDEC
    go_wp2_with (rw [HW9.out.1, HW9.out.2])
    refine (HCT.out _).mono ?_
    rintro e w10 ⟨rfl, g10⟩
    have G10 := Lib.hid (grownBy_alloc' g10 (.cells #[.string ⟨#[]⟩, .int .u64 0, .string ⟨#[]⟩, .string ⟨#[]⟩, .int .i64 0, .string ⟨#[]⟩, .int .i64 0, .slice none 0 0, .slice none 0 0] 39))
    have ra : (9223372036854775807 < S.size + 1) = False := by have := HSZ.out.2; simp; omega
    have rb : S.size + 1 ≤ 9223372036854775807 := by have := HSZ.out.2; omega
    clear g10 r4 r5 r6 r7 HCT
    go_wp2_with fail
    refine (HMX.out _).mono ?_
    rintro e w11 ⟨rfl, g11⟩
    have G11 := Lib.hid (grownBy_alloc' (grownBy_trans G10.out g11) (.cells #[.string ⟨#[]⟩, .int .u64 0, .string ⟨#[]⟩, .string ⟨#[]⟩, .int .i64 0, .string ⟨#[]⟩, .int .i64 0, .slice none 0 0, .slice none 0 0] 39))
    have B11 := Lib.hid (G11.out.heap B9.out.1 (by simp))
    obtain ⟨x0, x1, x2, x3, x4⟩ := cells5 B11.out
    clear g11 HMX
    go_wp2_with fail
    refine (HSP2.out _ (HR.out.grown (grownBy_trans G9.out G11.out)) (K9.out.grown G11.out)).mono ?_
    rintro e w12 ⟨rfl, g12⟩
    have G12 := Lib.hid (grownBy_alloc' (grownBy_trans G11.out g12) (.cells #[.string ⟨#[]⟩, .int .u64 0, .string ⟨#[]⟩, .string ⟨#[]⟩, .int .i64 0, .string ⟨#[]⟩, .int .i64 0, .slice none 0 0, .slice none 0 0] 39))
    obtain ⟨W12, hW12⟩ : ∃ W12, w12.alloc (.cells #[.string ⟨#[]⟩, .int .u64 0, .string ⟨#[]⟩, .string ⟨#[]⟩, .int .i64 0, .string ⟨#[]⟩, .int .i64 0, .slice none 0 0, .slice none 0 0] 39) = W12 := ⟨_, rfl⟩
    rw [hW12] at G12
    have HW12 := Lib.hid hW12
    have HPK : Hid (∀ w0 : World, W12.grownBy w0 none → (w0.cell? ⟨VB, 0, none⟩ = some (.string l) ∧ w0.cell? ⟨VB, 1, none⟩ = some (.int .u64 ver) ∧ w0.cell? ⟨VB, 2, none⟩ = some (.string O) ∧ w0.cell? ⟨VB, 3, none⟩ = some (.string R) ∧ w0.cell? ⟨VB, 4, none⟩ = some (.int .i64 0) ∧ w0.cell? ⟨VB, 5, none⟩ = some (.string ⟨#[0, 0, 0, 0, 0, 0, 0, 0, 0, 0, 0, 0, 0, 0, 0, 0]⟩) ∧ w0.cell? ⟨VB, 6, none⟩ = some (.int .i64 0) ∧ w0.cell? ⟨VB, 7, none⟩ = some (.slice ca 35 cc) ∧ w0.cell? ⟨VB, 8, none⟩ = some (.slice pa 0 pc)) ∧ w0.cell? ⟨XB, 0, none⟩ = some (.int .u64 ver) ∧ w0.cell? ⟨XB, 1, none⟩ = some (.string O) ∧ w0.cell? ⟨XB, 2, none⟩ = some (.string R) ∧ w0.cell? ⟨XB, 3, none⟩ = some (.int .i64 0) ∧ w0.cell? ⟨XB, 4, none⟩ = some (.string ⟨#[0, 0, 0, 0, 0, 0, 0, 0, 0, 0, 0, 0, 0, 0, 0, 0]⟩)) := Lib.hid (fun w0 q => ⟨cells9 (q.heap (G12.out.heap B9.out.2 (by simp)) (by simp)), cells5 (q.heap (G12.out.heap B9.out.1 (by simp)) (by simp))⟩)
    have PUB : Hid (Calls Tryz.prog 7 #[.pointer (some ⟨b, 0, none⟩)] W12.drew fun e w' => e = .returned (.agg #[.string O, .string R, .int .i64 0]) ∧ W12.grownBy w' none) := Lib.hid ((hpub.out _ b (K9.out.grown (grownBy_drew G12.out))).mono (by rintro e w' ⟨rfl, q⟩; exact ⟨rfl, grownBy_trans (grownBy_drew (World.grownBy.refl W12 none)) q⟩))
    have MSG : Hid (∀ w0 : World, W12.grownBy w0 none → Calls Tryz.prog 9 #[.string l, .agg #[.int .u64 ver, .string O, .string R, .int .i64 0, .string ⟨#[0, 0, 0, 0, 0, 0, 0, 0, 0, 0, 0, 0, 0, 0, 0, 0]⟩]] w0 fun e w' => e = .returned (.string M) ∧ W12.grownBy w' none) := Lib.hid (fun w0 q => (HMSG2.out w0 (HR.out.grown (grownBy_trans G9.out (grownBy_trans G12.out q)))).mono (by rintro e w' ⟨rfl, r⟩; exact ⟨rfl, grownBy_trans q r⟩))
    have VER : Hid (∀ w0 : World, W12.grownBy w0 none → Calls Tryz.prog 12 #[.agg #[.string O, .string R, .int .i64 0], .string M, .agg #[.int .i64 0, .slice ca 35 cc, .slice pa 0 pc]] w0 fun e w' => e = .returned (.bool true) ∧ W12.grownBy w' none) := Lib.hid (fun w0 q => (HVER.out ca pa cc pc w0 (SC9.out.1.grown (grownBy_trans G12.out q)) (SC9.out.2.grown (grownBy_trans G12.out q)) (HR.out.grown (grownBy_trans G9.out (grownBy_trans G12.out q)))).mono (by rintro e w' ⟨rfl, r⟩; exact ⟨rfl, grownBy_trans q r⟩))
    have hD : W12.grownBy W12.drew none := grownBy_drew (World.grownBy.refl W12 none)
    have HD := Lib.hid hD
    have hll : (l.toList == l.toList) = true := by simp
    have hOO : (O.toList == O.toList) = true := by simp
    have hRR : (R.toList == R.toList) = true := by simp
    have hvv : ((ver : Int) == (ver : Int)) = true := by simp
    clear g12 hW12 x0 x1 x2 x3 x4 hD HSP2 hpub HMSG2 HVER K9 SC9 B9 B11 r1 r2 r3 q1
    go_wp2_with fail
    rw [HW12.out]
    try (generalize (Value.tuple #[.agg #[.string l, .int .u64 ver, .string O, .string R, .int .i64 0, .string ⟨#[0, 0, 0, 0, 0, 0, 0, 0, 0, 0, 0, 0, 0, 0, 0, 0]⟩, .int .i64 0, .slice ca0 35 cc0, .slice pa0 0 pc0], .int .i64 0]) = T0)
    try (generalize (Value.agg #[.string l, .int .u64 ver, .string O, .string R, .int .i64 0, .string ⟨#[0, 0, 0, 0, 0, 0, 0, 0, 0, 0, 0, 0, 0, 0, 0, 0]⟩, .int .i64 0, .slice ca0 35 cc0, .slice pa0 0 pc0]) = T1)
    try (generalize (Value.tuple #[.agg #[.string l, .int .u64 ver, .string O, .string R, .int .i64 0, .string ⟨#[0, 0, 0, 0, 0, 0, 0, 0, 0, 0, 0, 0, 0, 0, 0, 0]⟩, .int .i64 0, .slice ca 35 cc, .slice pa 0 pc], .int .i64 0]) = T2)
    try (generalize (Value.agg #[.string l, .int .u64 ver, .string O, .string R, .int .i64 0, .string ⟨#[0, 0, 0, 0, 0, 0, 0, 0, 0, 0, 0, 0, 0, 0, 0, 0]⟩, .int .i64 0, .slice ca 35 cc, .slice pa 0 pc]) = T3)
    try (generalize (Value.tuple #[.agg #[.string ⟨#[]⟩, .int .u64 0, .string ⟨#[]⟩, .string ⟨#[]⟩, .int .i64 0, .string ⟨#[]⟩, .int .i64 0, .slice none 0 0, .slice none 0 0], .int .i64 3]) = T4)
    try (generalize (Value.tuple #[.agg #[.string ⟨#[]⟩, .int .u64 0, .string ⟨#[]⟩, .string ⟨#[]⟩, .int .i64 0, .string ⟨#[]⟩, .int .i64 0, .slice none 0 0, .slice none 0 0], .int .i64 2]) = T5)
    try (generalize (Value.tuple #[.agg #[.string ⟨#[]⟩, .int .u64 0, .string ⟨#[]⟩, .string ⟨#[]⟩, .int .i64 0, .string ⟨#[]⟩, .int .i64 0, .slice none 0 0, .slice none 0 0], .int .i64 11]) = T6)
    try (generalize (Value.agg #[.string ⟨#[]⟩, .int .u64 0, .string ⟨#[]⟩, .string ⟨#[]⟩, .int .i64 0, .string ⟨#[]⟩, .int .i64 0, .slice none 0 0, .slice none 0 0]) = T7)
    try (generalize (Value.agg #[.int .u64 ver, .string O, .string R, .int .i64 0, .string ⟨#[0, 0, 0, 0, 0, 0, 0, 0, 0, 0, 0, 0, 0, 0, 0, 0]⟩]) = T8)
    try (generalize (Value.agg #[.string O, .string R, .int .i64 0]) = T9)
    try (generalize (Value.tuple #[.string S, .int .i64 0]) = T10)
    try (generalize (Value.tuple #[.pointer (some ⟨b, 0, none⟩), .int .i64 0]) = T11)
    try (generalize (Value.string (S ++ ⟨#[120]⟩)) = T12)
    try (generalize (Value.string (S.extract 0 K)) = T13)
    as_aux_lemma =>
      go_region_held3 (fun w0 => (w0.cell? ⟨VB, 0, none⟩ = some (.string l) ∧ w0.cell? ⟨VB, 1, none⟩ = some (.int .u64 ver) ∧ w0.cell? ⟨VB, 2, none⟩ = some (.string O) ∧ w0.cell? ⟨VB, 3, none⟩ = some (.string R) ∧ w0.cell? ⟨VB, 4, none⟩ = some (.int .i64 0) ∧ w0.cell? ⟨VB, 5, none⟩ = some (.string ⟨#[0, 0, 0, 0, 0, 0, 0, 0, 0, 0, 0, 0, 0, 0, 0, 0]⟩) ∧ w0.cell? ⟨VB, 6, none⟩ = some (.int .i64 0) ∧ w0.cell? ⟨VB, 7, none⟩ = some (.slice ca 35 cc) ∧ w0.cell? ⟨VB, 8, none⟩ = some (.slice pa 0 pc)) ∧ w0.cell? ⟨XB, 0, none⟩ = some (.int .u64 ver) ∧ w0.cell? ⟨XB, 1, none⟩ = some (.string O) ∧ w0.cell? ⟨XB, 2, none⟩ = some (.string R) ∧ w0.cell? ⟨XB, 3, none⟩ = some (.int .i64 0) ∧ w0.cell? ⟨XB, 4, none⟩ = some (.string ⟨#[0, 0, 0, 0, 0, 0, 0, 0, 0, 0, 0, 0, 0, 0, 0, 0]⟩)) (first | with_reducible exact HPK.out _ ckc | with_reducible exact HPK.out _ ckb | with_reducible exact HPK.out _ cka | with_reducible exact HPK.out _ HD.out)
        (first
        | (go_at_call 7; (with_reducible refine PUB.out.mono ?_); rintro e wa ⟨rfl, cka⟩)
        | (go_at_call 9; (with_reducible refine (MSG.out _ cka).mono ?_); rintro e wb ⟨rfl, ckb⟩)
        | (go_at_call 12; (with_reducible refine (VER.out _ ckb).mono ?_); rintro e wc ⟨rfl, ckc⟩))
      have GF := Lib.hid (grownBy_trans G9.out (grownBy_trans G12.out ckc))
      clear cka ckb ckc
      go_wp2_with fail
      go_ret
      exact ⟨rfl, GF.out⟩
end Go.Proofs.YtemndmhdlgfajaaGreatDoor
