/- The walk of the law SignerOpens. -/
import Derived.Test.YtbakhdbnfmoceaaGreatDoorSigAll
namespace Go.Proofs.YtbakhdbnfmoceaaGreatDoor
open Go.RowKit
attribute [local irreducible] shaL

def seedA : ByteArray := ⟨#[97]⟩
theorem pub_nil_eq : pubV ⟨#[]⟩ ⟨#[]⟩ 0 = .agg #[.string ⟨#[]⟩, .string ⟨#[]⟩, .int .i64 0] := rfl
theorem two_bytes (R : ByteArray) (h : R.size = 2) : ∃ x y, R = ⟨#[x, y]⟩ := by
  obtain ⟨⟨l⟩⟩ := R
  have hl : l.length = 2 := h
  match l, hl with
  | [x, y], _ => exact ⟨x, y, rfl⟩
theorem val_two (x y : UInt8) : val [x, y] = 256 * x.toNat + y.toNat := by
  simp [val]
  try omega
theorem sopen_one (n0 : Nat) (w : World) (b : Nat) (R seed : ByteArray) (h : Nat) (hh : h ≤ 6) (hss : seed.size ≤ 1000000000000) (hR : R.size ≤ 5) (hD : KDisk n0 [] w b (oneD R)) (hn0 : n0 ≤ w.heap.size) (hr : ShaReady w) :
    Calls Tryz.prog 7 #[.pointer (some ⟨b, 0, none⟩), .int .i64 0, .int .i64 8, .string seed, .int .i64 h] w fun e w' => w.grownBy w' none ∧
      ((R.size ≠ 2 ∧ e = .returned (.tuple #[.pointer none, .int .i64 4])) ∨ (R.size = 2 ∧ ∃ sg kb lg g, e = .returned (.tuple #[.pointer (some ⟨sg, 0, none⟩), .int .i64 0]) ∧ SigMem n0 [] w' sg kb lg g b seed h (oneB R) (oneD R) (val R.data.toList))) := by
  have hb := bookOf_one R (by omega)
  have h0 := sopen_any n0 [] 8 w b 0 8 4 (oneD R) seed h hh hss hD (by simp) hn0 rfl (by decide) (by decide) (by decide) (by decide) rfl (by show 0 ≤ _; decide) hr
  rw [hb] at h0
  refine h0.mono ?_
  have hN : nextN (oneB R).recs = if R.size = 2 then val R.data.toList else 0 := rfl
  have hE : nextE (oneB R).recs = if R.size = 2 then 0 else 4 := rfl
  by_cases hz : R.size = 2
  · rw [if_pos hz] at hN hE
    rw [hN, hE]
    rintro e w' ⟨k, ⟨h1, _⟩ | ⟨_, h2⟩⟩
    · exact absurd rfl h1
    · exact ⟨k, .inr ⟨hz, h2⟩⟩
  · rw [if_neg hz] at hN hE
    rw [hN, hE]
    rintro e w' ⟨k, ⟨_, h1⟩ | ⟨h2, _⟩⟩
    · exact ⟨k, .inl ⟨hz, h1⟩⟩
    · exact absurd h2 (by decide)
set_option maxRecDepth 100000 in
set_option maxHeartbeats 3200000 in
theorem so_high (record : ByteArray) (height : Int) (w : World) (hr : ShaReady w) (hrz : record.size ≤ maxLen) (hh : -9223372036854775808 ≤ height ∧ height ≤ 9223372036854775807) (h1 : 6 < height) :
    Calls Tryz.prog 4 #[.string record, .int .i64 height] w fun e w' => e = .returned (.bool true) ∧ Below w.heap.size w w' := by
  have HSP := Lib.hid (sig_speaks w hr)
  have HR := Lib.hid hr
  have HSX := Lib.hid hr.lt
  have q1 : ¬ height ≤ 6 := by omega
  have q2 : 1 < height := by omega
  have q3 : ¬ height < 0 := by omega
  have hb : height < 0 ∨ 6 < height := .inr h1
  have h5 : (record.extract 0 (min (record.size : Int) 5).toNat).size ≤ 5 := by rw [ByteArray.size_extract]; omega
  have HNEW : Hid (∀ w1, w.grownBy w1 none → Calls Tryz.prog 6 #[.int .i64 8] w1 fun e w' => ∃ b, e = .returned (.tuple #[.pointer (some ⟨b, 0, none⟩), .int .i64 0]) ∧ KDisk w.heap.size [] w' b (newD 8) ∧ w1.grownBy w' none) :=
    fun w1 g => new_k (n0 := w.heap.size) (X := []) 8 (by decide) (by decide) w1 (by simp) g.size
  clear hr
  go_enter Tryz.func4, Tryz.ntmps4
  go_wp2_with fail
  refine HSP.out.mono ?_
  rintro e w1 ⟨rfl, g1⟩
  go_wp2_with fail
  generalize record.extract 0 (min (record.size : Int) 5).toNat = R at h5 ⊢
  refine (HNEW.out w1 g1).mono ?_
  rintro e w2 ⟨b, rfl, hD, g2⟩
  have HG2 := Lib.hid (grownBy_trans g1 g2)
  have HOB := Lib.hid (open_new w.heap.size [] 8 w2 b 0 8 4 hD (by simp) HG2.out.size (by decide) (by decide) (by decide) (by decide))
  clear g1 g2 HNEW HSP hD
  go_wp2_with fail
  refine HOB.out.mono ?_
  rintro e w3 ⟨g, rfl, hB, g3⟩
  have HG3 := Lib.hid (grownBy_trans HG2.out g3)
  have HPUT := Lib.hid (bput_any w.heap.size 8 [] w3 g b (newB 0 4) (newD 8) hB (by simp) HG3.out.size (newB_ok 8 0 4 (by decide) (by decide) (by decide)) rfl rfl (by decide) (by decide) (by decide) R (by unfold maxLen; omega) (HR.out.grown HG3.out) (fun h => by have := HSX.out.1; omega) (fun h => by have := HSX.out.2; omega))
  rw [put_one R (by omega)] at HPUT
  clear hB g3 HOB HG2
  go_wp2_with fail
  refine HPUT.out.mono ?_
  rintro e w4 ⟨rfl, ⟨rv, hB4⟩, t4⟩
  have HG4 := Lib.hid (grownBy_below (t4.bel (below_grownBy HG3.out) HG3.out.size))
  have hD4 : KDisk w.heap.size [] w4 b (oneD R) := hB4.disk.more (World.grownBy.refl _ _) (fun i hi => by cases hi)
  have HD4 := Lib.hid hD4
  clear hB4 hD4 t4 HPUT HG3
  go_wp2_with fail
  refine (sopen_height _ _ _ _ height hb w4).mono ?_
  rintro e w5 ⟨rfl, g5⟩
  have HG5 := Lib.hid (grownBy_trans HG4.out g5)
  have HD5 := Lib.hid (HD4.out.grown g5)
  clear g5 HD4 HG4
  go_wp2_with fail
  refine (sopen_bad _ b _ 0 7 seedA 0 (by decide) (by decide) w5 HD5.out (by show 8 ≤ 1024; decide) (by decide) (.inl (by decide)) (HR.out.grown HG5.out)).mono ?_
  rintro e w6 ⟨rfl, g6⟩
  have HG6 := Lib.hid (grownBy_trans HG5.out g6)
  go_wp2_with fail
  refine (sign_nil _ w6).mono ?_
  rintro e w7 ⟨rfl, g7⟩
  have HG7 := Lib.hid (grownBy_trans HG6.out g7)
  unfold sigZ sigV
  go_wp2_with fail
  have HG8 := Lib.hid (grownBy_alloc' HG7.out (.cells #[.int .i64 0, .slice none 0 0, .slice none 0 0] 40))
  have HK8 := Lib.hid (grownBy_alloc' (grownBy_trans g6 g7) (.cells #[.int .i64 0, .slice none 0 0, .slice none 0 0] 40))
  generalize w7.alloc (.cells #[.int .i64 0, .slice none 0 0, .slice none 0 0] 40) = w8 at HG8 HK8 ⊢
  refine (snext_nil w8).mono ?_
  rintro e w8' ⟨rfl, rfl⟩
  go_wp2_with fail
  refine (spublic_nil w8).mono ?_
  rintro e w9 ⟨rfl, g9⟩
  have HG9 := Lib.hid (grownBy_trans HG8.out g9)
  rw [pub_nil_eq]
  go_wp2_with fail
  go_ret
  exact ⟨rfl, below_grownBy HG9.out⟩
set_option maxRecDepth 100000 in
set_option maxHeartbeats 3200000 in
theorem so_low (record : ByteArray) (height : Int) (w : World) (hr : ShaReady w) (hrz : record.size ≤ maxLen) (hh : -9223372036854775808 ≤ height ∧ height ≤ 9223372036854775807) (h1 : height < 0) :
    Calls Tryz.prog 4 #[.string record, .int .i64 height] w fun e w' => e = .returned (.bool true) ∧ Below w.heap.size w w' := by
  have HSP := Lib.hid (sig_speaks w hr)
  have HR := Lib.hid hr
  have HSX := Lib.hid hr.lt
  have q1 : ¬ 1 < height := by omega
  have hb : height < 0 ∨ 6 < height := .inl h1
  have h5 : (record.extract 0 (min (record.size : Int) 5).toNat).size ≤ 5 := by rw [ByteArray.size_extract]; omega
  have HNEW : Hid (∀ w1, w.grownBy w1 none → Calls Tryz.prog 6 #[.int .i64 8] w1 fun e w' => ∃ b, e = .returned (.tuple #[.pointer (some ⟨b, 0, none⟩), .int .i64 0]) ∧ KDisk w.heap.size [] w' b (newD 8) ∧ w1.grownBy w' none) :=
    fun w1 g => new_k (n0 := w.heap.size) (X := []) 8 (by decide) (by decide) w1 (by simp) g.size
  clear hr
  go_enter Tryz.func4, Tryz.ntmps4
  go_wp2_with fail
  refine HSP.out.mono ?_
  rintro e w1 ⟨rfl, g1⟩
  go_wp2_with fail
  generalize record.extract 0 (min (record.size : Int) 5).toNat = R at h5 ⊢
  refine (HNEW.out w1 g1).mono ?_
  rintro e w2 ⟨b, rfl, hD, g2⟩
  have HG2 := Lib.hid (grownBy_trans g1 g2)
  have HOB := Lib.hid (open_new w.heap.size [] 8 w2 b 0 8 4 hD (by simp) HG2.out.size (by decide) (by decide) (by decide) (by decide))
  clear g1 g2 HNEW HSP hD
  go_wp2_with fail
  refine HOB.out.mono ?_
  rintro e w3 ⟨g, rfl, hB, g3⟩
  have HG3 := Lib.hid (grownBy_trans HG2.out g3)
  have HPUT := Lib.hid (bput_any w.heap.size 8 [] w3 g b (newB 0 4) (newD 8) hB (by simp) HG3.out.size (newB_ok 8 0 4 (by decide) (by decide) (by decide)) rfl rfl (by decide) (by decide) (by decide) R (by unfold maxLen; omega) (HR.out.grown HG3.out) (fun h => by have := HSX.out.1; omega) (fun h => by have := HSX.out.2; omega))
  rw [put_one R (by omega)] at HPUT
  clear hB g3 HOB HG2
  go_wp2_with fail
  refine HPUT.out.mono ?_
  rintro e w4 ⟨rfl, ⟨rv, hB4⟩, t4⟩
  have HG4 := Lib.hid (grownBy_below (t4.bel (below_grownBy HG3.out) HG3.out.size))
  have hD4 : KDisk w.heap.size [] w4 b (oneD R) := hB4.disk.more (World.grownBy.refl _ _) (fun i hi => by cases hi)
  have HD4 := Lib.hid hD4
  clear hB4 hD4 t4 HPUT HG3
  go_wp2_with fail
  refine (sopen_height _ _ _ _ height hb w4).mono ?_
  rintro e w5 ⟨rfl, g5⟩
  have HG5 := Lib.hid (grownBy_trans HG4.out g5)
  have HD5 := Lib.hid (HD4.out.grown g5)
  clear g5 HD4 HG4
  go_wp2_with fail
  refine (sopen_bad _ b _ 0 7 seedA 0 (by decide) (by decide) w5 HD5.out (by show 8 ≤ 1024; decide) (by decide) (.inl (by decide)) (HR.out.grown HG5.out)).mono ?_
  rintro e w6 ⟨rfl, g6⟩
  have HG6 := Lib.hid (grownBy_trans HG5.out g6)
  go_wp2_with fail
  refine (sign_nil _ w6).mono ?_
  rintro e w7 ⟨rfl, g7⟩
  have HG7 := Lib.hid (grownBy_trans HG6.out g7)
  unfold sigZ sigV
  go_wp2_with fail
  have HG8 := Lib.hid (grownBy_alloc' HG7.out (.cells #[.int .i64 0, .slice none 0 0, .slice none 0 0] 40))
  have HK8 := Lib.hid (grownBy_alloc' (grownBy_trans g6 g7) (.cells #[.int .i64 0, .slice none 0 0, .slice none 0 0] 40))
  generalize w7.alloc (.cells #[.int .i64 0, .slice none 0 0, .slice none 0 0] 40) = w8 at HG8 HK8 ⊢
  refine (snext_nil w8).mono ?_
  rintro e w8' ⟨rfl, rfl⟩
  go_wp2_with fail
  refine (spublic_nil w8).mono ?_
  rintro e w9 ⟨rfl, g9⟩
  have HG9 := Lib.hid (grownBy_trans HG8.out g9)
  rw [pub_nil_eq]
  go_wp2_with fail
  go_ret
  exact ⟨rfl, below_grownBy HG9.out⟩
set_option maxRecDepth 100000 in
set_option maxHeartbeats 3200000 in
theorem so_mid (record : ByteArray) (height : Int) (w : World) (hr : ShaReady w) (hrz : record.size ≤ maxLen) (hh : -9223372036854775808 ≤ height ∧ height ≤ 9223372036854775807) (h1 : 1 < height ∧ height ≤ 6) :
    Calls Tryz.prog 4 #[.string record, .int .i64 height] w fun e w' => e = .returned (.bool true) ∧ Below w.heap.size w w' := by
  have HSP := Lib.hid (sig_speaks w hr)
  have HR := Lib.hid hr
  have HSX := Lib.hid hr.lt
  obtain ⟨q1, q2⟩ := h1
  have h5 : (record.extract 0 (min (record.size : Int) 5).toNat).size ≤ 5 := by rw [ByteArray.size_extract]; omega
  have HNEW : Hid (∀ w1, w.grownBy w1 none → Calls Tryz.prog 6 #[.int .i64 8] w1 fun e w' => ∃ b, e = .returned (.tuple #[.pointer (some ⟨b, 0, none⟩), .int .i64 0]) ∧ KDisk w.heap.size [] w' b (newD 8) ∧ w1.grownBy w' none) :=
    fun w1 g => new_k (n0 := w.heap.size) (X := []) 8 (by decide) (by decide) w1 (by simp) g.size
  clear hr
  go_enter Tryz.func4, Tryz.ntmps4
  go_wp2_with fail
  refine HSP.out.mono ?_
  rintro e w1 ⟨rfl, g1⟩
  go_wp2_with fail
  generalize record.extract 0 (min (record.size : Int) 5).toNat = R at h5 ⊢
  refine (HNEW.out w1 g1).mono ?_
  rintro e w2 ⟨b, rfl, hD, g2⟩
  have HG2 := Lib.hid (grownBy_trans g1 g2)
  have HOB := Lib.hid (open_new w.heap.size [] 8 w2 b 0 8 4 hD (by simp) HG2.out.size (by decide) (by decide) (by decide) (by decide))
  clear g1 g2 HNEW HSP hD
  go_wp2_with fail
  refine HOB.out.mono ?_
  rintro e w3 ⟨g, rfl, hB, g3⟩
  have HG3 := Lib.hid (grownBy_trans HG2.out g3)
  have HPUT := Lib.hid (bput_any w.heap.size 8 [] w3 g b (newB 0 4) (newD 8) hB (by simp) HG3.out.size (newB_ok 8 0 4 (by decide) (by decide) (by decide)) rfl rfl (by decide) (by decide) (by decide) R (by unfold maxLen; omega) (HR.out.grown HG3.out) (fun h => by have := HSX.out.1; omega) (fun h => by have := HSX.out.2; omega))
  rw [put_one R (by omega)] at HPUT
  clear hB g3 HOB HG2
  go_wp2_with fail
  refine HPUT.out.mono ?_
  rintro e w4 ⟨rfl, ⟨rv, hB4⟩, t4⟩
  have HG4 := Lib.hid (grownBy_below (t4.bel (below_grownBy HG3.out) HG3.out.size))
  have hD4 : KDisk w.heap.size [] w4 b (oneD R) := hB4.disk.more (World.grownBy.refl _ _) (fun i hi => by cases hi)
  have HD4 := Lib.hid hD4
  clear hB4 hD4 t4 HPUT HG3
  go_wp2_with fail
  by_cases hz : R.size = 2
  · obtain ⟨x, y, rfl⟩ := two_bytes R hz
    refine (sopen_one w.heap.size w4 b ⟨#[x, y]⟩ seedA 1 (by decide) (by decide) h5 HD4.out HG4.out.size (HR.out.grown HG4.out)).mono ?_
    rintro e w5 ⟨g5, ⟨hne, _⟩ | ⟨_, sg, kb, lg, g', rfl, hM5⟩⟩
    · exact absurd hz hne
    have HG5 := Lib.hid (grownBy_trans HG4.out g5)
    have HD5 := Lib.hid (HD4.out.grown g5)
    have HBK := Lib.hid hM5.blk
    have HV := Lib.hid (val_two x y)
    rw [show (⟨#[x, y]⟩ : ByteArray).data.toList = [x, y] from rfl, HV.out] at HBK
    clear g5 HD4 HG4 hM5 hz
    go_wp2_with fail
    refine (sopen_bad _ b _ 0 7 seedA 0 (by decide) (by decide) w5 HD5.out (by show 8 ≤ 1024; decide) (by decide) (.inl (by decide)) (HR.out.grown HG5.out)).mono ?_
    rintro e w6 ⟨rfl, g6⟩
    have HG6 := Lib.hid (grownBy_trans HG5.out g6)
    go_wp2_with fail
    refine (sign_nil _ w6).mono ?_
    rintro e w7 ⟨rfl, g7⟩
    have HG7 := Lib.hid (grownBy_trans HG6.out g7)
    unfold sigZ sigV
    go_wp2_with fail
    have HG8 := Lib.hid (grownBy_alloc' HG7.out (.cells #[.int .i64 0, .slice none 0 0, .slice none 0 0] 40))
    have HK8 := Lib.hid (grownBy_alloc' (grownBy_trans g6 g7) (.cells #[.int .i64 0, .slice none 0 0, .slice none 0 0] 40))
    generalize w7.alloc (.cells #[.int .i64 0, .slice none 0 0, .slice none 0 0] 40) = w8 at HG8 HK8 ⊢
    refine (snext_nil w8).mono ?_
    rintro e w8' ⟨rfl, rfl⟩
    go_wp2_with fail
    refine (spublic_nil w8).mono ?_
    rintro e w9 ⟨rfl, g9⟩
    have HG9 := Lib.hid (grownBy_trans HG8.out g9)
    rw [pub_nil_eq]
    go_wp2_with fail
    have hnx : ∀ w', w9.grownBy w' none → Calls Tryz.prog 10 #[.pointer (some ⟨sg, 0, none⟩)] w' fun e w'' => e = .returned (.int .i64 ((256 * x.toNat + y.toNat : Nat) : Int)) ∧ w' = w'' := fun w' k => snext_any w' sg _ _ _ ((grownBy_trans (grownBy_trans HK8.out g9) k).heap HBK.out (by simp))
    have HNX := Lib.hid hnx
    clear hnx
    have hx := x.toNat_lt
    have hy := y.toNat_lt
    have HXY := Lib.hid (And.intro hx hy)
    obtain ⟨MM, hMM⟩ : ∃ MM : Int, 256 * (x.toNat : Int) = MM := ⟨_, rfl⟩
    obtain ⟨VV, hVV⟩ : ∃ VV : Int, MM + (y.toNat : Int) = VV := ⟨_, rfl⟩
    have hcv : ((256 * x.toNat + y.toNat : Nat) : Int) = VV := by omega
    rw [hcv] at HNX
    have u1 : IntKind.i64.wrap (256 * (x.toNat : Int)) = MM := (IntWalk.i64_in _ (by omega)).trans hMM
    have u2 : IntKind.i64.wrap (MM + (y.toNat : Int)) = VV := (IntWalk.i64_in _ (by omega)).trans hVV
    have u3 : IntKind.i64.wrap (x.toNat : Int) = (x.toNat : Int) := IntWalk.i64_in _ (by omega)
    have u4 : IntKind.i64.wrap (y.toNat : Int) = (y.toNat : Int) := IntWalk.i64_in _ (by omega)
    have e0 : (⟨#[x, y]⟩ : ByteArray)[0] = x := rfl
    have e1 : (⟨#[x, y]⟩ : ByteArray)[1] = y := rfl
    clear hMM hVV hcv hx hy
    have HG9' := Lib.hid (And.intro HG9.out HR.out)
    clear HBK HK8 HG8 HG7 HG6 HG5 HD5 g6 g7 g9 HR HSX HV
    go_region_held3 (fun _ => True) (exact trivial)
      ((go_at_call 10; (with_reducible refine (HNX.out _ (grownBy_drew (World.grownBy.refl _ _))).mono ?_); rintro e w3 ⟨rfl, rfl⟩))
    go_wp2_with fail
    all_goals (go_ret; exact ⟨rfl, below_grownBy (grownBy_drew HG9.out)⟩)
  · have hz1 : ¬ (R.size : Int) = 2 := by omega
    have hz2 : ((R.size : Int) == 2) = false := by simpa using hz1
    refine (sopen_one w.heap.size w4 b R seedA 1 (by decide) (by decide) h5 HD4.out HG4.out.size (HR.out.grown HG4.out)).mono ?_
    rintro e w5 ⟨g5, ⟨_, rfl⟩ | ⟨he, _⟩⟩
    case inr => exact absurd he hz
    have HG5 := Lib.hid (grownBy_trans HG4.out g5)
    have HD5 := Lib.hid (HD4.out.grown g5)
    clear g5 HD4 HG4 hz
    go_wp2_with fail
    refine (sopen_bad _ b _ 0 7 seedA 0 (by decide) (by decide) w5 HD5.out (by show 8 ≤ 1024; decide) (by decide) (.inl (by decide)) (HR.out.grown HG5.out)).mono ?_
    rintro e w6 ⟨rfl, g6⟩
    have HG6 := Lib.hid (grownBy_trans HG5.out g6)
    go_wp2_with fail
    refine (sign_nil _ w6).mono ?_
    rintro e w7 ⟨rfl, g7⟩
    have HG7 := Lib.hid (grownBy_trans HG6.out g7)
    unfold sigZ sigV
    go_wp2_with fail
    have HG8 := Lib.hid (grownBy_alloc' HG7.out (.cells #[.int .i64 0, .slice none 0 0, .slice none 0 0] 40))
    have HK8 := Lib.hid (grownBy_alloc' (grownBy_trans g6 g7) (.cells #[.int .i64 0, .slice none 0 0, .slice none 0 0] 40))
    generalize w7.alloc (.cells #[.int .i64 0, .slice none 0 0, .slice none 0 0] 40) = w8 at HG8 HK8 ⊢
    refine (snext_nil w8).mono ?_
    rintro e w8' ⟨rfl, rfl⟩
    go_wp2_with fail
    refine (spublic_nil w8).mono ?_
    rintro e w9 ⟨rfl, g9⟩
    have HG9 := Lib.hid (grownBy_trans HG8.out g9)
    rw [pub_nil_eq]
    go_wp2_with fail
    go_ret
    exact ⟨rfl, below_grownBy HG9.out⟩
set_option maxRecDepth 100000 in
set_option maxHeartbeats 3200000 in
theorem so_zero (record : ByteArray) (height : Int) (w : World) (hr : ShaReady w) (hrz : record.size ≤ maxLen) (hh : -9223372036854775808 ≤ height ∧ height ≤ 9223372036854775807) (h1 : height = 0) :
    Calls Tryz.prog 4 #[.string record, .int .i64 height] w fun e w' => e = .returned (.bool true) ∧ Below w.heap.size w w' := by
  have HSP := Lib.hid (sig_speaks w hr)
  have HR := Lib.hid hr
  have HSX := Lib.hid hr.lt
  subst h1
  have h5 : (record.extract 0 (min (record.size : Int) 5).toNat).size ≤ 5 := by rw [ByteArray.size_extract]; omega
  have HNEW : Hid (∀ w1, w.grownBy w1 none → Calls Tryz.prog 6 #[.int .i64 8] w1 fun e w' => ∃ b, e = .returned (.tuple #[.pointer (some ⟨b, 0, none⟩), .int .i64 0]) ∧ KDisk w.heap.size [] w' b (newD 8) ∧ w1.grownBy w' none) :=
    fun w1 g => new_k (n0 := w.heap.size) (X := []) 8 (by decide) (by decide) w1 (by simp) g.size
  clear hr
  go_enter Tryz.func4, Tryz.ntmps4
  go_wp2_with fail
  refine HSP.out.mono ?_
  rintro e w1 ⟨rfl, g1⟩
  go_wp2_with fail
  generalize record.extract 0 (min (record.size : Int) 5).toNat = R at h5 ⊢
  refine (HNEW.out w1 g1).mono ?_
  rintro e w2 ⟨b, rfl, hD, g2⟩
  have HG2 := Lib.hid (grownBy_trans g1 g2)
  have HOB := Lib.hid (open_new w.heap.size [] 8 w2 b 0 8 4 hD (by simp) HG2.out.size (by decide) (by decide) (by decide) (by decide))
  clear g1 g2 HNEW HSP hD
  go_wp2_with fail
  refine HOB.out.mono ?_
  rintro e w3 ⟨g, rfl, hB, g3⟩
  have HG3 := Lib.hid (grownBy_trans HG2.out g3)
  have HPUT := Lib.hid (bput_any w.heap.size 8 [] w3 g b (newB 0 4) (newD 8) hB (by simp) HG3.out.size (newB_ok 8 0 4 (by decide) (by decide) (by decide)) rfl rfl (by decide) (by decide) (by decide) R (by unfold maxLen; omega) (HR.out.grown HG3.out) (fun h => by have := HSX.out.1; omega) (fun h => by have := HSX.out.2; omega))
  rw [put_one R (by omega)] at HPUT
  clear hB g3 HOB HG2
  go_wp2_with fail
  refine HPUT.out.mono ?_
  rintro e w4 ⟨rfl, ⟨rv, hB4⟩, t4⟩
  have HG4 := Lib.hid (grownBy_below (t4.bel (below_grownBy HG3.out) HG3.out.size))
  have hD4 : KDisk w.heap.size [] w4 b (oneD R) := hB4.disk.more (World.grownBy.refl _ _) (fun i hi => by cases hi)
  have HD4 := Lib.hid hD4
  clear hB4 hD4 t4 HPUT HG3
  go_wp2_with fail
  by_cases hz : R.size = 2
  · obtain ⟨x, y, rfl⟩ := two_bytes R hz
    refine (sopen_one w.heap.size w4 b ⟨#[x, y]⟩ seedA 0 (by decide) (by decide) h5 HD4.out HG4.out.size (HR.out.grown HG4.out)).mono ?_
    rintro e w5 ⟨g5, ⟨hne, _⟩ | ⟨_, sg, kb, lg, g', rfl, hM5⟩⟩
    · exact absurd hz hne
    have HG5 := Lib.hid (grownBy_trans HG4.out g5)
    have HD5 := Lib.hid (HD4.out.grown g5)
    have HBK := Lib.hid hM5.blk
    have HV := Lib.hid (val_two x y)
    rw [show (⟨#[x, y]⟩ : ByteArray).data.toList = [x, y] from rfl, HV.out] at HBK
    clear g5 HD4 HG4 hM5 hz
    go_wp2_with fail
    refine (sopen_bad _ b _ 0 7 seedA 0 (by decide) (by decide) w5 HD5.out (by show 8 ≤ 1024; decide) (by decide) (.inl (by decide)) (HR.out.grown HG5.out)).mono ?_
    rintro e w6 ⟨rfl, g6⟩
    have HG6 := Lib.hid (grownBy_trans HG5.out g6)
    go_wp2_with fail
    refine (sign_nil _ w6).mono ?_
    rintro e w7 ⟨rfl, g7⟩
    have HG7 := Lib.hid (grownBy_trans HG6.out g7)
    unfold sigZ sigV
    go_wp2_with fail
    have HG8 := Lib.hid (grownBy_alloc' HG7.out (.cells #[.int .i64 0, .slice none 0 0, .slice none 0 0] 40))
    have HK8 := Lib.hid (grownBy_alloc' (grownBy_trans g6 g7) (.cells #[.int .i64 0, .slice none 0 0, .slice none 0 0] 40))
    generalize w7.alloc (.cells #[.int .i64 0, .slice none 0 0, .slice none 0 0] 40) = w8 at HG8 HK8 ⊢
    refine (snext_nil w8).mono ?_
    rintro e w8' ⟨rfl, rfl⟩
    go_wp2_with fail
    refine (spublic_nil w8).mono ?_
    rintro e w9 ⟨rfl, g9⟩
    have HG9 := Lib.hid (grownBy_trans HG8.out g9)
    rw [pub_nil_eq]
    go_wp2_with fail
    have hnx : ∀ w', w9.grownBy w' none → Calls Tryz.prog 10 #[.pointer (some ⟨sg, 0, none⟩)] w' fun e w'' => e = .returned (.int .i64 ((256 * x.toNat + y.toNat : Nat) : Int)) ∧ w' = w'' := fun w' k => snext_any w' sg _ _ _ ((grownBy_trans (grownBy_trans HK8.out g9) k).heap HBK.out (by simp))
    have HNX := Lib.hid hnx
    clear hnx
    have hx := x.toNat_lt
    have hy := y.toNat_lt
    have HXY := Lib.hid (And.intro hx hy)
    obtain ⟨MM, hMM⟩ : ∃ MM : Int, 256 * (x.toNat : Int) = MM := ⟨_, rfl⟩
    obtain ⟨VV, hVV⟩ : ∃ VV : Int, MM + (y.toNat : Int) = VV := ⟨_, rfl⟩
    have hcv : ((256 * x.toNat + y.toNat : Nat) : Int) = VV := by omega
    rw [hcv] at HNX
    have u1 : IntKind.i64.wrap (256 * (x.toNat : Int)) = MM := (IntWalk.i64_in _ (by omega)).trans hMM
    have u2 : IntKind.i64.wrap (MM + (y.toNat : Int)) = VV := (IntWalk.i64_in _ (by omega)).trans hVV
    have u3 : IntKind.i64.wrap (x.toNat : Int) = (x.toNat : Int) := IntWalk.i64_in _ (by omega)
    have u4 : IntKind.i64.wrap (y.toNat : Int) = (y.toNat : Int) := IntWalk.i64_in _ (by omega)
    have e0 : (⟨#[x, y]⟩ : ByteArray)[0] = x := rfl
    have e1 : (⟨#[x, y]⟩ : ByteArray)[1] = y := rfl
    clear hMM hVV hcv hx hy
    have HG9' := Lib.hid (And.intro HG9.out HR.out)
    clear HBK HK8 HG8 HG7 HG6 HG5 HD5 g6 g7 g9 HR HSX HV
    go_region_held3 (fun _ => True) (exact trivial)
      ((go_at_call 10; (with_reducible refine (HNX.out _ (grownBy_drew (World.grownBy.refl _ _))).mono ?_); rintro e w3 ⟨rfl, rfl⟩))
    go_wp2_with fail
    all_goals (go_ret; exact ⟨rfl, below_grownBy (grownBy_drew HG9.out)⟩)
  · have hz1 : ¬ (R.size : Int) = 2 := by omega
    have hz2 : ((R.size : Int) == 2) = false := by simpa using hz1
    refine (sopen_one w.heap.size w4 b R seedA 0 (by decide) (by decide) h5 HD4.out HG4.out.size (HR.out.grown HG4.out)).mono ?_
    rintro e w5 ⟨g5, ⟨_, rfl⟩ | ⟨he, _⟩⟩
    case inr => exact absurd he hz
    have HG5 := Lib.hid (grownBy_trans HG4.out g5)
    have HD5 := Lib.hid (HD4.out.grown g5)
    clear g5 HD4 HG4 hz
    go_wp2_with fail
    refine (sopen_bad _ b _ 0 7 seedA 0 (by decide) (by decide) w5 HD5.out (by show 8 ≤ 1024; decide) (by decide) (.inl (by decide)) (HR.out.grown HG5.out)).mono ?_
    rintro e w6 ⟨rfl, g6⟩
    have HG6 := Lib.hid (grownBy_trans HG5.out g6)
    go_wp2_with fail
    refine (sign_nil _ w6).mono ?_
    rintro e w7 ⟨rfl, g7⟩
    have HG7 := Lib.hid (grownBy_trans HG6.out g7)
    unfold sigZ sigV
    go_wp2_with fail
    have HG8 := Lib.hid (grownBy_alloc' HG7.out (.cells #[.int .i64 0, .slice none 0 0, .slice none 0 0] 40))
    have HK8 := Lib.hid (grownBy_alloc' (grownBy_trans g6 g7) (.cells #[.int .i64 0, .slice none 0 0, .slice none 0 0] 40))
    generalize w7.alloc (.cells #[.int .i64 0, .slice none 0 0, .slice none 0 0] 40) = w8 at HG8 HK8 ⊢
    refine (snext_nil w8).mono ?_
    rintro e w8' ⟨rfl, rfl⟩
    go_wp2_with fail
    refine (spublic_nil w8).mono ?_
    rintro e w9 ⟨rfl, g9⟩
    have HG9 := Lib.hid (grownBy_trans HG8.out g9)
    rw [pub_nil_eq]
    go_wp2_with fail
    go_ret
    exact ⟨rfl, below_grownBy HG9.out⟩
set_option maxRecDepth 100000 in
set_option maxHeartbeats 3200000 in
theorem so_one (record : ByteArray) (height : Int) (w : World) (hr : ShaReady w) (hrz : record.size ≤ maxLen) (hh : -9223372036854775808 ≤ height ∧ height ≤ 9223372036854775807) (h1 : height = 1) :
    Calls Tryz.prog 4 #[.string record, .int .i64 height] w fun e w' => e = .returned (.bool true) ∧ Below w.heap.size w w' := by
  have HSP := Lib.hid (sig_speaks w hr)
  have HR := Lib.hid hr
  have HSX := Lib.hid hr.lt
  subst h1
  have h5 : (record.extract 0 (min (record.size : Int) 5).toNat).size ≤ 5 := by rw [ByteArray.size_extract]; omega
  have HNEW : Hid (∀ w1, w.grownBy w1 none → Calls Tryz.prog 6 #[.int .i64 8] w1 fun e w' => ∃ b, e = .returned (.tuple #[.pointer (some ⟨b, 0, none⟩), .int .i64 0]) ∧ KDisk w.heap.size [] w' b (newD 8) ∧ w1.grownBy w' none) :=
    fun w1 g => new_k (n0 := w.heap.size) (X := []) 8 (by decide) (by decide) w1 (by simp) g.size
  clear hr
  go_enter Tryz.func4, Tryz.ntmps4
  go_wp2_with fail
  refine HSP.out.mono ?_
  rintro e w1 ⟨rfl, g1⟩
  go_wp2_with fail
  generalize record.extract 0 (min (record.size : Int) 5).toNat = R at h5 ⊢
  refine (HNEW.out w1 g1).mono ?_
  rintro e w2 ⟨b, rfl, hD, g2⟩
  have HG2 := Lib.hid (grownBy_trans g1 g2)
  have HOB := Lib.hid (open_new w.heap.size [] 8 w2 b 0 8 4 hD (by simp) HG2.out.size (by decide) (by decide) (by decide) (by decide))
  clear g1 g2 HNEW HSP hD
  go_wp2_with fail
  refine HOB.out.mono ?_
  rintro e w3 ⟨g, rfl, hB, g3⟩
  have HG3 := Lib.hid (grownBy_trans HG2.out g3)
  have HPUT := Lib.hid (bput_any w.heap.size 8 [] w3 g b (newB 0 4) (newD 8) hB (by simp) HG3.out.size (newB_ok 8 0 4 (by decide) (by decide) (by decide)) rfl rfl (by decide) (by decide) (by decide) R (by unfold maxLen; omega) (HR.out.grown HG3.out) (fun h => by have := HSX.out.1; omega) (fun h => by have := HSX.out.2; omega))
  rw [put_one R (by omega)] at HPUT
  clear hB g3 HOB HG2
  go_wp2_with fail
  refine HPUT.out.mono ?_
  rintro e w4 ⟨rfl, ⟨rv, hB4⟩, t4⟩
  have HG4 := Lib.hid (grownBy_below (t4.bel (below_grownBy HG3.out) HG3.out.size))
  have hD4 : KDisk w.heap.size [] w4 b (oneD R) := hB4.disk.more (World.grownBy.refl _ _) (fun i hi => by cases hi)
  have HD4 := Lib.hid hD4
  clear hB4 hD4 t4 HPUT HG3
  go_wp2_with fail
  by_cases hz : R.size = 2
  · obtain ⟨x, y, rfl⟩ := two_bytes R hz
    refine (sopen_one w.heap.size w4 b ⟨#[x, y]⟩ seedA 1 (by decide) (by decide) h5 HD4.out HG4.out.size (HR.out.grown HG4.out)).mono ?_
    rintro e w5 ⟨g5, ⟨hne, _⟩ | ⟨_, sg, kb, lg, g', rfl, hM5⟩⟩
    · exact absurd hz hne
    have HG5 := Lib.hid (grownBy_trans HG4.out g5)
    have HD5 := Lib.hid (HD4.out.grown g5)
    have HBK := Lib.hid hM5.blk
    have HV := Lib.hid (val_two x y)
    rw [show (⟨#[x, y]⟩ : ByteArray).data.toList = [x, y] from rfl, HV.out] at HBK
    clear g5 HD4 HG4 hM5 hz
    go_wp2_with fail
    refine (sopen_bad _ b _ 0 7 seedA 0 (by decide) (by decide) w5 HD5.out (by show 8 ≤ 1024; decide) (by decide) (.inl (by decide)) (HR.out.grown HG5.out)).mono ?_
    rintro e w6 ⟨rfl, g6⟩
    have HG6 := Lib.hid (grownBy_trans HG5.out g6)
    go_wp2_with fail
    refine (sign_nil _ w6).mono ?_
    rintro e w7 ⟨rfl, g7⟩
    have HG7 := Lib.hid (grownBy_trans HG6.out g7)
    unfold sigZ sigV
    go_wp2_with fail
    have HG8 := Lib.hid (grownBy_alloc' HG7.out (.cells #[.int .i64 0, .slice none 0 0, .slice none 0 0] 40))
    have HK8 := Lib.hid (grownBy_alloc' (grownBy_trans g6 g7) (.cells #[.int .i64 0, .slice none 0 0, .slice none 0 0] 40))
    generalize w7.alloc (.cells #[.int .i64 0, .slice none 0 0, .slice none 0 0] 40) = w8 at HG8 HK8 ⊢
    refine (snext_nil w8).mono ?_
    rintro e w8' ⟨rfl, rfl⟩
    go_wp2_with fail
    refine (spublic_nil w8).mono ?_
    rintro e w9 ⟨rfl, g9⟩
    have HG9 := Lib.hid (grownBy_trans HG8.out g9)
    rw [pub_nil_eq]
    go_wp2_with fail
    have hnx : ∀ w', w9.grownBy w' none → Calls Tryz.prog 10 #[.pointer (some ⟨sg, 0, none⟩)] w' fun e w'' => e = .returned (.int .i64 ((256 * x.toNat + y.toNat : Nat) : Int)) ∧ w' = w'' := fun w' k => snext_any w' sg _ _ _ ((grownBy_trans (grownBy_trans HK8.out g9) k).heap HBK.out (by simp))
    have HNX := Lib.hid hnx
    clear hnx
    have hx := x.toNat_lt
    have hy := y.toNat_lt
    have HXY := Lib.hid (And.intro hx hy)
    obtain ⟨MM, hMM⟩ : ∃ MM : Int, 256 * (x.toNat : Int) = MM := ⟨_, rfl⟩
    obtain ⟨VV, hVV⟩ : ∃ VV : Int, MM + (y.toNat : Int) = VV := ⟨_, rfl⟩
    have hcv : ((256 * x.toNat + y.toNat : Nat) : Int) = VV := by omega
    rw [hcv] at HNX
    have u1 : IntKind.i64.wrap (256 * (x.toNat : Int)) = MM := (IntWalk.i64_in _ (by omega)).trans hMM
    have u2 : IntKind.i64.wrap (MM + (y.toNat : Int)) = VV := (IntWalk.i64_in _ (by omega)).trans hVV
    have u3 : IntKind.i64.wrap (x.toNat : Int) = (x.toNat : Int) := IntWalk.i64_in _ (by omega)
    have u4 : IntKind.i64.wrap (y.toNat : Int) = (y.toNat : Int) := IntWalk.i64_in _ (by omega)
    have e0 : (⟨#[x, y]⟩ : ByteArray)[0] = x := rfl
    have e1 : (⟨#[x, y]⟩ : ByteArray)[1] = y := rfl
    clear hMM hVV hcv hx hy
    have HG9' := Lib.hid (And.intro HG9.out HR.out)
    clear HBK HK8 HG8 HG7 HG6 HG5 HD5 g6 g7 g9 HR HSX HV
    go_region_held3 (fun _ => True) (exact trivial)
      ((go_at_call 10; (with_reducible refine (HNX.out _ (grownBy_drew (World.grownBy.refl _ _))).mono ?_); rintro e w3 ⟨rfl, rfl⟩))
    go_wp2_with fail
    all_goals (go_ret; exact ⟨rfl, below_grownBy (grownBy_drew HG9.out)⟩)
  · have hz1 : ¬ (R.size : Int) = 2 := by omega
    have hz2 : ((R.size : Int) == 2) = false := by simpa using hz1
    refine (sopen_one w.heap.size w4 b R seedA 1 (by decide) (by decide) h5 HD4.out HG4.out.size (HR.out.grown HG4.out)).mono ?_
    rintro e w5 ⟨g5, ⟨_, rfl⟩ | ⟨he, _⟩⟩
    case inr => exact absurd he hz
    have HG5 := Lib.hid (grownBy_trans HG4.out g5)
    have HD5 := Lib.hid (HD4.out.grown g5)
    clear g5 HD4 HG4 hz
    go_wp2_with fail
    refine (sopen_bad _ b _ 0 7 seedA 0 (by decide) (by decide) w5 HD5.out (by show 8 ≤ 1024; decide) (by decide) (.inl (by decide)) (HR.out.grown HG5.out)).mono ?_
    rintro e w6 ⟨rfl, g6⟩
    have HG6 := Lib.hid (grownBy_trans HG5.out g6)
    go_wp2_with fail
    refine (sign_nil _ w6).mono ?_
    rintro e w7 ⟨rfl, g7⟩
    have HG7 := Lib.hid (grownBy_trans HG6.out g7)
    unfold sigZ sigV
    go_wp2_with fail
    have HG8 := Lib.hid (grownBy_alloc' HG7.out (.cells #[.int .i64 0, .slice none 0 0, .slice none 0 0] 40))
    have HK8 := Lib.hid (grownBy_alloc' (grownBy_trans g6 g7) (.cells #[.int .i64 0, .slice none 0 0, .slice none 0 0] 40))
    generalize w7.alloc (.cells #[.int .i64 0, .slice none 0 0, .slice none 0 0] 40) = w8 at HG8 HK8 ⊢
    refine (snext_nil w8).mono ?_
    rintro e w8' ⟨rfl, rfl⟩
    go_wp2_with fail
    refine (spublic_nil w8).mono ?_
    rintro e w9 ⟨rfl, g9⟩
    have HG9 := Lib.hid (grownBy_trans HG8.out g9)
    rw [pub_nil_eq]
    go_wp2_with fail
    go_ret
    exact ⟨rfl, below_grownBy HG9.out⟩
theorem signerOpens_walk (record : ByteArray) (height : Int) (w : World) (hr : ShaReady w) (hrz : record.size ≤ maxLen) (hh : -9223372036854775808 ≤ height ∧ height ≤ 9223372036854775807) :
    Calls Tryz.prog 4 #[.string record, .int .i64 height] w fun e w' => e = .returned (.bool true) ∧ Below w.heap.size w w' := by
  by_cases h1 : height < 0
  · exact so_low record height w hr hrz hh h1
  by_cases h2 : 6 < height
  · exact so_high record height w hr hrz hh h2
  by_cases h3 : height = 0
  · exact so_zero record height w hr hrz hh h3
  by_cases h4 : height = 1
  · exact so_one record height w hr hrz hh h4
  exact so_mid record height w hr hrz hh ⟨by omega, by omega⟩
end Go.Proofs.YtbakhdbnfmoceaaGreatDoor
