/- The walks of merkle.Root, Path, Climb. -/
import Derived.Test.YtmdogeampigfoaaDoorMerkA
namespace Go.Proofs.YtmdogeampigfoaaDoor
open Go.RowKit
attribute [local irreducible] shaL

theorem grown_row {a b c : World} {row : Option Nat} (h : a.grownBy b none) (k : b.grownBy c row) (hn : ∀ g, row = some g → a.heap.size ≤ g) : a.grownBy c none :=
  ⟨k.os.trans h.os, k.tape.trans h.tape, k.output.trans h.output, Nat.le_trans h.size k.size, fun i hi hne => (k.block i (Nat.lt_of_lt_of_le hi h.size) (by intro e; have := hn i e.symm; omega)).trans (h.block i hi hne)⟩
theorem StrsAt.beside {w w' : World} {a : Option Addr} {n cap : Nat} {L : List ByteArray} {row : Option Nat} (h : StrsAt w (.slice a n cap) L) (hg : w.grownBy w' row) (hne : ∀ g o, a = some ⟨g, o, none⟩ → row ≠ some g) : StrsAt w' (.slice a n cap) L := by
  obtain ⟨a', cap', he, hc⟩ := h
  cases he
  refine ⟨a, cap, rfl, fun i hi => ?_⟩
  obtain ⟨g, o, rfl, hcell⟩ := hc i hi
  exact ⟨g, o, rfl, hg.cell hcell (fun e => hne g o rfl e.symm)⟩
def lenOf : Value → Nat
  | .slice _ n _ => n
  | _ => 0
theorem treeB_pow (h : Nat) (hh : h ≤ 6) : treeB (2 ^ h) = true := by
  have : h = 0 ∨ h = 1 ∨ h = 2 ∨ h = 3 ∨ h = 4 ∨ h = 5 ∨ h = 6 := by omega
  rcases this with rfl | rfl | rfl | rfl | rfl | rfl | rfl <;> rfl
theorem pow_le64 (h : Nat) (hh : h ≤ 6) : 2 ^ h ≤ 64 := Nat.pow_le_pow_right (n := 2) (by decide) hh

set_option maxHeartbeats 800000 in
set_option maxRecDepth 100000 in
theorem root_no (v : Value) (L : List ByteArray) (hN : treeB L.length = false) (w : World) (hv : StrsAt w v L) :
    Calls Tryd.prog 8 #[v] w fun e w' => e = .returned (.tuple #[.string ⟨#[]⟩, .int .i64 22]) ∧ w = w' := by
  obtain ⟨av, cv, rfl⟩ := hv.form
  have ht := isTree_any w av L.length cv
  rw [hN] at ht
  have HT := Lib.hid ht
  clear ht
  go_enter Tryd.func8, Tryd.ntmps8
  go_wp2_with fail
  refine HT.out.mono ?_
  rintro e w1 ⟨rfl, rfl⟩
  go_wp2_with fail
  go_ret2
  exact ⟨rfl, rfl⟩

set_option maxHeartbeats 800000 in
set_option maxRecDepth 100000 in
theorem root_ok (v : Value) (L : List ByteArray) (h : Nat) (hh : h ≤ 6) (hN : L.length = 2 ^ h) (hs : ∀ s ∈ L, s.size ≤ 1000000000000) (w : World) (hv : StrsAt w v L) (hr : ShaReady w) :
    Calls Tryd.prog 8 #[v] w fun e w' => e = .returned (.tuple #[.string (rootS h L), .int .i64 0]) ∧ w.grownBy w' none := by
  have HR := Lib.hid hr
  have HV := Lib.hid hv
  have HS := Lib.hid hs
  have HN := Lib.hid hN
  obtain ⟨av, cv, rfl⟩ := hv.form
  have ht := isTree_any w av L.length cv
  rw [hN, treeB_pow h hh] at ht
  have HT := Lib.hid ht
  rw [hN] at HV ⊢
  clear hr hv hs hN ht
  go_enter Tryd.func8, Tryd.ntmps8
  go_wp2_with fail
  refine HT.out.mono ?_
  rintro e w1 ⟨rfl, rfl⟩
  clear HT
  go_wp2_with fail
  go_loopw [0] (fun lv wr => ∃ (j : Nat) (M : List ByteArray), j ≤ h ∧ Hid (M.length = 2 ^ j) ∧ Hid (StrsAt wr lv M) ∧ Hid (rootS j M = rootS h L) ∧ Hid (∀ s ∈ M, s.size ≤ 1000000000000) ∧ Hid (w.grownBy wr none)) (fun lv _ => lenOf lv)
  case atStart => exact ⟨h, L, Nat.le_refl _, HN.out, HV.out, rfl, HS.out, World.grownBy.refl _ _⟩
  case round =>
    obtain ⟨j, M, hj, HM, HMV, HE, HMS, HG⟩ := hrel
    obtain ⟨am, cm, rfl⟩ := HMV.out.form
    have hml := HM.out
    rw [hml] at HMV ⊢
    clear hml
    cases j with
    | succ j =>
      obtain ⟨N, hN⟩ : ∃ N, 2 ^ j = N := ⟨_, rfl⟩
      have hp0 : 0 < 2 ^ j := Nat.pow_pos (by decide)
      have hp6 := pow_le64 j (by omega)
      have ha := mabove_any _ M (2 ^ j) (by rw [HM.out, pow_succ2]) hp6 HMS.out wr HMV.out (HR.out.grown HG.out)
      have hM2 := HM.out
      rw [pow_succ2, hN] at ha HMV hM2 ⊢
      rw [hN] at hp0 hp6
      have HA := Lib.hid ha
      have HN := Lib.hid hN
      clear ha hN HM
      have b1 : (1 : Int) < ((2 * N : Nat) : Int) := by omega
      go_wp2_with fail
      refine HA.out.mono ?_
      rintro e w2 ⟨v2, rfl, h2, g2⟩
      have hf : ∃ a c, v2 = .slice a N c := slice_own' h2
      obtain ⟨a2, c2, rfl⟩ := hf
      have HO2 := Lib.hid (strs_own h2)
      have G2 := Lib.hid (grownBy_trans HG.out g2)
      clear h2 g2
      go_wp2_with fail
      go_roundw
      case rel => exact ⟨j, aboveS M, by omega, (aboveS_length _ _ hM2).trans HN.out.symm, HO2.out, HE.out, fun s hs => by rw [aboveS_sizes _ s hs]; decide, G2.out⟩
      case measure => simp [lenOf]; omega
    | zero =>
      match M, HM with
      | [x], HM =>
        obtain ⟨g, o, rfl, hc⟩ := HMV.out.at_ 0 x rfl
        have HE2 : Hid (x = rootS h L) := HE.out
        clear HE HMV HMS
        rw [Nat.add_zero] at hc
        go_wp2_with fail
        go_ret2
        exact ⟨by rw [← HE2.out]; rfl, HG.out⟩
      | [], HM => exact absurd HM.out (by simp)
      | _ :: _ :: _, HM => exact absurd HM.out (by simp)

theorem climb_step (x b : ByteArray) (i k m : Nat) (hm : i / 2 ^ k % 2 = m) : stepC x (i / 2 ^ k) b = if m = 1 then nodeS b x else nodeS x b := by unfold stepC; rw [hm]
set_option maxHeartbeats 800000 in
set_option maxRecDepth 100000 in
theorem climb_any (x : ByteArray) (i : Nat) (v : Value) (P : List ByteArray) (hi : i < 4294967296) (hP : P.length ≤ 60) (hx : x.size ≤ 1000000000000) (hs : ∀ s ∈ P, s.size ≤ 1000000000000) (w : World) (hv : StrsAt w v P) (hr : ShaReady w) :
    Calls Tryd.prog 12 #[.string x, .int .i64 i, v] w fun e w' => e = .returned (.string (climbS x i P)) ∧ w.grownBy w' none := by
  have HR := Lib.hid hr
  have HV := Lib.hid hv
  have HS := Lib.hid hs
  obtain ⟨av, cv, rfl⟩ := hv.form
  clear hr hv hs
  go_enter Tryd.func12, Tryd.ntmps12
  go_wp2_with fail
  go_loopw [7, 8, 9, 13] (fun xv _ _ kv wr => ∃ (k : Nat) (y : ByteArray), k ≤ P.length ∧ kv = .int .i64 k ∧ xv = .string y ∧ Hid (y.size ≤ 1000000000000) ∧ Hid (climbS y (i / 2 ^ k) (P.drop k) = climbS x i P) ∧ Hid (w.grownBy wr none)) (fun _ _ _ kv _ => P.length - (intOf kv).toNat)
  case atStart => exact ⟨0, x, Nat.zero_le _, rfl, rfl, hx, by show _ = _; simp, World.grownBy.refl _ _⟩
  case round =>
    obtain ⟨k, y, hk, rfl, rfl, HY, HE, HG⟩ := hrel
    by_cases hlt : k < P.length
    · obtain ⟨b, hb⟩ : ∃ b, P[k]? = some b := ⟨_, List.getElem?_eq_getElem hlt⟩
      have hbs := HS.out b (List.mem_of_getElem? hb)
      have hvr := HV.out.grown HG.out
      obtain ⟨gv, ov, rfl, hcx⟩ := hvr.at_ _ b hb
      have hd : P.drop k = b :: P.drop (k + 1) := by
        rw [List.drop_eq_getElem_cons hlt]
        rw [List.getElem?_eq_getElem hlt] at hb
        cases hb
        rfl
      have HE2 : Hid (climbS (stepC y (i / 2 ^ k) b) (i / 2 ^ (k + 1)) (P.drop (k + 1)) = climbS x i P) := by
        have := HE.out
        rw [hd, climbS, Nat.div_div_eq_div_mul, ← Nat.pow_succ] at this
        exact this
      have hbh := Lib.hid (isBehind_any wr i k hi (by omega))
      have b1 : (0 : Int) ≤ (k : Int) := by omega
      have b2 : (k : Int) < (P.length : Int) := by omega
      clear hd hb hvr HE
      by_cases hm : i / 2 ^ k % 2 = 1
      · have hst := climb_step y b i k 1 hm
        rw [if_pos rfl] at hst
        have hbh2 := hbh.out
        rw [show (i / 2 ^ k % 2 == 1) = true from by simp [hm]] at hbh2
        have HB := Lib.hid hbh2
        rw [hst] at HE2
        have HND := Lib.hid (node_any b y hbs HY.out wr (HR.out.grown HG.out))
        clear hst hbh hbh2 hm
        go_wp2_with fail
        refine HB.out.mono ?_
        rintro e w1 ⟨rfl, rfl⟩
        clear HB
        go_wp2_with fail
        refine HND.out.mono ?_
        rintro e w2 ⟨rfl, g2⟩
        have G2 := Lib.hid (grownBy_trans HG.out g2)
        clear g2
        go_wp2_with fail
        go_roundw
        case rel => exact ⟨k + 1, _, by omega, by go_num, rfl, by show _ ≤ _; rw [nodeS_size]; decide, HE2.out, G2.out⟩
        case measure => simp [intOf]; omega
      · have hst := climb_step y b i k 0 (by omega)
        rw [if_neg (by decide)] at hst
        have hbh2 := hbh.out
        rw [show (i / 2 ^ k % 2 == 1) = false from by simp [hm]] at hbh2
        have HB := Lib.hid hbh2
        rw [hst] at HE2
        have HND := Lib.hid (node_any y b HY.out hbs wr (HR.out.grown HG.out))
        clear hst hbh hbh2 hm
        go_wp2_with fail
        refine HB.out.mono ?_
        rintro e w1 ⟨rfl, rfl⟩
        clear HB
        go_wp2_with fail
        refine HND.out.mono ?_
        rintro e w2 ⟨rfl, g2⟩
        have G2 := Lib.hid (grownBy_trans HG.out g2)
        clear g2
        go_wp2_with fail
        go_roundw
        case rel => exact ⟨k + 1, _, by omega, by go_num, rfl, by show _ ≤ _; rw [nodeS_size]; decide, HE2.out, G2.out⟩
        case measure => simp [intOf]; omega
    · have hE := HE.out
      rw [List.drop_of_length_le (by omega)] at hE
      have HE2 : Hid (y = climbS x i P) := hE
      clear hE HE
      go_wp2_with fail
      go_ret
      exact ⟨by rw [← HE2.out]; rfl, HG.out⟩
end Go.Proofs.YtmdogeampigfoaaDoor
