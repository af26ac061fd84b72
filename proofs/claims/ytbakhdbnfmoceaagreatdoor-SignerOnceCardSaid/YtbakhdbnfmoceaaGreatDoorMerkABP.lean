/- The walks of merkle.Node, isTree, above, isBehind. · The walks of merkle.Root, Path, Climb. · The walk of merkle.Path. -/
import Derived.Test.YtbakhdbnfmoceaaGreatDoorMerkSpec
import Derived.Test.YtbakhdbnfmoceaaGreatDoorWotsABC
import Derived.Test.YtbakhdbnfmoceaaGreatDoorBits
import Derived.Deep.RegionHeld3
import Derived.Deep.QuietTactic
import Derived.BigQuiet
import Derived.IntWalk
namespace Go.Proofs.YtbakhdbnfmoceaaGreatDoor
open Go.RowKit
attribute [local irreducible] shaL

set_option maxHeartbeats 400000 in
set_option maxRecDepth 100000 in
theorem node_any (a b : ByteArray) (ha : a.size ≤ 1000000000000) (hb : b.size ≤ 1000000000000) (w : World) (hr : ShaReady w) :
    Calls Tryz.prog 57 #[.string a, .string b] w fun e w' => e = .returned (.string (nodeS a b)) ∧ w.grownBy w' none := by
  have ht := Lib.hid (tagged_new w 5 [a, b] _ 2 5 rfl rfl rfl hr (by simp) (by
    intro s hs'
    simp at hs'
    rcases hs' with rfl | rfl <;> assumption))
  clear hr
  go_enter Tryz.func57, Tryz.ntmps57
  go_wp2_with fail
  refine ht.out.mono ?_
  rintro e w1 ⟨rfl, g1⟩
  have G1 := Lib.hid g1
  clear g1
  go_wp2_with fail
  go_ret
  exact ⟨rfl, G1.out⟩

def treeB (n : Nat) : Bool := decide (n ∈ [1, 2, 4, 8, 16, 32, 64])
theorem undrew {w w' : World} {row : Option Nat} (g : w.drew.grownBy w' row) : w.grownBy w' row := ⟨g.os, g.tape, g.output, g.size, g.block⟩
theorem cell_ne {w : World} {g o b j : Nat} {v u : Value} (hg : b ≠ g) (h : w.cell? ⟨g, o, none⟩ = some v) : (w.setCell ⟨b, j, none⟩ u).cell? ⟨g, o, none⟩ = some v := by
  rw [← h]
  simp only [World.cell?, heap_setCell_ne w b j u hg]
theorem tree_all : ((List.range 65).all fun k => (k == 0) || ((bits .and .i64 (k : Int) ((k : Int) - 1) == 0) == treeB k)) = true := by decide +kernel
theorem tree_and (n : Nat) (h0 : 0 < n) (h : n ≤ 64) : (bits .and .i64 (n : Int) ((n : Int) - 1) == 0) = treeB n := by
  have := List.all_eq_true.1 tree_all n (List.mem_range.2 (by omega))
  rw [Bool.or_eq_true] at this
  rcases this with e | e
  · simp at e; omega
  · exact eq_of_beq e
theorem tree_gt (n : Nat) (h : ¬ n ≤ 64) : treeB n = false := by
  unfold treeB
  simp
  omega

set_option maxHeartbeats 400000 in
set_option maxRecDepth 100000 in
theorem isTree_any (w : World) (a : Option Addr) (n cap : Nat) :
    Calls Tryz.prog 65 #[.slice a n cap] w fun e w' => e = .returned (.bool (treeB n)) ∧ w = w' := by
  by_cases h0 : 0 < n
  · by_cases h64 : n ≤ 64
    · have e := tree_and n h0 h64
      have h0' : (0 : Int) < (n : Int) := by omega
      have h64' : (n : Int) ≤ 64 := by omega
      go_enter Tryz.func65, Tryz.ntmps65
      go_wp2_with fail
      go_ret
      exact ⟨rfl, rfl⟩
    · have e := tree_gt n h64
      have h0' : (0 : Int) < (n : Int) := by omega
      have h64' : ¬ (n : Int) ≤ 64 := by omega
      go_enter Tryz.func65, Tryz.ntmps65
      go_wp2_with fail
      go_ret
      exact ⟨rfl, rfl⟩
  · obtain rfl : n = 0 := by omega
    go_enter Tryz.func65, Tryz.ntmps65
    go_wp2_with fail
    go_ret
    exact ⟨rfl, rfl⟩

set_option maxHeartbeats 400000 in
set_option maxRecDepth 100000 in
theorem isBehind_any (w : World) (i k : Nat) (hi : i < 4294967296) (hk : k < 63) :
    Calls Tryz.prog 56 #[.int .i64 i, .int .i64 k] w fun e w' => e = .returned (.bool (i / 2 ^ k % 2 == 1)) ∧ w = w' := by
  have b1 : (0 : Int) ≤ (k : Int) := by omega
  have b2 : (k : Int) < 64 := by omega
  have e : (bits .and .i64 ((i : Int) / 2 ^ k) 1 == 1) = (i / 2 ^ k % 2 == 1) := by
    have h1 : i / 2 ^ k < 9223372036854775808 := Nat.lt_of_le_of_lt (Nat.div_le_self _ _) (by omega)
    have h2 := and_one_i64 (i / 2 ^ k) h1
    have h3 : ((i / 2 ^ k : Nat) : Int) = (i : Int) / 2 ^ k := by simp
    rw [h3] at h2
    rw [h2, Bool.eq_iff_iff]
    simp
    omega
  go_enter Tryz.func56, Tryz.ntmps56
  go_wp2_with fail
  go_ret
  exact ⟨rfl, rfl⟩

/-- a list of texts, some of its first ones in the level above, being filled -/
theorem aboveS_take_succ (k : Nat) (L : List ByteArray) (a b : ByteArray) (h1 : L[2 * k]? = some a) (h2 : L[2 * k + 1]? = some b) : aboveS (L.take (2 * (k + 1))) = aboveS (L.take (2 * k)) ++ [nodeS a b] := by
  have hl := (List.getElem?_eq_some_iff.1 h2).1
  have e : L.take (2 * (k + 1)) = L.take (2 * k) ++ [a, b] := by
    rw [show 2 * (k + 1) = 2 * k + 1 + 1 from by omega, List.take_add_one, h2, List.take_add_one, h1]
    simp
  rw [e, aboveS_append k _ _ (by rw [List.length_take]; omega)]
  rfl

set_option maxHeartbeats 800000 in
set_option maxRecDepth 100000 in
theorem mabove_any (v : Value) (L : List ByteArray) (N : Nat) (hN : L.length = 2 * N) (hN2 : N ≤ 64) (hs : ∀ s ∈ L, s.size ≤ 1000000000000) (w : World) (hv : StrsAt w v L) (hr : ShaReady w) :
    Calls Tryz.prog 66 #[v] w fun e w' => ∃ v', e = .returned v' ∧ w'.ownsRow w.heap.size 9 1 v' N (strsV (aboveS L)) ∧ w.grownBy w' none := by
  obtain ⟨i0, hi, hz0, hz1, hz2⟩ := info_parts infoStrW
  have HR := Lib.hid hr
  have HV := Lib.hid hv
  have HS := Lib.hid hs
  have HN := Lib.hid hN
  obtain ⟨av, cv, rfl⟩ := hv.form
  obtain ⟨M, hM⟩ : ∃ M, 2 * N = M := ⟨_, rfl⟩
  rw [hN, hM] at HV ⊢
  have hq : (M : Int) / 2 = (N : Int) := by omega
  have HM := Lib.hid hM
  clear hr hv hs hN hM
  go_enter Tryz.func66, Tryz.ntmps66
  go_wp2_with (at_make; refine wpList_make_full _ rfl _ _ 23 rfl w.heap.size 9 i0 (.string ⟨#[]⟩) 1 Tryz.underlying23 hi hz0 hz1 _ _ _ _ N rfl rfl rfl rfl ?c1 ?c2 ?c3 ?_)
  case c1 => rw [hz2]; omega
  case c2 => unfold maxLen; omega
  case c3 => exact Nat.le_refl _
  intro w2 hown hg
  have hm : (madeCells #[Value.string ⟨#[]⟩] N).toList = strsV (fillS (aboveS (L.take (2 * 0))) N) := made_strs N
  rw [hm] at hown
  have HO2 := Lib.hid hown
  have G2 := Lib.hid hg
  clear hown hg hm
  go_wp2_with fail
  go_loopw [4, 12] (fun _ iv wr => ∃ k : Nat, k ≤ N ∧ iv = .int .i64 k ∧ Hid (wr.ownsRow w.heap.size 9 1 (.slice (some ⟨w.heap.size, 0, none⟩) N N) N (strsV (fillS (aboveS (L.take (2 * k))) N))) ∧ Hid (w.grownBy wr none)) (fun _ iv _ => N - (intOf iv).toNat)
  case atStart => exact ⟨0, by omega, rfl, HO2.out, G2.out⟩
  case round =>
    clear HO2 G2
    obtain ⟨k, hk, rfl, HK, HG⟩ := hrel
    by_cases hlt : k < N
    · obtain ⟨x, hx⟩ : ∃ x, L[2 * k]? = some x := ⟨_, List.getElem?_eq_getElem (by rw [HN.out]; omega)⟩
      obtain ⟨y, hy⟩ : ∃ y, L[2 * k + 1]? = some y := ⟨_, List.getElem?_eq_getElem (by rw [HN.out]; omega)⟩
      have hvr := HV.out.grown HG.out
      obtain ⟨gv, ov, rfl, hcx⟩ := hvr.at_ _ x hx
      obtain ⟨gv', ov', he, hcy⟩ := hvr.at_ _ y hy
      obtain ⟨rfl, rfl⟩ : gv = gv' ∧ ov = ov' := by cases he; exact ⟨rfl, rfl⟩
      have HE : Hid (aboveS (L.take (2 * (k + 1))) = aboveS (L.take (2 * k)) ++ [nodeS x y]) := aboveS_take_succ k L x y hx hy
      have sx := HS.out x (List.mem_of_getElem? hx)
      have sy := HS.out y (List.mem_of_getElem? hy)
      have hel := aboveS_length k (L.take (2 * k)) (by rw [List.length_take, HN.out]; omega)
      have HXX := Lib.hid hx
      clear hx hy hvr he
      have b1 : (0 : Int) ≤ (k : Int) := by omega
      have b2 : (k : Int) < (N : Int) := by omega
      have b3 : 2 * (k : Int) + 1 < (M : Int) := by have := HM.out; omega
      have b4 : 2 * (k : Int) < (M : Int) := by omega
      have b5 : (0 : Int) ≤ 2 * (k : Int) := by omega
      have b6 : (0 : Int) ≤ 2 * (k : Int) + 1 := by omega
      have t1 : (2 * (k : Int)).toNat = 2 * k := by omega
      have t2 : (2 * (k : Int) + 1).toNat = 2 * k + 1 := by omega
      have r1 : IntKind.i64.wrap (2 * (k : Int)) = 2 * (k : Int) := IntWalk.i64_in _ (by omega)
      have r2 : IntKind.i64.wrap (2 * (k : Int) + 1) = 2 * (k : Int) + 1 := IntWalk.i64_in _ (by omega)
      have HNX : Hid (∀ w0, ShaReady w0 → Calls Tryz.prog 57 #[.string x, .string y] w0 fun e w' => e = .returned (.string (nodeS x y)) ∧ w0.grownBy w' none) := fun w0 h => node_any x y sx sy w0 h
      have HGG := Lib.hid (HR.out.grown HG.out)
      have hgv : w.heap.size ≠ gv := by
        obtain ⟨g', o', he, hc'⟩ := HV.out.at_ _ x HXX.out
        cases he
        have := cell_lt hc'
        omega
      have hat := fillS_at (aboveS (L.take (2 * k))) N (by omega)
      have hput := fillS_put (aboveS (L.take (2 * k))) N (nodeS x y) (by omega)
      rw [hel] at hat hput
      have HP := Lib.hid hput
      have HAT := Lib.hid hat
      clear hat hput hel
      generalize nodeS x y = S at HNX HE HP
      generalize aboveS (L.take (2 * k)) = A at HK HE HP HAT
      go_wp2_with fail
      go_region_held3 (fun w' => w'.cell? ⟨gv, ov + 2 * k, none⟩ = some (.string x) ∧ w'.cell? ⟨gv, ov + (2 * k + 1), none⟩ = some (.string y)) (first | exact ck | exact ⟨hcx, hcy⟩ | exact ⟨cell_ne hgv ck.1, cell_ne hgv ck.2⟩)
        ((go_at_call 57; (with_reducible refine (HNX.out _ (HGG.out.grown (grownBy_drew (World.grownBy.refl _ _)))).mono ?_); rintro e w6 ⟨rfl, g6⟩; have ck : w6.cell? ⟨gv, ov + 2 * k, none⟩ = some (.string x) ∧ w6.cell? ⟨gv, ov + (2 * k + 1), none⟩ = some (.string y) := ⟨g6.cell hcx (by simp), g6.cell hcy (by simp)⟩; have HK6 := Lib.hid (own_kept (World.ownsRow.drew HK.out) g6); have hf6 := HK6.out.frozenAt k; have hc6 : w6.cell? ⟨w.heap.size, k, none⟩ = some (.string ⟨#[]⟩) := (HK6.out.cellAt k (by omega)).trans HAT.out))
      go_wp2_with fail
      go_roundw
      case rel =>
        refine ⟨k + 1, by omega, by go_num, ?_, grownBy_setNew (grownBy_trans HG.out (undrew g6)) (Nat.le_refl _) _ _⟩
        show World.ownsRow _ _ _ _ _ _ _
        rw [HE.out, ← HP.out]
        exact (HK6.out.stored _ _).1
      case measure => simp [intOf]; omega
    · obtain rfl : k = N := by omega
      have hown := HK.out
      have hl := aboveS_length k L (by rw [HN.out])
      rw [List.take_of_length_le (by rw [HN.out]; exact Nat.le_refl _), fillS_full _ k hl] at hown
      have HOW := Lib.hid hown
      clear hown HK
      go_wp2_with fail
      go_ret
      exact ⟨_, rfl, HOW.out, HG.out⟩
end Go.Proofs.YtbakhdbnfmoceaaGreatDoor

namespace Go.Proofs.YtbakhdbnfmoceaaGreatDoor
open Go.RowKit
attribute [local irreducible] shaL

theorem StrsAt.beside {w w' : World} {a : Option Addr} {n cap : Nat} {L : List ByteArray} {row : Option Nat} (h : StrsAt w (.slice a n cap) L) (hg : w.grownBy w' row) (hne : ∀ g o, a = some ⟨g, o, none⟩ → row ≠ some g) : StrsAt w' (.slice a n cap) L := by
  obtain ⟨a', cap', he, hc⟩ := h
  cases he
  refine ⟨a, cap, rfl, fun i hi => ?_⟩
  obtain ⟨g, o, rfl, hcell⟩ := hc i hi
  exact ⟨g, o, rfl, hg.cell hcell (fun e => hne g o rfl e.symm)⟩
def lenOf : Value → Nat
  | .slice _ n _ => n
  | _ => 0
theorem treeB_pow (h : Nat) (hh : h ≤ 6) : treeB (2 ^ h) = true := by
  have : h = 0 ∨ h = 1 ∨ h = 2 ∨ h = 3 ∨ h = 4 ∨ h = 5 ∨ h = 6 := by omega
  rcases this with rfl | rfl | rfl | rfl | rfl | rfl | rfl <;> rfl
theorem pow_le64 (h : Nat) (hh : h ≤ 6) : 2 ^ h ≤ 64 := Nat.pow_le_pow_right (n := 2) (by decide) hh

set_option maxHeartbeats 800000 in
set_option maxRecDepth 100000 in
theorem root_no (v : Value) (L : List ByteArray) (hN : treeB L.length = false) (w : World) (hv : StrsAt w v L) :
    Calls Tryz.prog 40 #[v] w fun e w' => e = .returned (.tuple #[.string ⟨#[]⟩, .int .i64 22]) ∧ w = w' := by
  obtain ⟨av, cv, rfl⟩ := hv.form
  have ht := isTree_any w av L.length cv
  rw [hN] at ht
  have HT := Lib.hid ht
  clear ht
  go_enter Tryz.func40, Tryz.ntmps40
  go_wp2_with fail
  refine HT.out.mono ?_
  rintro e w1 ⟨rfl, rfl⟩
  go_wp2_with fail
  go_ret2
  exact ⟨rfl, rfl⟩

set_option maxHeartbeats 800000 in
set_option maxRecDepth 100000 in
theorem root_ok (v : Value) (L : List ByteArray) (h : Nat) (hh : h ≤ 6) (hN : L.length = 2 ^ h) (hs : ∀ s ∈ L, s.size ≤ 1000000000000) (w : World) (hv : StrsAt w v L) (hr : ShaReady w) :
    Calls Tryz.prog 40 #[v] w fun e w' => e = .returned (.tuple #[.string (rootS h L), .int .i64 0]) ∧ w.grownBy w' none := by
  have HR := Lib.hid hr
  have HV := Lib.hid hv
  have HS := Lib.hid hs
  have HN := Lib.hid hN
  obtain ⟨av, cv, rfl⟩ := hv.form
  have ht := isTree_any w av L.length cv
  rw [hN, treeB_pow h hh] at ht
  have HT := Lib.hid ht
  rw [hN] at HV ⊢
  clear hr hv hs hN ht
  go_enter Tryz.func40, Tryz.ntmps40
  go_wp2_with fail
  refine HT.out.mono ?_
  rintro e w1 ⟨rfl, rfl⟩
  clear HT
  go_wp2_with fail
  go_loopw [0] (fun lv wr => ∃ (j : Nat) (M : List ByteArray), j ≤ h ∧ Hid (M.length = 2 ^ j) ∧ Hid (StrsAt wr lv M) ∧ Hid (rootS j M = rootS h L) ∧ Hid (∀ s ∈ M, s.size ≤ 1000000000000) ∧ Hid (w.grownBy wr none)) (fun lv _ => lenOf lv)
  case atStart => exact ⟨h, L, Nat.le_refl _, HN.out, HV.out, rfl, HS.out, World.grownBy.refl _ _⟩
  case round =>
    obtain ⟨j, M, hj, HM, HMV, HE, HMS, HG⟩ := hrel
    obtain ⟨am, cm, rfl⟩ := HMV.out.form
    have hml := HM.out
    rw [hml] at HMV ⊢
    clear hml
    cases j with
    | succ j =>
      obtain ⟨N, hN⟩ : ∃ N, 2 ^ j = N := ⟨_, rfl⟩
      have hp0 : 0 < 2 ^ j := Nat.pow_pos (by decide)
      have hp6 := pow_le64 j (by omega)
      have ha := mabove_any _ M (2 ^ j) (by rw [HM.out, pow_succ2]) hp6 HMS.out wr HMV.out (HR.out.grown HG.out)
      have hM2 := HM.out
      rw [pow_succ2, hN] at ha HMV hM2 ⊢
      rw [hN] at hp0 hp6
      have HA := Lib.hid ha
      have HN := Lib.hid hN
      clear ha hN HM
      have b1 : (1 : Int) < ((2 * N : Nat) : Int) := by omega
      go_wp2_with fail
      refine HA.out.mono ?_
      rintro e w2 ⟨v2, rfl, h2, g2⟩
      have hf : ∃ a c, v2 = .slice a N c := slice_own' h2
      obtain ⟨a2, c2, rfl⟩ := hf
      have HO2 := Lib.hid (strs_own h2)
      have G2 := Lib.hid (grownBy_trans HG.out g2)
      clear h2 g2
      go_wp2_with fail
      go_roundw
      case rel => exact ⟨j, aboveS M, by omega, (aboveS_length _ _ hM2).trans HN.out.symm, HO2.out, HE.out, fun s hs => by rw [aboveS_sizes _ s hs]; decide, G2.out⟩
      case measure => simp [lenOf]; omega
    | zero =>
      match M, HM with
      | [x], HM =>
        obtain ⟨g, o, rfl, hc⟩ := HMV.out.at_ 0 x rfl
        have HE2 : Hid (x = rootS h L) := HE.out
        clear HE HMV HMS
        rw [Nat.add_zero] at hc
        go_wp2_with fail
        go_ret2
        exact ⟨by rw [← HE2.out]; rfl, HG.out⟩
      | [], HM => exact absurd HM.out (by simp)
      | _ :: _ :: _, HM => exact absurd HM.out (by simp)

theorem climb_step (x b : ByteArray) (i k m : Nat) (hm : i / 2 ^ k % 2 = m) : stepC x (i / 2 ^ k) b = if m = 1 then nodeS b x else nodeS x b := by unfold stepC; rw [hm]
set_option maxHeartbeats 800000 in
set_option maxRecDepth 100000 in
theorem climb_any (x : ByteArray) (i : Nat) (v : Value) (P : List ByteArray) (hi : i < 4294967296) (hP : P.length ≤ 60) (hx : x.size ≤ 1000000000000) (hs : ∀ s ∈ P, s.size ≤ 1000000000000) (w : World) (hv : StrsAt w v P) (hr : ShaReady w) :
    Calls Tryz.prog 30 #[.string x, .int .i64 i, v] w fun e w' => e = .returned (.string (climbS x i P)) ∧ w.grownBy w' none := by
  have HR := Lib.hid hr
  have HV := Lib.hid hv
  have HS := Lib.hid hs
  obtain ⟨av, cv, rfl⟩ := hv.form
  clear hr hv hs
  go_enter Tryz.func30, Tryz.ntmps30
  go_wp2_with fail
  go_loopw [7, 8, 9, 13] (fun xv _ _ kv wr => ∃ (k : Nat) (y : ByteArray), k ≤ P.length ∧ kv = .int .i64 k ∧ xv = .string y ∧ Hid (y.size ≤ 1000000000000) ∧ Hid (climbS y (i / 2 ^ k) (P.drop k) = climbS x i P) ∧ Hid (w.grownBy wr none)) (fun _ _ _ kv _ => P.length - (intOf kv).toNat)
  case atStart => exact ⟨0, x, Nat.zero_le _, rfl, rfl, hx, by show _ = _; simp, World.grownBy.refl _ _⟩
  case round =>
    obtain ⟨k, y, hk, rfl, rfl, HY, HE, HG⟩ := hrel
    by_cases hlt : k < P.length
    · obtain ⟨b, hb⟩ : ∃ b, P[k]? = some b := ⟨_, List.getElem?_eq_getElem hlt⟩
      have hbs := HS.out b (List.mem_of_getElem? hb)
      have hvr := HV.out.grown HG.out
      obtain ⟨gv, ov, rfl, hcx⟩ := hvr.at_ _ b hb
      have hd : P.drop k = b :: P.drop (k + 1) := by
        rw [List.drop_eq_getElem_cons hlt]
        rw [List.getElem?_eq_getElem hlt] at hb
        cases hb
        rfl
      have HE2 : Hid (climbS (stepC y (i / 2 ^ k) b) (i / 2 ^ (k + 1)) (P.drop (k + 1)) = climbS x i P) := by
        have := HE.out
        rw [hd, climbS, Nat.div_div_eq_div_mul, ← Nat.pow_succ] at this
        exact this
      have hbh := Lib.hid (isBehind_any wr i k hi (by omega))
      have b1 : (0 : Int) ≤ (k : Int) := by omega
      have b2 : (k : Int) < (P.length : Int) := by omega
      clear hd hb hvr HE
      by_cases hm : i / 2 ^ k % 2 = 1
      · have hst := climb_step y b i k 1 hm
        rw [if_pos rfl] at hst
        have hbh2 := hbh.out
        rw [show (i / 2 ^ k % 2 == 1) = true from by simp [hm]] at hbh2
        have HB := Lib.hid hbh2
        rw [hst] at HE2
        have HND := Lib.hid (node_any b y hbs HY.out wr (HR.out.grown HG.out))
        clear hst hbh hbh2 hm
        go_wp2_with fail
        refine HB.out.mono ?_
        rintro e w1 ⟨rfl, rfl⟩
        clear HB
        go_wp2_with fail
        refine HND.out.mono ?_
        rintro e w2 ⟨rfl, g2⟩
        have G2 := Lib.hid (grownBy_trans HG.out g2)
        clear g2
        go_wp2_with fail
        go_roundw
        case rel => exact ⟨k + 1, _, by omega, by go_num, rfl, by show _ ≤ _; rw [nodeS_size]; decide, HE2.out, G2.out⟩
        case measure => simp [intOf]; omega
      · have hst := climb_step y b i k 0 (by omega)
        rw [if_neg (by decide)] at hst
        have hbh2 := hbh.out
        rw [show (i / 2 ^ k % 2 == 1) = false from by simp [hm]] at hbh2
        have HB := Lib.hid hbh2
        rw [hst] at HE2
        have HND := Lib.hid (node_any y b HY.out hbs wr (HR.out.grown HG.out))
        clear hst hbh hbh2 hm
        go_wp2_with fail
        refine HB.out.mono ?_
        rintro e w1 ⟨rfl, rfl⟩
        clear HB
        go_wp2_with fail
        refine HND.out.mono ?_
        rintro e w2 ⟨rfl, g2⟩
        have G2 := Lib.hid (grownBy_trans HG.out g2)
        clear g2
        go_wp2_with fail
        go_roundw
        case rel => exact ⟨k + 1, _, by omega, by go_num, rfl, by show _ ≤ _; rw [nodeS_size]; decide, HE2.out, G2.out⟩
        case measure => simp [intOf]; omega
    · have hE := HE.out
      rw [List.drop_of_length_le (by omega)] at hE
      have HE2 : Hid (y = climbS x i P) := hE
      clear hE HE
      go_wp2_with fail
      go_ret
      exact ⟨by rw [← HE2.out]; rfl, HG.out⟩
end Go.Proofs.YtbakhdbnfmoceaaGreatDoor

namespace Go.Proofs.YtbakhdbnfmoceaaGreatDoor
open Go.RowKit
attribute [local irreducible] shaL

set_option maxHeartbeats 800000 in
set_option maxRecDepth 100000 in
theorem path_no (v : Value) (L : List ByteArray) (i : Int) (hN : treeB L.length = false) (w : World) (hv : StrsAt w v L) :
    Calls Tryz.prog 49 #[v, .int .i64 i] w fun e w' => e = .returned (.tuple #[.slice none 0 0, .int .i64 22]) ∧ w = w' := by
  obtain ⟨av, cv, rfl⟩ := hv.form
  have ht := isTree_any w av L.length cv
  rw [hN] at ht
  have HT := Lib.hid ht
  clear ht
  go_enter Tryz.func49, Tryz.ntmps49
  go_wp2_with fail
  refine HT.out.mono ?_
  rintro e w1 ⟨rfl, rfl⟩
  go_wp2_with fail
  go_ret2
  exact ⟨rfl, rfl⟩

set_option maxHeartbeats 800000 in
set_option maxRecDepth 100000 in
theorem path_out (v : Value) (L : List ByteArray) (i : Int) (hN : treeB L.length = true) (hi : i < 0 ∨ (L.length : Int) ≤ i) (w : World) (hv : StrsAt w v L) :
    Calls Tryz.prog 49 #[v, .int .i64 i] w fun e w' => e = .returned (.tuple #[.slice none 0 0, .int .i64 10]) ∧ w = w' := by
  obtain ⟨av, cv, rfl⟩ := hv.form
  have ht := isTree_any w av L.length cv
  rw [hN] at ht
  have HT := Lib.hid ht
  clear ht
  by_cases h0 : i < 0
  · go_enter Tryz.func49, Tryz.ntmps49
    go_wp2_with fail
    refine HT.out.mono ?_
    rintro e w1 ⟨rfl, rfl⟩
    go_wp2_with fail
    go_ret2
    exact ⟨rfl, rfl⟩
  · have h1 : (L.length : Int) ≤ i := by omega
    go_enter Tryz.func49, Tryz.ntmps49
    go_wp2_with fail
    refine HT.out.mono ?_
    rintro e w1 ⟨rfl, rfl⟩
    go_wp2_with fail
    go_ret2
    exact ⟨rfl, rfl⟩

set_option maxHeartbeats 1600000 in
set_option maxRecDepth 100000 in
theorem path_ok (v : Value) (L : List ByteArray) (h i : Nat) (hh : h ≤ 6) (hN : L.length = 2 ^ h) (hi : i < 2 ^ h) (hs : ∀ s ∈ L, s.size ≤ 1000000000000) (w : World) (hv : StrsAt w v L) (hold : ∀ g o n c, v = .slice (some ⟨g, o, none⟩) n c → g < w.heap.size) (hr : ShaReady w) :
    Calls Tryz.prog 49 #[v, .int .i64 i] w fun e w' => ∃ v', e = .returned (.tuple #[v', .int .i64 0]) ∧ w'.ownsRow w.heap.size 9 1 v' h (strsV (pathS h L i)) ∧ w.grownBy w' none := by
  obtain ⟨i0, hti, hz0, hz1, hz2⟩ := info_parts infoStrW
  have HR := Lib.hid hr
  have HV := Lib.hid hv
  have HS := Lib.hid hs
  have HN := Lib.hid hN
  obtain ⟨av, cv, rfl⟩ := hv.form
  have HO := Lib.hid hold
  have ht := isTree_any w av L.length cv
  rw [hN, treeB_pow h hh] at ht
  have HT := Lib.hid ht
  rw [hN] at HV HO ⊢
  have HI := Lib.hid hi
  have b1 : (0 : Int) ≤ (i : Int) := by omega
  have b2 : (i : Int) < ((2 ^ h : Nat) : Int) := by omega
  clear hr hv hs hN ht hold hi
  obtain ⟨Z, hZ⟩ : ∃ Z, 2 ^ h = Z := ⟨_, rfl⟩
  have HZ := Lib.hid hZ
  rw [hZ] at HT HV HO b2 HI ⊢
  clear hZ
  go_enter Tryz.func49, Tryz.ntmps49
  go_wp2_with fail
  refine HT.out.mono ?_
  rintro e w1 ⟨rfl, rfl⟩
  clear HT
  go_wp2_with fail
  generalize Value.bool (decide ((i : Int) < 0) || decide (Z ≤ i)) = d2
  generalize Value.bool (decide (Z ≤ i)) = d1
  generalize Value.bool (decide ((i : Int) < 0)) = d3
  clear b1 b2
  go_loopw [0, 1, 6] (fun lv iv pv wr => ∃ (j k n : Nat) (M P : List ByteArray) (a pa : Option Addr) (c pc : Nat), j + n = h ∧ lv = .slice a (2 ^ j) c ∧ iv = .int .i64 k ∧ Hid (k < 2 ^ j) ∧ pv = .slice pa n pc ∧ Hid (M.length = 2 ^ j) ∧ Hid (StrsAt wr (.slice a (2 ^ j) c) M) ∧ Hid (P ++ pathS j M k = pathS h L i) ∧ Hid (∀ s ∈ M, s.size ≤ 1000000000000) ∧ Hid (wr.ownsRow w.heap.size 9 1 (.slice pa n pc) n (strsV P)) ∧ Hid (∀ g o, a = some ⟨g, o, none⟩ → (Value.slice pa n pc).ownBlock ≠ some g) ∧ Hid (w.grownBy wr none)) (fun lv _ _ _ => lenOf lv)
  case atStart => exact ⟨h, i, 0, L, [], av, none, cv, 0, rfl, by rw [HZ.out], rfl, by show _ < _; rw [HZ.out]; exact HI.out, rfl, HN.out, by rw [HZ.out]; exact HV.out, rfl, HS.out, World.ownsRow_nil _ _ _ _, fun g o e => by simp [Value.ownBlock], World.grownBy.refl _ _⟩
  case round =>
    clear HV HS HN HO
    obtain ⟨j, k, n, M, P, a, pa, c, pc, hjn, rfl, rfl, HK, rfl, HM, HMV, HE, HMS, HOW, HNE, HG⟩ := hrel
    cases j with
    | succ j =>
      obtain ⟨N, hN⟩ : ∃ N, 2 ^ j = N := ⟨_, rfl⟩
      have hp0 : 0 < 2 ^ j := Nat.pow_pos (by decide)
      have hp6 := pow_le64 j (by omega)
      have hM2 := HM.out
      have hk := HK.out
      rw [pow_succ2, hN] at HMV hM2 hk ⊢
      rw [hN] at hp0 hp6
      have HN := Lib.hid hN
      clear hN HM HK
      have x1 := xor1d k
      have x2 := xor1m k
      have hxk : k ^^^ 1 < 2 * N := by omega
      have hxb : bits .xor .i64 (k : Int) 1 = ((k ^^^ 1 : Nat) : Int) := bits_xor_i64_nat k 1 (by omega) (by decide)
      have hpe : pathS (j + 1) M k = M.getD (k ^^^ 1) ByteArray.empty :: pathS j (aboveS M) (k / 2) := rfl
      obtain ⟨x, hx⟩ : ∃ x, M[k ^^^ 1]? = some x := ⟨_, List.getElem?_eq_getElem (by omega)⟩
      rw [List.getD_eq_getElem?_getD, hx, Option.getD_some] at hpe
      obtain ⟨g, o, rfl, hc⟩ := HMV.out.at_ _ x hx
      clear hx x1 x2
      generalize k ^^^ 1 = m at hxk hxb hc
      have b1 : (1 : Int) < ((2 * N : Nat) : Int) := by omega
      have b2 : (0 : Int) ≤ (m : Int) := by omega
      have b3 : (m : Int) < ((2 * N : Nat) : Int) := by omega
      obtain ⟨k2, hk2⟩ : ∃ k2, k / 2 = k2 := ⟨_, rfl⟩
      have hq : (k : Int) / 2 = (k2 : Int) := by omega
      rw [hk2] at hpe
      have HK2 : Hid (k2 < N) := by show _ < _; omega
      clear hk2
      have ho2 : Hid ((wr.alloc (.cells #[.string x] 9)).ownsRow w.heap.size 9 1 (.slice pa n pc) n (strsV P)) := HOW.out.alloc _
      go_wp2_with (at_builtin; refine wpList_append_own _ rfl _ _ 23 rfl w.heap.size 9 i0 (.string ⟨#[]⟩) 1 16 Tryz.underlying23 hti hz0 hz1 hz2 rfl (by decide) _ _ _ rfl ho2.out ⟨wr.heap.size, 0, none⟩ 1 1 [.string x] rfl rfl ?q1 ?q2 ?q3 ?q4 ?q5 ?_)
      case q1 => exact lit_one wr x
      case q2 => intro u hu; simp at hu; subst hu; rfl
      case q3 => unfold maxLen; omega
      case q4 => omega
      case q5 => have := HG.out.size; simp; omega
      intro v' w2 hown2 hg2 _
      obtain ⟨a', c', rfl⟩ := slice_own' hown2
      rw [push_strs] at hown2
      have hg2' : w.grownBy w2 none := grown_row (grownBy_alloc' HG.out _) hg2 (fun g hg => (HOW.out.lt g hg).1)
      have hmv := StrsAt.beside (HMV.out.grown (World.grownBy_alloc _ (.cells #[.string x] 9) none)) hg2 (fun g' o' e => HNE.out g' o' e)
      have ha := mabove_any _ M N hM2 hp6 HMS.out w2 hmv (HR.out.grown hg2')
      have HA := Lib.hid ha
      have HOW2 := Lib.hid hown2
      have G2 := Lib.hid hg2'
      clear ha hmv hg2' hown2 hg2 hc ho2 HOW HNE HG HMV
      go_wp2_with fail
      refine HA.out.mono ?_
      rintro e w3 ⟨v3, rfl, h3, g3⟩
      have hlt3 := h3.lt
      obtain ⟨a3, c3, rfl⟩ := slice_own' h3
      have hle2 := HOW2.out.lt
      have HO3 := Lib.hid (strs_own h3)
      have HOW3 := Lib.hid (own_kept HOW2.out g3)
      have G3 := Lib.hid (grownBy_trans G2.out g3)
      clear g3 h3 HA HOW2 G2
      go_wp2_with fail
      go_roundw
      case rel =>
        refine ⟨j, k2, n + 1, aboveS M, P ++ [x], a3, a', c3, c', by omega, by rw [HN.out], rfl, ?_, rfl, ?_, ?_, ?_, ?_, HOW3.out, ?_, G3.out⟩
        · show _ < _; rw [HN.out]; exact HK2.out
        · exact (aboveS_length _ _ hM2).trans HN.out.symm
        · show StrsAt _ _ _; rw [HN.out]; exact HO3.out
        · show _ = _
          rw [← HE.out, hpe, List.append_assoc]
          rfl
        · intro s hs; rw [aboveS_sizes _ s hs]; decide
        · intro g' o' e hb
          have h1 := hle2 g' hb
          have h2 := hlt3 g' (by rw [e]; rfl)
          omega
      case measure => simp [lenOf]; omega
    | zero =>
      obtain rfl : n = h := by omega
      have hE := HE.out
      rw [pathS, List.append_nil] at hE
      have HO2 := Lib.hid HOW.out
      rw [hE] at HO2
      clear hE HE HMV HMS HNE HOW
      go_wp2_with fail
      go_ret2
      exact ⟨_, rfl, HO2.out, HG.out⟩
end Go.Proofs.YtbakhdbnfmoceaaGreatDoor
