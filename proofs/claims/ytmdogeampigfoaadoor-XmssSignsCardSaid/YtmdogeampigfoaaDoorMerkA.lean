/- The walks of merkle.Node, isTree, above, isBehind. -/
import Derived.Test.YtmdogeampigfoaaDoorMerkSpec
import Derived.Test.YtmdogeampigfoaaDoorWotsB
import Derived.Test.YtmdogeampigfoaaDoorBits
import Derived.Deep.RegionHeld3
import Derived.Deep.QuietTactic
import Derived.BigQuiet
import Derived.IntWalk
namespace Go.Proofs.YtmdogeampigfoaaDoor
open Go.RowKit
attribute [local irreducible] shaL

set_option maxHeartbeats 400000 in
set_option maxRecDepth 100000 in
theorem node_any (a b : ByteArray) (ha : a.size ≤ 1000000000000) (hb : b.size ≤ 1000000000000) (w : World) (hr : ShaReady w) :
    Calls Tryd.prog 13 #[.string a, .string b] w fun e w' => e = .returned (.string (nodeS a b)) ∧ w.grownBy w' none := by
  have ht := Lib.hid (tagged_new w 5 [a, b] _ 2 5 rfl rfl rfl hr (by simp) (by
    intro s hs'
    simp at hs'
    rcases hs' with rfl | rfl <;> assumption))
  clear hr
  go_enter Tryd.func13, Tryd.ntmps13
  go_wp2_with fail
  refine ht.out.mono ?_
  rintro e w1 ⟨rfl, g1⟩
  have G1 := Lib.hid g1
  clear g1
  go_wp2_with fail
  go_ret
  exact ⟨rfl, G1.out⟩

def treeB (n : Nat) : Bool := decide (n ∈ [1, 2, 4, 8, 16, 32, 64])
theorem undrew {w w' : World} {row : Option Nat} (g : w.drew.grownBy w' row) : w.grownBy w' row := ⟨g.os, g.tape, g.output, g.size, g.block⟩
theorem cell_lt {w : World} {g o : Nat} {v : Value} (h : w.cell? ⟨g, o, none⟩ = some v) : g < w.heap.size := by
  apply Classical.byContradiction
  intro hn
  have e : w.heap[g]? = none := by simp; omega
  simp [World.cell?, e] at h
theorem cell_ne {w : World} {g o b j : Nat} {v u : Value} (hg : b ≠ g) (h : w.cell? ⟨g, o, none⟩ = some v) : (w.setCell ⟨b, j, none⟩ u).cell? ⟨g, o, none⟩ = some v := by
  rw [← h]
  simp only [World.cell?, heap_setCell_ne w b j u hg]
theorem tree_all : ((List.range 65).all fun k => (k == 0) || ((bits .and .i64 (k : Int) ((k : Int) - 1) == 0) == treeB k)) = true := by decide +kernel
theorem tree_and (n : Nat) (h0 : 0 < n) (h : n ≤ 64) : (bits .and .i64 (n : Int) ((n : Int) - 1) == 0) = treeB n := by
  have := List.all_eq_true.1 tree_all n (List.mem_range.2 (by omega))
  rw [Bool.or_eq_true] at this
  rcases this with e | e
  · simp at e; omega
  · exact eq_of_beq e
theorem tree_gt (n : Nat) (h : ¬ n ≤ 64) : treeB n = false := by
  unfold treeB
  simp
  omega

set_option maxHeartbeats 400000 in
set_option maxRecDepth 100000 in
theorem isTree_any (w : World) (a : Option Addr) (n cap : Nat) :
    Calls Tryd.prog 24 #[.slice a n cap] w fun e w' => e = .returned (.bool (treeB n)) ∧ w = w' := by
  by_cases h0 : 0 < n
  · by_cases h64 : n ≤ 64
    · have e := tree_and n h0 h64
      have h0' : (0 : Int) < (n : Int) := by omega
      have h64' : (n : Int) ≤ 64 := by omega
      go_enter Tryd.func24, Tryd.ntmps24
      go_wp2_with fail
      go_ret
      exact ⟨rfl, rfl⟩
    · have e := tree_gt n h64
      have h0' : (0 : Int) < (n : Int) := by omega
      have h64' : ¬ (n : Int) ≤ 64 := by omega
      go_enter Tryd.func24, Tryd.ntmps24
      go_wp2_with fail
      go_ret
      exact ⟨rfl, rfl⟩
  · obtain rfl : n = 0 := by omega
    go_enter Tryd.func24, Tryd.ntmps24
    go_wp2_with fail
    go_ret
    exact ⟨rfl, rfl⟩

set_option maxHeartbeats 400000 in
set_option maxRecDepth 100000 in
theorem isBehind_any (w : World) (i k : Nat) (hi : i < 4294967296) (hk : k < 63) :
    Calls Tryd.prog 27 #[.int .i64 i, .int .i64 k] w fun e w' => e = .returned (.bool (i / 2 ^ k % 2 == 1)) ∧ w = w' := by
  have b1 : (0 : Int) ≤ (k : Int) := by omega
  have b2 : (k : Int) < 64 := by omega
  have e : (bits .and .i64 ((i : Int) / 2 ^ k) 1 == 1) = (i / 2 ^ k % 2 == 1) := by
    have h1 : i / 2 ^ k < 9223372036854775808 := Nat.lt_of_le_of_lt (Nat.div_le_self _ _) (by omega)
    have h2 := and_one_i64 (i / 2 ^ k) h1
    have h3 : ((i / 2 ^ k : Nat) : Int) = (i : Int) / 2 ^ k := by simp
    rw [h3] at h2
    rw [h2, Bool.eq_iff_iff]
    simp
    omega
  go_enter Tryd.func27, Tryd.ntmps27
  go_wp2_with fail
  go_ret
  exact ⟨rfl, rfl⟩

/-- a list of texts, some of its first ones in the level above, being filled -/
theorem aboveS_take_succ (k : Nat) (L : List ByteArray) (a b : ByteArray) (h1 : L[2 * k]? = some a) (h2 : L[2 * k + 1]? = some b) : aboveS (L.take (2 * (k + 1))) = aboveS (L.take (2 * k)) ++ [nodeS a b] := by
  have hl := (List.getElem?_eq_some_iff.1 h2).1
  have e : L.take (2 * (k + 1)) = L.take (2 * k) ++ [a, b] := by
    rw [show 2 * (k + 1) = 2 * k + 1 + 1 from by omega, List.take_add_one, h2, List.take_add_one, h1]
    simp
  rw [e, aboveS_append k _ _ (by rw [List.length_take]; omega)]
  rfl

set_option maxHeartbeats 800000 in
set_option maxRecDepth 100000 in
theorem mabove_any (v : Value) (L : List ByteArray) (N : Nat) (hN : L.length = 2 * N) (hN2 : N ≤ 64) (hs : ∀ s ∈ L, s.size ≤ 1000000000000) (w : World) (hv : StrsAt w v L) (hr : ShaReady w) :
    Calls Tryd.prog 25 #[v] w fun e w' => ∃ v', e = .returned v' ∧ w'.ownsRow w.heap.size 9 1 v' N (strsV (aboveS L)) ∧ w.grownBy w' none := by
  obtain ⟨i0, hi, hz0, hz1, hz2⟩ := info_parts infoStrW
  have HR := Lib.hid hr
  have HV := Lib.hid hv
  have HS := Lib.hid hs
  have HN := Lib.hid hN
  obtain ⟨av, cv, rfl⟩ := hv.form
  obtain ⟨M, hM⟩ : ∃ M, 2 * N = M := ⟨_, rfl⟩
  rw [hN, hM] at HV ⊢
  have hq : (M : Int) / 2 = (N : Int) := by omega
  have HM := Lib.hid hM
  clear hr hv hs hN hM
  go_enter Tryd.func25, Tryd.ntmps25
  go_wp2_with (at_make; refine wpList_make_full _ rfl _ _ 22 rfl w.heap.size 9 i0 (.string ⟨#[]⟩) 1 Tryd.underlying22 hi hz0 hz1 _ _ _ _ N rfl rfl rfl rfl ?c1 ?c2 ?c3 ?_)
  case c1 => rw [hz2]; omega
  case c2 => unfold maxLen; omega
  case c3 => exact Nat.le_refl _
  intro w2 hown hg
  have hm : (madeCells #[Value.string ⟨#[]⟩] N).toList = strsV (fillS (aboveS (L.take (2 * 0))) N) := made_strs N
  rw [hm] at hown
  have HO2 := Lib.hid hown
  have G2 := Lib.hid hg
  clear hown hg hm
  go_wp2_with fail
  go_loopw [4, 12] (fun _ iv wr => ∃ k : Nat, k ≤ N ∧ iv = .int .i64 k ∧ Hid (wr.ownsRow w.heap.size 9 1 (.slice (some ⟨w.heap.size, 0, none⟩) N N) N (strsV (fillS (aboveS (L.take (2 * k))) N))) ∧ Hid (w.grownBy wr none)) (fun _ iv _ => N - (intOf iv).toNat)
  case atStart => exact ⟨0, by omega, rfl, HO2.out, G2.out⟩
  case round =>
    clear HO2 G2
    obtain ⟨k, hk, rfl, HK, HG⟩ := hrel
    by_cases hlt : k < N
    · obtain ⟨x, hx⟩ : ∃ x, L[2 * k]? = some x := ⟨_, List.getElem?_eq_getElem (by rw [HN.out]; omega)⟩
      obtain ⟨y, hy⟩ : ∃ y, L[2 * k + 1]? = some y := ⟨_, List.getElem?_eq_getElem (by rw [HN.out]; omega)⟩
      have hvr := HV.out.grown HG.out
      obtain ⟨gv, ov, rfl, hcx⟩ := hvr.at_ _ x hx
      obtain ⟨gv', ov', he, hcy⟩ := hvr.at_ _ y hy
      obtain ⟨rfl, rfl⟩ : gv = gv' ∧ ov = ov' := by cases he; exact ⟨rfl, rfl⟩
      have HE : Hid (aboveS (L.take (2 * (k + 1))) = aboveS (L.take (2 * k)) ++ [nodeS x y]) := aboveS_take_succ k L x y hx hy
      have sx := HS.out x (List.mem_of_getElem? hx)
      have sy := HS.out y (List.mem_of_getElem? hy)
      have hel := aboveS_length k (L.take (2 * k)) (by rw [List.length_take, HN.out]; omega)
      have HXX := Lib.hid hx
      clear hx hy hvr he
      have b1 : (0 : Int) ≤ (k : Int) := by omega
      have b2 : (k : Int) < (N : Int) := by omega
      have b3 : 2 * (k : Int) + 1 < (M : Int) := by have := HM.out; omega
      have b4 : 2 * (k : Int) < (M : Int) := by omega
      have b5 : (0 : Int) ≤ 2 * (k : Int) := by omega
      have b6 : (0 : Int) ≤ 2 * (k : Int) + 1 := by omega
      have t1 : (2 * (k : Int)).toNat = 2 * k := by omega
      have t2 : (2 * (k : Int) + 1).toNat = 2 * k + 1 := by omega
      have r1 : IntKind.i64.wrap (2 * (k : Int)) = 2 * (k : Int) := IntWalk.i64_in _ (by omega)
      have r2 : IntKind.i64.wrap (2 * (k : Int) + 1) = 2 * (k : Int) + 1 := IntWalk.i64_in _ (by omega)
      have HNX : Hid (∀ w0, ShaReady w0 → Calls Tryd.prog 13 #[.string x, .string y] w0 fun e w' => e = .returned (.string (nodeS x y)) ∧ w0.grownBy w' none) := fun w0 h => node_any x y sx sy w0 h
      have HGG := Lib.hid (HR.out.grown HG.out)
      have hgv : w.heap.size ≠ gv := by
        obtain ⟨g', o', he, hc'⟩ := HV.out.at_ _ x HXX.out
        cases he
        have := cell_lt hc'
        omega
      have hat := fillS_at (aboveS (L.take (2 * k))) N (by omega)
      have hput := fillS_put (aboveS (L.take (2 * k))) N (nodeS x y) (by omega)
      rw [hel] at hat hput
      have HP := Lib.hid hput
      have HAT := Lib.hid hat
      clear hat hput hel
      generalize nodeS x y = S at HNX HE HP
      generalize aboveS (L.take (2 * k)) = A at HK HE HP HAT
      go_wp2_with fail
      go_region_held3 (fun w' => w'.cell? ⟨gv, ov + 2 * k, none⟩ = some (.string x) ∧ w'.cell? ⟨gv, ov + (2 * k + 1), none⟩ = some (.string y)) (first | exact ck | exact ⟨hcx, hcy⟩ | exact ⟨cell_ne hgv ck.1, cell_ne hgv ck.2⟩)
        ((go_at_call 13; (with_reducible refine (HNX.out _ (HGG.out.grown (grownBy_drew (World.grownBy.refl _ _)))).mono ?_); rintro e w6 ⟨rfl, g6⟩; have ck : w6.cell? ⟨gv, ov + 2 * k, none⟩ = some (.string x) ∧ w6.cell? ⟨gv, ov + (2 * k + 1), none⟩ = some (.string y) := ⟨g6.cell hcx (by simp), g6.cell hcy (by simp)⟩; have HK6 := Lib.hid (own_kept (World.ownsRow.drew HK.out) g6); have hf6 := HK6.out.frozenAt k; have hc6 : w6.cell? ⟨w.heap.size, k, none⟩ = some (.string ⟨#[]⟩) := (HK6.out.cellAt k (by omega)).trans HAT.out))
      go_wp2_with fail
      go_roundw
      case rel =>
        refine ⟨k + 1, by omega, by go_num, ?_, grownBy_setNew (grownBy_trans HG.out (undrew g6)) (Nat.le_refl _) _ _⟩
        show World.ownsRow _ _ _ _ _ _ _
        rw [HE.out, ← HP.out]
        exact (HK6.out.stored _ _).1
      case measure => simp [intOf]; omega
    · obtain rfl : k = N := by omega
      have hown := HK.out
      have hl := aboveS_length k L (by rw [HN.out])
      rw [List.take_of_length_le (by rw [HN.out]; exact Nat.le_refl _), fillS_full _ k hl] at hown
      have HOW := Lib.hid hown
      clear hown HK
      go_wp2_with fail
      go_ret
      exact ⟨_, rfl, HOW.out, HG.out⟩
end Go.Proofs.YtmdogeampigfoaaDoor
