/- The walks of wots.Public, Sign, Recover. · The walks of merkle.Node, isTree, above, isBehind. · The walks of merkle.Root, Path, Climb. · The walk of merkle.Path. · The walks of wots.Sign, Recover. · The walks of xmss.New, Count, Public, digest. · Out of the listed variables: package sha's two tables in memory; and a world for the witness. -/
import Derived.Test.YtbhoeiopckmfhaaGreatDoorTopBandsB7
import Derived.Test.YtbhoeiopckmfhaaGreatDoorTopBandsB2
import Derived.Deep.LoopGhost
import Derived.Test.YtbhoeiopckmfhaaGreatDoorTopBandsB3
import Derived.Deep.RegionHeld3
import Derived.Deep.QuietTactic
import Derived.BigQuiet
import Derived.IntWalk
import Derived.Test.YtbhoeiopckmfhaaGreatDoorTopBandsB1
import Derived.Handy
import Derived.Test.YtbhoeiopckmfhaaGreatDoorCards
import Derived.Test.YtbhoeiopckmfhaaGreatDoorTie
import Derived.Test.YtbhoeiopckmfhaaGreatDoorShaCalls
import Derived.Lib.LaidIn
import Derived.Lib.LaidU8T
import Derived.Deep.DeepHandedRow
import Derived.Deep.DeepWitnessRowRef
import Derived.ProofKit
import Derived.OpenShut
import Derived.ShutString
namespace Go.Proofs.YtbhoeiopckmfhaaGreatDoor
open Go.RowKit
attribute [local irreducible] shaL

set_option maxHeartbeats 800000 in
set_option maxRecDepth 100000 in
theorem publicOf_any (o : ByteArray) (leaf : Nat) (v : Value) (L : List ByteArray) (ho : o.size ≤ 1000000000000) (hl : leaf ≤ 4294967295) (hN : L.length ≤ 900) (hN0 : 0 < L.length) (hs : ∀ s ∈ L, s.size ≤ 1000000000000) (w : World) (hv : StrsAt w v L) (hr : ShaReady w) :
    Calls Tryz.prog 149 #[.string o, .int .i64 leaf, v] w fun e w' => e = .returned (.string (publicOfS o leaf L)) ∧ w.grownBy w' none := by
  obtain ⟨i0, hi, hz0, hz1, hz2⟩ := info_parts infoStrW
  have HR := Lib.hid hr
  have HV := Lib.hid hv
  have hp := Lib.hid (place_any leaf 0 0 0 0 hl (by decide) (by decide) rfl rfl w)
  obtain ⟨a, cap, rfl⟩ := hv.form
  obtain ⟨g, oo, rfl, -⟩ := hv.at_ 0 _ (List.getElem?_eq_getElem hN0)
  have HSZ := Lib.hid hs
  clear hr hv hs
  go_enter Tryz.func149, Tryz.ntmps149
  go_wp2_with fail
  refine hp.out.mono ?_
  rintro e w1 ⟨rfl, g1⟩
  have G1 := Lib.hid g1
  clear g1
  have ho2 : Hid ((w1.alloc (.cells #[.string o, .string (placeS leaf 0 0)] 9)).ownsRow w.heap.size 9 1 (.slice (some ⟨w1.heap.size, 0, none⟩) 2 2) 2 [.string o, .string (placeS leaf 0 0)]) :=
    World.ownsRow_lit w1 #[.string o, .string (placeS leaf 0 0)] 2 G1.out.size (by unfold maxLen; omega) rfl
  have HV2 := Lib.hid ((HV.out.grown G1.out).grown (World.grownBy_alloc _ (.cells #[.string o, .string (placeS leaf 0 0)] 9) none))
  go_wp2_with (at_builtin; refine wpList_append_own _ rfl _ _ 33 rfl w.heap.size 9 i0 (.string ⟨#[]⟩) 1 16 Tryz.underlying33 hi hz0 hz1 hz2 rfl (by decide) _ _ _ rfl ho2.out ⟨g, oo, none⟩ L.length cap (strsV L) rfl (by rw [strsV_length, Nat.mul_one]) ?q1 ?q2 ?q3 ?q4 ?q5 ?_)
  case q1 => exact HV2.out.news
  case q2 => exact strsV_one L
  case q3 => unfold maxLen; omega
  case q4 => omega
  case q5 => have := G1.out.size; simp; omega
  intro v' w2 hown2 hg2 _
  obtain ⟨a', cap', rfl⟩ := slice_own' hown2
  have HG2 : Hid (w.grownBy w2 none) := grownBy_below (((below_grownBy G1.out).alloc G1.out.size _).grown hg2 (by have := G1.out.size; simp; omega) (fun r hr => by cases hr; exact G1.out.size))
  have HS2 : Hid (StrsAt w2 (.slice a' (2 + L.length) cap') ([o, placeS leaf 0 0] ++ L)) := strs_own (n := 2 + L.length) (by simpa [strsV] using hown2)
  clear hown2 hg2 ho2 HV2 G1
  have hn2 : ([o, placeS leaf 0 0] ++ L).length = 2 + L.length := by simp; omega
  have hall : ∀ s ∈ [o, placeS leaf 0 0] ++ L, s.size ≤ 1000000000000 := by
    intro s hs'
    simp only [List.cons_append, List.nil_append, List.mem_cons] at hs'
    rcases hs' with rfl | rfl | h
    · exact ho
    · rw [placeS_size]; omega
    · exact HSZ.out s h
  have hlen : (tagB 4 ([o, placeS leaf 0 0] ++ L)).length ≤ 100000000000000000 := by
    have h1 := tagB_length 4 _ _ hall
    have h2 : ([o, placeS leaf 0 0] ++ L).length * (4 + 1000000000000) ≤ 1000 * (4 + 1000000000000) := Nat.mul_le_mul_right _ (by rw [hn2]; omega)
    omega
  have ht := Lib.hid (tagged_any w2 4 _ _ HS2.out (HR.out.grown HG2.out) (by rw [hn2]; unfold maxLen; omega) hlen)
  clear hn2 hall hlen
  go_wp2_with fail
  refine ht.out.mono ?_
  rintro e w3 ⟨rfl, g3⟩
  have G3 := Lib.hid (grownBy_trans HG2.out g3)
  clear g3
  go_wp2_with fail
  go_ret
  exact ⟨rfl, G3.out⟩

set_option maxHeartbeats 800000 in
set_option maxRecDepth 100000 in
theorem wpublic_any (seed : ByteArray) (leaf : Nat) (hs : seed.size ≤ 1000000000000) (hl : leaf ≤ 4294967295) (w : World) (hr : ShaReady w) :
    Calls Tryz.prog 125 #[.string seed, .int .i64 leaf] w fun e w' => e = .returned (.string (publicS seed leaf)) ∧ w.grownBy w' none := by
  obtain ⟨i0, hi, hz0, hz1, hz2⟩ := info_parts infoStrW
  have HR := Lib.hid hr
  have hop := Lib.hid (wopen_any seed hs w hr)
  have hosz := openS_size seed
  clear hr
  have HPD : Hid (publicS seed leaf = publicOfS (openS seed) leaf (endsS seed leaf 35)) := rfl
  obtain ⟨o, hO⟩ : ∃ o, openS seed = o := ⟨_, rfl⟩
  rw [hO] at hosz hop HPD
  have HO := Lib.hid hO
  clear hO
  go_enter Tryz.func125, Tryz.ntmps125
  go_wp2_with fail
  refine hop.out.mono ?_
  rintro e w1 ⟨rfl, g1⟩
  have G1 := Lib.hid g1
  clear g1
  go_wp2_with (at_make; refine wpList_make_full _ rfl _ _ 33 rfl w.heap.size 9 i0 (.string ⟨#[]⟩) 1 Tryz.underlying33 hi hz0 hz1 _ _ _ _ 35 rfl rfl rfl rfl ?c1 ?c2 ?c3 ?_)
  case c1 => rw [hz2]; omega
  case c2 => unfold maxLen; omega
  case c3 => exact G1.out.size
  intro w2 hown hg
  have hm : (madeCells #[Value.string ⟨#[]⟩] 35).toList = strsV (fillS (endsS seed leaf 0) 35) := made_strs 35
  rw [hm] at hown
  have HO2 := Lib.hid hown
  have G2 := Lib.hid (grownBy_trans G1.out hg)
  have hB1 := G1.out.size
  clear hown hg hm G1
  obtain ⟨B, hB⟩ : ∃ B, w1.heap.size = B := ⟨_, rfl⟩
  rw [hB] at HO2 hB1 ⊢
  clear hB hop
  go_wp2_with fail
  go_loopw [7, 13] (fun _ iv wr => ∃ k : Nat, k ≤ 35 ∧ iv = .int .i64 k ∧ Hid (wr.ownsRow w.heap.size 9 1 (.slice (some ⟨B, 0, none⟩) 35 35) 35 (strsV (fillS (endsS seed leaf k) 35))) ∧ Hid (w.grownBy wr none)) (fun _ iv _ => 35 - (intOf iv).toNat)
  case atStart => exact ⟨0, by omega, rfl, HO2.out, G2.out⟩
  case round =>
    clear HO2 G2
    obtain ⟨k, hk, rfl, HK, HG⟩ := hrel
    by_cases hlt : k < 35
    · have hsec := Lib.hid (secret_any seed leaf k hs hl (by omega) wr (HR.out.grown HG.out))
      have b1 : (0 : Int) ≤ (k : Int) := by omega
      go_wp2_with fail
      refine hsec.out.mono ?_
      rintro e w3 ⟨rfl, g3⟩
      have G3 := Lib.hid (grownBy_trans HG.out g3)
      have HK3 := Lib.hid (own_kept HK.out g3)
      clear g3 HK hsec HG
      have hwk := Lib.hid (wwalk_any o (secretS seed leaf k) leaf k 0 15 (by rw [hosz]; omega) (by rw [secretS_size]; omega) hl (by omega) (by omega) (by omega) w3 (HR.out.grown G3.out))
      go_wp2_with fail
      refine hwk.out.mono ?_
      rintro e w4 ⟨rfl, g4⟩
      have G4 := Lib.hid (grownBy_trans G3.out g4)
      have HK4 := Lib.hid (own_kept HK3.out g4)
      clear g4 HK3 hwk G3
      have hel := endsS_length seed leaf k
      have hc := HK4.out.cellAt k (by omega)
      have hat := fillS_at (endsS seed leaf k) 35 (by omega)
      have hput := fillS_put (endsS seed leaf k) 35 (walkZ o leaf k 0 15 (secretS seed leaf k)) (by omega)
      rw [hel] at hat hput
      rw [hat] at hc
      have hf := HK4.out.frozenAt k
      have HP := Lib.hid hput
      have HE : Hid (endsS seed leaf (k + 1) = endsS seed leaf k ++ [walkZ o leaf k 0 15 (secretS seed leaf k)]) := by
        show _ = _
        rw [endsS, HO.out]
        rfl
      clear hat hput hel
      generalize walkZ o leaf k 0 15 (secretS seed leaf k) = S at HP HE ⊢
      go_wp2_with fail
      go_roundw
      case rel =>
        refine ⟨k + 1, by omega, by go_num, ?_, grownBy_setNew G4.out hB1 _ _⟩
        show World.ownsRow _ _ _ _ _ _ _
        rw [HE.out, ← HP.out]
        exact (HK4.out.stored _ _).1
      case measure => simp [intOf]; omega
    · have : k = 35 := by omega
      subst this
      have hown := HK.out
      rw [fillS_full _ 35 (endsS_length seed leaf 35)] at hown
      have hst := strs_own hown
      have hpo := Lib.hid (publicOf_any o leaf _ (endsS seed leaf 35) (by rw [hosz]; omega) hl (by rw [endsS_length]; omega) (by rw [endsS_length]; omega) (fun s h => by rw [endsS_all seed leaf 35 s h]; omega) wr hst (HR.out.grown HG.out))
      clear hown hst HK
      go_wp2_with fail
      refine hpo.out.mono ?_
      rintro e w3 ⟨rfl, g3⟩
      have G3 := Lib.hid (grownBy_trans HG.out g3)
      clear g3
      rw [← HPD.out]
      go_wp2_with fail
      go_ret
      exact ⟨rfl, G3.out⟩
end Go.Proofs.YtbhoeiopckmfhaaGreatDoor

namespace Go.Proofs.YtbhoeiopckmfhaaGreatDoor
open Go.RowKit
attribute [local irreducible] shaL

set_option maxHeartbeats 400000 in
set_option maxRecDepth 100000 in
theorem node_any (a b : ByteArray) (ha : a.size ≤ 1000000000000) (hb : b.size ≤ 1000000000000) (w : World) (hr : ShaReady w) :
    Calls Tryz.prog 151 #[.string a, .string b] w fun e w' => e = .returned (.string (nodeS a b)) ∧ w.grownBy w' none := by
  have ht := Lib.hid (tagged_new w 5 [a, b] _ 2 5 rfl rfl rfl hr (by simp) (by
    intro s hs'
    simp at hs'
    rcases hs' with rfl | rfl <;> assumption))
  clear hr
  go_enter Tryz.func151, Tryz.ntmps151
  go_wp2_with fail
  refine ht.out.mono ?_
  rintro e w1 ⟨rfl, g1⟩
  have G1 := Lib.hid g1
  clear g1
  go_wp2_with fail
  go_ret
  exact ⟨rfl, G1.out⟩

def treeB (n : Nat) : Bool := decide (n ∈ [1, 2, 4, 8, 16, 32, 64])
theorem undrew {w w' : World} {row : Option Nat} (g : w.drew.grownBy w' row) : w.grownBy w' row := ⟨g.os, g.tape, g.output, g.size, g.block⟩
theorem cell_ne {w : World} {g o b j : Nat} {v u : Value} (hg : b ≠ g) (h : w.cell? ⟨g, o, none⟩ = some v) : (w.setCell ⟨b, j, none⟩ u).cell? ⟨g, o, none⟩ = some v := by
  rw [← h]
  simp only [World.cell?, heap_setCell_ne w b j u hg]
theorem tree_all : ((List.range 65).all fun k => (k == 0) || ((bits .and .i64 (k : Int) ((k : Int) - 1) == 0) == treeB k)) = true := by decide +kernel
theorem tree_and (n : Nat) (h0 : 0 < n) (h : n ≤ 64) : (bits .and .i64 (n : Int) ((n : Int) - 1) == 0) = treeB n := by
  have := List.all_eq_true.1 tree_all n (List.mem_range.2 (by omega))
  rw [Bool.or_eq_true] at this
  rcases this with e | e
  · simp at e; omega
  · exact eq_of_beq e
theorem tree_gt (n : Nat) (h : ¬ n ≤ 64) : treeB n = false := by
  unfold treeB
  simp
  omega

set_option maxHeartbeats 400000 in
set_option maxRecDepth 100000 in
theorem isTree_any (w : World) (a : Option Addr) (n cap : Nat) :
    Calls Tryz.prog 163 #[.slice a n cap] w fun e w' => e = .returned (.bool (treeB n)) ∧ w = w' := by
  by_cases h0 : 0 < n
  · by_cases h64 : n ≤ 64
    · have e := tree_and n h0 h64
      have h0' : (0 : Int) < (n : Int) := by omega
      have h64' : (n : Int) ≤ 64 := by omega
      go_enter Tryz.func163, Tryz.ntmps163
      go_wp2_with fail
      go_ret
      exact ⟨rfl, rfl⟩
    · have e := tree_gt n h64
      have h0' : (0 : Int) < (n : Int) := by omega
      have h64' : ¬ (n : Int) ≤ 64 := by omega
      go_enter Tryz.func163, Tryz.ntmps163
      go_wp2_with fail
      go_ret
      exact ⟨rfl, rfl⟩
  · obtain rfl : n = 0 := by omega
    go_enter Tryz.func163, Tryz.ntmps163
    go_wp2_with fail
    go_ret
    exact ⟨rfl, rfl⟩

set_option maxHeartbeats 400000 in
set_option maxRecDepth 100000 in
theorem isBehind_any (w : World) (i k : Nat) (hi : i < 4294967296) (hk : k < 63) :
    Calls Tryz.prog 150 #[.int .i64 i, .int .i64 k] w fun e w' => e = .returned (.bool (i / 2 ^ k % 2 == 1)) ∧ w = w' := by
  have b1 : (0 : Int) ≤ (k : Int) := by omega
  have b2 : (k : Int) < 64 := by omega
  have e : (bits .and .i64 ((i : Int) / 2 ^ k) 1 == 1) = (i / 2 ^ k % 2 == 1) := by
    have h1 : i / 2 ^ k < 9223372036854775808 := Nat.lt_of_le_of_lt (Nat.div_le_self _ _) (by omega)
    have h2 := and_one_i64 (i / 2 ^ k) h1
    have h3 : ((i / 2 ^ k : Nat) : Int) = (i : Int) / 2 ^ k := by simp
    rw [h3] at h2
    rw [h2, Bool.eq_iff_iff]
    simp
    omega
  go_enter Tryz.func150, Tryz.ntmps150
  go_wp2_with fail
  go_ret
  exact ⟨rfl, rfl⟩

/-- a list of texts, some of its first ones in the level above, being filled -/
theorem aboveS_take_succ (k : Nat) (L : List ByteArray) (a b : ByteArray) (h1 : L[2 * k]? = some a) (h2 : L[2 * k + 1]? = some b) : aboveS (L.take (2 * (k + 1))) = aboveS (L.take (2 * k)) ++ [nodeS a b] := by
  have hl := (List.getElem?_eq_some_iff.1 h2).1
  have e : L.take (2 * (k + 1)) = L.take (2 * k) ++ [a, b] := by
    rw [show 2 * (k + 1) = 2 * k + 1 + 1 from by omega, List.take_add_one, h2, List.take_add_one, h1]
    simp
  rw [e, aboveS_append k _ _ (by rw [List.length_take]; omega)]
  rfl

set_option maxHeartbeats 800000 in
set_option maxRecDepth 100000 in
theorem mabove_any (v : Value) (L : List ByteArray) (N : Nat) (hN : L.length = 2 * N) (hN2 : N ≤ 64) (hs : ∀ s ∈ L, s.size ≤ 1000000000000) (w : World) (hv : StrsAt w v L) (hr : ShaReady w) :
    Calls Tryz.prog 164 #[v] w fun e w' => ∃ v', e = .returned v' ∧ w'.ownsRow w.heap.size 9 1 v' N (strsV (aboveS L)) ∧ w.grownBy w' none := by
  obtain ⟨i0, hi, hz0, hz1, hz2⟩ := info_parts infoStrW
  have HR := Lib.hid hr
  have HV := Lib.hid hv
  have HS := Lib.hid hs
  have HN := Lib.hid hN
  obtain ⟨av, cv, rfl⟩ := hv.form
  obtain ⟨M, hM⟩ : ∃ M, 2 * N = M := ⟨_, rfl⟩
  rw [hN, hM] at HV ⊢
  have hq : (M : Int) / 2 = (N : Int) := by omega
  have HM := Lib.hid hM
  clear hr hv hs hN hM
  go_enter Tryz.func164, Tryz.ntmps164
  go_wp2_with (at_make; refine wpList_make_full _ rfl _ _ 33 rfl w.heap.size 9 i0 (.string ⟨#[]⟩) 1 Tryz.underlying33 hi hz0 hz1 _ _ _ _ N rfl rfl rfl rfl ?c1 ?c2 ?c3 ?_)
  case c1 => rw [hz2]; omega
  case c2 => unfold maxLen; omega
  case c3 => exact Nat.le_refl _
  intro w2 hown hg
  have hm : (madeCells #[Value.string ⟨#[]⟩] N).toList = strsV (fillS (aboveS (L.take (2 * 0))) N) := made_strs N
  rw [hm] at hown
  have HO2 := Lib.hid hown
  have G2 := Lib.hid hg
  clear hown hg hm
  go_wp2_with fail
  go_loopw [4, 12] (fun _ iv wr => ∃ k : Nat, k ≤ N ∧ iv = .int .i64 k ∧ Hid (wr.ownsRow w.heap.size 9 1 (.slice (some ⟨w.heap.size, 0, none⟩) N N) N (strsV (fillS (aboveS (L.take (2 * k))) N))) ∧ Hid (w.grownBy wr none)) (fun _ iv _ => N - (intOf iv).toNat)
  case atStart => exact ⟨0, by omega, rfl, HO2.out, G2.out⟩
  case round =>
    clear HO2 G2
    obtain ⟨k, hk, rfl, HK, HG⟩ := hrel
    by_cases hlt : k < N
    · obtain ⟨x, hx⟩ : ∃ x, L[2 * k]? = some x := ⟨_, List.getElem?_eq_getElem (by rw [HN.out]; omega)⟩
      obtain ⟨y, hy⟩ : ∃ y, L[2 * k + 1]? = some y := ⟨_, List.getElem?_eq_getElem (by rw [HN.out]; omega)⟩
      have hvr := HV.out.grown HG.out
      obtain ⟨gv, ov, rfl, hcx⟩ := hvr.at_ _ x hx
      obtain ⟨gv', ov', he, hcy⟩ := hvr.at_ _ y hy
      obtain ⟨rfl, rfl⟩ : gv = gv' ∧ ov = ov' := by cases he; exact ⟨rfl, rfl⟩
      have HE : Hid (aboveS (L.take (2 * (k + 1))) = aboveS (L.take (2 * k)) ++ [nodeS x y]) := aboveS_take_succ k L x y hx hy
      have sx := HS.out x (List.mem_of_getElem? hx)
      have sy := HS.out y (List.mem_of_getElem? hy)
      have hel := aboveS_length k (L.take (2 * k)) (by rw [List.length_take, HN.out]; omega)
      have HXX := Lib.hid hx
      clear hx hy hvr he
      have b1 : (0 : Int) ≤ (k : Int) := by omega
      have b2 : (k : Int) < (N : Int) := by omega
      have b3 : 2 * (k : Int) + 1 < (M : Int) := by have := HM.out; omega
      have b4 : 2 * (k : Int) < (M : Int) := by omega
      have b5 : (0 : Int) ≤ 2 * (k : Int) := by omega
      have b6 : (0 : Int) ≤ 2 * (k : Int) + 1 := by omega
      have t1 : (2 * (k : Int)).toNat = 2 * k := by omega
      have t2 : (2 * (k : Int) + 1).toNat = 2 * k + 1 := by omega
      have r1 : IntKind.i64.wrap (2 * (k : Int)) = 2 * (k : Int) := IntWalk.i64_in _ (by omega)
      have r2 : IntKind.i64.wrap (2 * (k : Int) + 1) = 2 * (k : Int) + 1 := IntWalk.i64_in _ (by omega)
      have HNX : Hid (∀ w0, ShaReady w0 → Calls Tryz.prog 151 #[.string x, .string y] w0 fun e w' => e = .returned (.string (nodeS x y)) ∧ w0.grownBy w' none) := fun w0 h => node_any x y sx sy w0 h
      have HGG := Lib.hid (HR.out.grown HG.out)
      have hgv : w.heap.size ≠ gv := by
        obtain ⟨g', o', he, hc'⟩ := HV.out.at_ _ x HXX.out
        cases he
        have := cell_lt hc'
        omega
      have hat := fillS_at (aboveS (L.take (2 * k))) N (by omega)
      have hput := fillS_put (aboveS (L.take (2 * k))) N (nodeS x y) (by omega)
      rw [hel] at hat hput
      have HP := Lib.hid hput
      have HAT := Lib.hid hat
      clear hat hput hel
      generalize nodeS x y = S at HNX HE HP
      generalize aboveS (L.take (2 * k)) = A at HK HE HP HAT
      go_wp2_with fail
      go_region_held3 (fun w' => w'.cell? ⟨gv, ov + 2 * k, none⟩ = some (.string x) ∧ w'.cell? ⟨gv, ov + (2 * k + 1), none⟩ = some (.string y)) (first | exact ck | exact ⟨hcx, hcy⟩ | exact ⟨cell_ne hgv ck.1, cell_ne hgv ck.2⟩)
        ((go_at_call 151; (with_reducible refine (HNX.out _ (HGG.out.grown (grownBy_drew (World.grownBy.refl _ _)))).mono ?_); rintro e w6 ⟨rfl, g6⟩; have ck : w6.cell? ⟨gv, ov + 2 * k, none⟩ = some (.string x) ∧ w6.cell? ⟨gv, ov + (2 * k + 1), none⟩ = some (.string y) := ⟨g6.cell hcx (by simp), g6.cell hcy (by simp)⟩; have HK6 := Lib.hid (own_kept (World.ownsRow.drew HK.out) g6); have hf6 := HK6.out.frozenAt k; have hc6 : w6.cell? ⟨w.heap.size, k, none⟩ = some (.string ⟨#[]⟩) := (HK6.out.cellAt k (by omega)).trans HAT.out))
      go_wp2_with fail
      go_roundw
      case rel =>
        refine ⟨k + 1, by omega, by go_num, ?_, grownBy_setNew (grownBy_trans HG.out (undrew g6)) (Nat.le_refl _) _ _⟩
        show World.ownsRow _ _ _ _ _ _ _
        rw [HE.out, ← HP.out]
        exact (HK6.out.stored _ _).1
      case measure => simp [intOf]; omega
    · obtain rfl : k = N := by omega
      have hown := HK.out
      have hl := aboveS_length k L (by rw [HN.out])
      rw [List.take_of_length_le (by rw [HN.out]; exact Nat.le_refl _), fillS_full _ k hl] at hown
      have HOW := Lib.hid hown
      clear hown HK
      go_wp2_with fail
      go_ret
      exact ⟨_, rfl, HOW.out, HG.out⟩
end Go.Proofs.YtbhoeiopckmfhaaGreatDoor

namespace Go.Proofs.YtbhoeiopckmfhaaGreatDoor
open Go.RowKit
attribute [local irreducible] shaL

theorem StrsAt.beside {w w' : World} {a : Option Addr} {n cap : Nat} {L : List ByteArray} {row : Option Nat} (h : StrsAt w (.slice a n cap) L) (hg : w.grownBy w' row) (hne : ∀ g o, a = some ⟨g, o, none⟩ → row ≠ some g) : StrsAt w' (.slice a n cap) L := by
  obtain ⟨a', cap', he, hc⟩ := h
  cases he
  refine ⟨a, cap, rfl, fun i hi => ?_⟩
  obtain ⟨g, o, rfl, hcell⟩ := hc i hi
  exact ⟨g, o, rfl, hg.cell hcell (fun e => hne g o rfl e.symm)⟩
def lenOf : Value → Nat
  | .slice _ n _ => n
  | _ => 0
theorem treeB_pow (h : Nat) (hh : h ≤ 6) : treeB (2 ^ h) = true := by
  have : h = 0 ∨ h = 1 ∨ h = 2 ∨ h = 3 ∨ h = 4 ∨ h = 5 ∨ h = 6 := by omega
  rcases this with rfl | rfl | rfl | rfl | rfl | rfl | rfl <;> rfl
theorem pow_le64 (h : Nat) (hh : h ≤ 6) : 2 ^ h ≤ 64 := Nat.pow_le_pow_right (n := 2) (by decide) hh

set_option maxHeartbeats 800000 in
set_option maxRecDepth 100000 in
theorem root_no (v : Value) (L : List ByteArray) (hN : treeB L.length = false) (w : World) (hv : StrsAt w v L) :
    Calls Tryz.prog 126 #[v] w fun e w' => e = .returned (.tuple #[.string ⟨#[]⟩, .int .i64 22]) ∧ w = w' := by
  obtain ⟨av, cv, rfl⟩ := hv.form
  have ht := isTree_any w av L.length cv
  rw [hN] at ht
  have HT := Lib.hid ht
  clear ht
  go_enter Tryz.func126, Tryz.ntmps126
  go_wp2_with fail
  refine HT.out.mono ?_
  rintro e w1 ⟨rfl, rfl⟩
  go_wp2_with fail
  go_ret2
  exact ⟨rfl, rfl⟩

set_option maxHeartbeats 800000 in
set_option maxRecDepth 100000 in
theorem root_ok (v : Value) (L : List ByteArray) (h : Nat) (hh : h ≤ 6) (hN : L.length = 2 ^ h) (hs : ∀ s ∈ L, s.size ≤ 1000000000000) (w : World) (hv : StrsAt w v L) (hr : ShaReady w) :
    Calls Tryz.prog 126 #[v] w fun e w' => e = .returned (.tuple #[.string (rootS h L), .int .i64 0]) ∧ w.grownBy w' none := by
  have HR := Lib.hid hr
  have HV := Lib.hid hv
  have HS := Lib.hid hs
  have HN := Lib.hid hN
  obtain ⟨av, cv, rfl⟩ := hv.form
  have ht := isTree_any w av L.length cv
  rw [hN, treeB_pow h hh] at ht
  have HT := Lib.hid ht
  rw [hN] at HV ⊢
  clear hr hv hs hN ht
  go_enter Tryz.func126, Tryz.ntmps126
  go_wp2_with fail
  refine HT.out.mono ?_
  rintro e w1 ⟨rfl, rfl⟩
  clear HT
  go_wp2_with fail
  go_loopw [0] (fun lv wr => ∃ (j : Nat) (M : List ByteArray), j ≤ h ∧ Hid (M.length = 2 ^ j) ∧ Hid (StrsAt wr lv M) ∧ Hid (rootS j M = rootS h L) ∧ Hid (∀ s ∈ M, s.size ≤ 1000000000000) ∧ Hid (w.grownBy wr none)) (fun lv _ => lenOf lv)
  case atStart => exact ⟨h, L, Nat.le_refl _, HN.out, HV.out, rfl, HS.out, World.grownBy.refl _ _⟩
  case round =>
    obtain ⟨j, M, hj, HM, HMV, HE, HMS, HG⟩ := hrel
    obtain ⟨am, cm, rfl⟩ := HMV.out.form
    have hml := HM.out
    rw [hml] at HMV ⊢
    clear hml
    cases j with
    | succ j =>
      obtain ⟨N, hN⟩ : ∃ N, 2 ^ j = N := ⟨_, rfl⟩
      have hp0 : 0 < 2 ^ j := Nat.pow_pos (by decide)
      have hp6 := pow_le64 j (by omega)
      have ha := mabove_any _ M (2 ^ j) (by rw [HM.out, pow_succ2]) hp6 HMS.out wr HMV.out (HR.out.grown HG.out)
      have hM2 := HM.out
      rw [pow_succ2, hN] at ha HMV hM2 ⊢
      rw [hN] at hp0 hp6
      have HA := Lib.hid ha
      have HN := Lib.hid hN
      clear ha hN HM
      have b1 : (1 : Int) < ((2 * N : Nat) : Int) := by omega
      go_wp2_with fail
      refine HA.out.mono ?_
      rintro e w2 ⟨v2, rfl, h2, g2⟩
      have hf : ∃ a c, v2 = .slice a N c := slice_own' h2
      obtain ⟨a2, c2, rfl⟩ := hf
      have HO2 := Lib.hid (strs_own h2)
      have G2 := Lib.hid (grownBy_trans HG.out g2)
      clear h2 g2
      go_wp2_with fail
      go_roundw
      case rel => exact ⟨j, aboveS M, by omega, (aboveS_length _ _ hM2).trans HN.out.symm, HO2.out, HE.out, fun s hs => by rw [aboveS_sizes _ s hs]; decide, G2.out⟩
      case measure => simp [lenOf]; omega
    | zero =>
      match M, HM with
      | [x], HM =>
        obtain ⟨g, o, rfl, hc⟩ := HMV.out.at_ 0 x rfl
        have HE2 : Hid (x = rootS h L) := HE.out
        clear HE HMV HMS
        rw [Nat.add_zero] at hc
        go_wp2_with fail
        go_ret2
        exact ⟨by rw [← HE2.out]; rfl, HG.out⟩
      | [], HM => exact absurd HM.out (by simp)
      | _ :: _ :: _, HM => exact absurd HM.out (by simp)

theorem climb_step (x b : ByteArray) (i k m : Nat) (hm : i / 2 ^ k % 2 = m) : stepC x (i / 2 ^ k) b = if m = 1 then nodeS b x else nodeS x b := by unfold stepC; rw [hm]
set_option maxHeartbeats 800000 in
set_option maxRecDepth 100000 in
theorem climb_any (x : ByteArray) (i : Nat) (v : Value) (P : List ByteArray) (hi : i < 4294967296) (hP : P.length ≤ 60) (hx : x.size ≤ 1000000000000) (hs : ∀ s ∈ P, s.size ≤ 1000000000000) (w : World) (hv : StrsAt w v P) (hr : ShaReady w) :
    Calls Tryz.prog 104 #[.string x, .int .i64 i, v] w fun e w' => e = .returned (.string (climbS x i P)) ∧ w.grownBy w' none := by
  have HR := Lib.hid hr
  have HV := Lib.hid hv
  have HS := Lib.hid hs
  obtain ⟨av, cv, rfl⟩ := hv.form
  clear hr hv hs
  go_enter Tryz.func104, Tryz.ntmps104
  go_wp2_with fail
  go_loopw [7, 8, 9, 13] (fun xv _ _ kv wr => ∃ (k : Nat) (y : ByteArray), k ≤ P.length ∧ kv = .int .i64 k ∧ xv = .string y ∧ Hid (y.size ≤ 1000000000000) ∧ Hid (climbS y (i / 2 ^ k) (P.drop k) = climbS x i P) ∧ Hid (w.grownBy wr none)) (fun _ _ _ kv _ => P.length - (intOf kv).toNat)
  case atStart => exact ⟨0, x, Nat.zero_le _, rfl, rfl, hx, by show _ = _; simp, World.grownBy.refl _ _⟩
  case round =>
    obtain ⟨k, y, hk, rfl, rfl, HY, HE, HG⟩ := hrel
    by_cases hlt : k < P.length
    · obtain ⟨b, hb⟩ : ∃ b, P[k]? = some b := ⟨_, List.getElem?_eq_getElem hlt⟩
      have hbs := HS.out b (List.mem_of_getElem? hb)
      have hvr := HV.out.grown HG.out
      obtain ⟨gv, ov, rfl, hcx⟩ := hvr.at_ _ b hb
      have hd : P.drop k = b :: P.drop (k + 1) := by
        rw [List.drop_eq_getElem_cons hlt]
        rw [List.getElem?_eq_getElem hlt] at hb
        cases hb
        rfl
      have HE2 : Hid (climbS (stepC y (i / 2 ^ k) b) (i / 2 ^ (k + 1)) (P.drop (k + 1)) = climbS x i P) := by
        have := HE.out
        rw [hd, climbS, Nat.div_div_eq_div_mul, ← Nat.pow_succ] at this
        exact this
      have hbh := Lib.hid (isBehind_any wr i k hi (by omega))
      have b1 : (0 : Int) ≤ (k : Int) := by omega
      have b2 : (k : Int) < (P.length : Int) := by omega
      clear hd hb hvr HE
      by_cases hm : i / 2 ^ k % 2 = 1
      · have hst := climb_step y b i k 1 hm
        rw [if_pos rfl] at hst
        have hbh2 := hbh.out
        rw [show (i / 2 ^ k % 2 == 1) = true from by simp [hm]] at hbh2
        have HB := Lib.hid hbh2
        rw [hst] at HE2
        have HND := Lib.hid (node_any b y hbs HY.out wr (HR.out.grown HG.out))
        clear hst hbh hbh2 hm
        go_wp2_with fail
        refine HB.out.mono ?_
        rintro e w1 ⟨rfl, rfl⟩
        clear HB
        go_wp2_with fail
        refine HND.out.mono ?_
        rintro e w2 ⟨rfl, g2⟩
        have G2 := Lib.hid (grownBy_trans HG.out g2)
        clear g2
        go_wp2_with fail
        go_roundw
        case rel => exact ⟨k + 1, _, by omega, by go_num, rfl, by show _ ≤ _; rw [nodeS_size]; decide, HE2.out, G2.out⟩
        case measure => simp [intOf]; omega
      · have hst := climb_step y b i k 0 (by omega)
        rw [if_neg (by decide)] at hst
        have hbh2 := hbh.out
        rw [show (i / 2 ^ k % 2 == 1) = false from by simp [hm]] at hbh2
        have HB := Lib.hid hbh2
        rw [hst] at HE2
        have HND := Lib.hid (node_any y b HY.out hbs wr (HR.out.grown HG.out))
        clear hst hbh hbh2 hm
        go_wp2_with fail
        refine HB.out.mono ?_
        rintro e w1 ⟨rfl, rfl⟩
        clear HB
        go_wp2_with fail
        refine HND.out.mono ?_
        rintro e w2 ⟨rfl, g2⟩
        have G2 := Lib.hid (grownBy_trans HG.out g2)
        clear g2
        go_wp2_with fail
        go_roundw
        case rel => exact ⟨k + 1, _, by omega, by go_num, rfl, by show _ ≤ _; rw [nodeS_size]; decide, HE2.out, G2.out⟩
        case measure => simp [intOf]; omega
    · have hE := HE.out
      rw [List.drop_of_length_le (by omega)] at hE
      have HE2 : Hid (y = climbS x i P) := hE
      clear hE HE
      go_wp2_with fail
      go_ret
      exact ⟨by rw [← HE2.out]; rfl, HG.out⟩
end Go.Proofs.YtbhoeiopckmfhaaGreatDoor

namespace Go.Proofs.YtbhoeiopckmfhaaGreatDoor
open Go.RowKit
attribute [local irreducible] shaL

set_option maxHeartbeats 800000 in
set_option maxRecDepth 100000 in
theorem path_no (v : Value) (L : List ByteArray) (i : Int) (hN : treeB L.length = false) (w : World) (hv : StrsAt w v L) :
    Calls Tryz.prog 139 #[v, .int .i64 i] w fun e w' => e = .returned (.tuple #[.slice none 0 0, .int .i64 22]) ∧ w = w' := by
  obtain ⟨av, cv, rfl⟩ := hv.form
  have ht := isTree_any w av L.length cv
  rw [hN] at ht
  have HT := Lib.hid ht
  clear ht
  go_enter Tryz.func139, Tryz.ntmps139
  go_wp2_with fail
  refine HT.out.mono ?_
  rintro e w1 ⟨rfl, rfl⟩
  go_wp2_with fail
  go_ret2
  exact ⟨rfl, rfl⟩

set_option maxHeartbeats 800000 in
set_option maxRecDepth 100000 in
theorem path_out (v : Value) (L : List ByteArray) (i : Int) (hN : treeB L.length = true) (hi : i < 0 ∨ (L.length : Int) ≤ i) (w : World) (hv : StrsAt w v L) :
    Calls Tryz.prog 139 #[v, .int .i64 i] w fun e w' => e = .returned (.tuple #[.slice none 0 0, .int .i64 10]) ∧ w = w' := by
  obtain ⟨av, cv, rfl⟩ := hv.form
  have ht := isTree_any w av L.length cv
  rw [hN] at ht
  have HT := Lib.hid ht
  clear ht
  by_cases h0 : i < 0
  · go_enter Tryz.func139, Tryz.ntmps139
    go_wp2_with fail
    refine HT.out.mono ?_
    rintro e w1 ⟨rfl, rfl⟩
    go_wp2_with fail
    go_ret2
    exact ⟨rfl, rfl⟩
  · have h1 : (L.length : Int) ≤ i := by omega
    go_enter Tryz.func139, Tryz.ntmps139
    go_wp2_with fail
    refine HT.out.mono ?_
    rintro e w1 ⟨rfl, rfl⟩
    go_wp2_with fail
    go_ret2
    exact ⟨rfl, rfl⟩

set_option maxHeartbeats 1600000 in
set_option maxRecDepth 100000 in
theorem path_ok (v : Value) (L : List ByteArray) (h i : Nat) (hh : h ≤ 6) (hN : L.length = 2 ^ h) (hi : i < 2 ^ h) (hs : ∀ s ∈ L, s.size ≤ 1000000000000) (w : World) (hv : StrsAt w v L) (hold : ∀ g o n c, v = .slice (some ⟨g, o, none⟩) n c → g < w.heap.size) (hr : ShaReady w) :
    Calls Tryz.prog 139 #[v, .int .i64 i] w fun e w' => ∃ v', e = .returned (.tuple #[v', .int .i64 0]) ∧ w'.ownsRow w.heap.size 9 1 v' h (strsV (pathS h L i)) ∧ w.grownBy w' none := by
  obtain ⟨i0, hti, hz0, hz1, hz2⟩ := info_parts infoStrW
  have HR := Lib.hid hr
  have HV := Lib.hid hv
  have HS := Lib.hid hs
  have HN := Lib.hid hN
  obtain ⟨av, cv, rfl⟩ := hv.form
  have HO := Lib.hid hold
  have ht := isTree_any w av L.length cv
  rw [hN, treeB_pow h hh] at ht
  have HT := Lib.hid ht
  rw [hN] at HV HO ⊢
  have HI := Lib.hid hi
  have b1 : (0 : Int) ≤ (i : Int) := by omega
  have b2 : (i : Int) < ((2 ^ h : Nat) : Int) := by omega
  clear hr hv hs hN ht hold hi
  obtain ⟨Z, hZ⟩ : ∃ Z, 2 ^ h = Z := ⟨_, rfl⟩
  have HZ := Lib.hid hZ
  rw [hZ] at HT HV HO b2 HI ⊢
  clear hZ
  go_enter Tryz.func139, Tryz.ntmps139
  go_wp2_with fail
  refine HT.out.mono ?_
  rintro e w1 ⟨rfl, rfl⟩
  clear HT
  go_wp2_with fail
  generalize Value.bool (decide ((i : Int) < 0) || decide (Z ≤ i)) = d2
  generalize Value.bool (decide (Z ≤ i)) = d1
  generalize Value.bool (decide ((i : Int) < 0)) = d3
  clear b1 b2
  go_loopw [0, 1, 6] (fun lv iv pv wr => ∃ (j k n : Nat) (M P : List ByteArray) (a pa : Option Addr) (c pc : Nat), j + n = h ∧ lv = .slice a (2 ^ j) c ∧ iv = .int .i64 k ∧ Hid (k < 2 ^ j) ∧ pv = .slice pa n pc ∧ Hid (M.length = 2 ^ j) ∧ Hid (StrsAt wr (.slice a (2 ^ j) c) M) ∧ Hid (P ++ pathS j M k = pathS h L i) ∧ Hid (∀ s ∈ M, s.size ≤ 1000000000000) ∧ Hid (wr.ownsRow w.heap.size 9 1 (.slice pa n pc) n (strsV P)) ∧ Hid (∀ g o, a = some ⟨g, o, none⟩ → (Value.slice pa n pc).ownBlock ≠ some g) ∧ Hid (w.grownBy wr none)) (fun lv _ _ _ => lenOf lv)
  case atStart => exact ⟨h, i, 0, L, [], av, none, cv, 0, rfl, by rw [HZ.out], rfl, by show _ < _; rw [HZ.out]; exact HI.out, rfl, HN.out, by rw [HZ.out]; exact HV.out, rfl, HS.out, World.ownsRow_nil _ _ _ _, fun g o e => by simp [Value.ownBlock], World.grownBy.refl _ _⟩
  case round =>
    clear HV HS HN HO
    obtain ⟨j, k, n, M, P, a, pa, c, pc, hjn, rfl, rfl, HK, rfl, HM, HMV, HE, HMS, HOW, HNE, HG⟩ := hrel
    cases j with
    | succ j =>
      obtain ⟨N, hN⟩ : ∃ N, 2 ^ j = N := ⟨_, rfl⟩
      have hp0 : 0 < 2 ^ j := Nat.pow_pos (by decide)
      have hp6 := pow_le64 j (by omega)
      have hM2 := HM.out
      have hk := HK.out
      rw [pow_succ2, hN] at HMV hM2 hk ⊢
      rw [hN] at hp0 hp6
      have HN := Lib.hid hN
      clear hN HM HK
      have x1 := xor1d k
      have x2 := xor1m k
      have hxk : k ^^^ 1 < 2 * N := by omega
      have hxb : bits .xor .i64 (k : Int) 1 = ((k ^^^ 1 : Nat) : Int) := bits_xor_i64_nat k 1 (by omega) (by decide)
      have hpe : pathS (j + 1) M k = M.getD (k ^^^ 1) ByteArray.empty :: pathS j (aboveS M) (k / 2) := rfl
      obtain ⟨x, hx⟩ : ∃ x, M[k ^^^ 1]? = some x := ⟨_, List.getElem?_eq_getElem (by omega)⟩
      rw [List.getD_eq_getElem?_getD, hx, Option.getD_some] at hpe
      obtain ⟨g, o, rfl, hc⟩ := HMV.out.at_ _ x hx
      clear hx x1 x2
      generalize k ^^^ 1 = m at hxk hxb hc
      have b1 : (1 : Int) < ((2 * N : Nat) : Int) := by omega
      have b2 : (0 : Int) ≤ (m : Int) := by omega
      have b3 : (m : Int) < ((2 * N : Nat) : Int) := by omega
      obtain ⟨k2, hk2⟩ : ∃ k2, k / 2 = k2 := ⟨_, rfl⟩
      have hq : (k : Int) / 2 = (k2 : Int) := by omega
      rw [hk2] at hpe
      have HK2 : Hid (k2 < N) := by show _ < _; omega
      clear hk2
      have ho2 : Hid ((wr.alloc (.cells #[.string x] 9)).ownsRow w.heap.size 9 1 (.slice pa n pc) n (strsV P)) := HOW.out.alloc _
      go_wp2_with (at_builtin; refine wpList_append_own _ rfl _ _ 33 rfl w.heap.size 9 i0 (.string ⟨#[]⟩) 1 16 Tryz.underlying33 hti hz0 hz1 hz2 rfl (by decide) _ _ _ rfl ho2.out ⟨wr.heap.size, 0, none⟩ 1 1 [.string x] rfl rfl ?q1 ?q2 ?q3 ?q4 ?q5 ?_)
      case q1 => exact lit_one wr x
      case q2 => intro u hu; simp at hu; subst hu; rfl
      case q3 => unfold maxLen; omega
      case q4 => omega
      case q5 => have := HG.out.size; simp; omega
      intro v' w2 hown2 hg2 _
      obtain ⟨a', c', rfl⟩ := slice_own' hown2
      rw [push_strs] at hown2
      have hg2' : w.grownBy w2 none := grown_row (grownBy_alloc' HG.out _) hg2 (fun g hg => (HOW.out.lt g hg).1)
      have hmv := StrsAt.beside (HMV.out.grown (World.grownBy_alloc _ (.cells #[.string x] 9) none)) hg2 (fun g' o' e => HNE.out g' o' e)
      have ha := mabove_any _ M N hM2 hp6 HMS.out w2 hmv (HR.out.grown hg2')
      have HA := Lib.hid ha
      have HOW2 := Lib.hid hown2
      have G2 := Lib.hid hg2'
      clear ha hmv hg2' hown2 hg2 hc ho2 HOW HNE HG HMV
      go_wp2_with fail
      refine HA.out.mono ?_
      rintro e w3 ⟨v3, rfl, h3, g3⟩
      have hlt3 := h3.lt
      obtain ⟨a3, c3, rfl⟩ := slice_own' h3
      have hle2 := HOW2.out.lt
      have HO3 := Lib.hid (strs_own h3)
      have HOW3 := Lib.hid (own_kept HOW2.out g3)
      have G3 := Lib.hid (grownBy_trans G2.out g3)
      clear g3 h3 HA HOW2 G2
      go_wp2_with fail
      go_roundw
      case rel =>
        refine ⟨j, k2, n + 1, aboveS M, P ++ [x], a3, a', c3, c', by omega, by rw [HN.out], rfl, ?_, rfl, ?_, ?_, ?_, ?_, HOW3.out, ?_, G3.out⟩
        · show _ < _; rw [HN.out]; exact HK2.out
        · exact (aboveS_length _ _ hM2).trans HN.out.symm
        · show StrsAt _ _ _; rw [HN.out]; exact HO3.out
        · show _ = _
          rw [← HE.out, hpe, List.append_assoc]
          rfl
        · intro s hs; rw [aboveS_sizes _ s hs]; decide
        · intro g' o' e hb
          have h1 := hle2 g' hb
          have h2 := hlt3 g' (by rw [e]; rfl)
          omega
      case measure => simp [lenOf]; omega
    | zero =>
      obtain rfl : n = h := by omega
      have hE := HE.out
      rw [pathS, List.append_nil] at hE
      have HO2 := Lib.hid HOW.out
      rw [hE] at HO2
      clear hE HE HMV HMS HNE HOW
      go_wp2_with fail
      go_ret2
      exact ⟨_, rfl, HO2.out, HG.out⟩
end Go.Proofs.YtbhoeiopckmfhaaGreatDoor

namespace Go.Proofs.YtbhoeiopckmfhaaGreatDoor
open Go.RowKit
attribute [local irreducible] shaL

theorem walkZ_to (o : ByteArray) (leaf c : Nat) (x : Int) (s : ByteArray) (h0 : 0 ≤ x) (h1 : x ≤ 15) : walkZ o leaf c 0 x s = walkS o leaf c 0 x.toNat s := by
  unfold walkZ
  rw [show (max (0 : Int) 0).toNat = 0 from rfl, show (min x 15 - max (0 : Int) 0).toNat = x.toNat from by omega]
theorem walkZ_from (o : ByteArray) (leaf c : Nat) (x : Int) (s : ByteArray) (h0 : 0 ≤ x) (h1 : x ≤ 15) : walkZ o leaf c x 15 s = walkS o leaf c x.toNat (15 - x).toNat s := by
  unfold walkZ
  rw [show max x 0 = x from by omega, show min (15 : Int) 15 = 15 from rfl]
theorem IntsAt.at_' {w : World} {a : Option Addr} {n cap : Nat} {L : List Int} (h : IntsAt w (.slice a n cap) L) (i : Nat) (x : Int) (hx : L[i]? = some x) : ∃ g o, a = some ⟨g, o, none⟩ ∧ w.cell? ⟨g, o + i, none⟩ = some (.int .i64 x) := by
  obtain ⟨a', cap', he, hc⟩ := h
  cases he
  obtain ⟨hi, rfl⟩ := List.getElem?_eq_some_iff.1 hx
  exact hc i hi

theorem strs_row {w : World} {B n : Nat} {v : Value} {L : List ByteArray} (h : w.ownsRow B 9 1 v n (strsV L)) (e : L.length = n) : StrsAt w v L := by
  subst e
  obtain ⟨a, c, rfl⟩ := slice_own' h
  exact strs_own h
set_option maxHeartbeats 800000 in
set_option maxRecDepth 100000 in
theorem wsign_new (seed d : ByteArray) (leaf : Nat) (hs : seed.size ≤ 1000000000000) (hd : d.size = 16) (hl : leaf ≤ 4294967295) (w : World) (hr : ShaReady w) :
    Calls Tryz.prog 140 #[.string seed, .int .i64 leaf, .string d] w fun e w' => ∃ v, e = .returned (.tuple #[v, .int .i64 0]) ∧ w'.ownsRow w.heap.size 9 1 v 35 (strsV (sigS seed leaf (digs d.data.toList) 35)) ∧ w.grownBy w' none := by
  obtain ⟨i0, hi, hz0, hz1, hz2⟩ := info_parts infoStrW
  have HR := Lib.hid hr
  have hof := Lib.hid (of_ok d hd w)
  have hosz := openS_size seed
  have hdl : (digs d.data.toList).length = 35 := by rw [digs_length]; have : d.data.toList.length = 16 := hd; omega
  have hdb := digs_bd d.data.toList hd
  clear hr hd
  obtain ⟨D, hD⟩ : ∃ D, digs d.data.toList = D := ⟨_, rfl⟩
  rw [hD] at hof hdl hdb ⊢
  clear hD
  have HDL := Lib.hid hdl
  have HDB := Lib.hid hdb
  clear hdl hdb
  obtain ⟨o, hO⟩ : ∃ o, openS seed = o := ⟨_, rfl⟩
  rw [hO] at hosz
  have HO := Lib.hid hO
  clear hO
  go_enter Tryz.func140, Tryz.ntmps140
  go_wp2_with fail
  refine hof.out.mono ?_
  rintro e w0 ⟨v0, rfl, h0, g0⟩
  obtain ⟨a0, c0, rfl⟩ := (show ∃ a cap, v0 = .slice a D.length cap from let ⟨a, cap, h, _⟩ := h0; ⟨a, cap, h⟩)
  rw [HDL.out] at h0 ⊢
  have HI := Lib.hid h0
  have G0 := Lib.hid g0
  clear h0 g0 hof
  have hop := Lib.hid (wopen_any seed hs w0 (HR.out.grown G0.out))
  rw [HO.out] at hop
  go_wp2_with fail
  refine hop.out.mono ?_
  rintro e w1 ⟨rfl, g1⟩
  have G1 := Lib.hid (grownBy_trans G0.out g1)
  have HI1 := Lib.hid (HI.out.kept g1)
  clear g1 HI hop G0
  go_wp2_with (at_make; refine wpList_make_full _ rfl _ _ 33 rfl w.heap.size 9 i0 (.string ⟨#[]⟩) 1 Tryz.underlying33 hi hz0 hz1 _ _ _ _ 35 rfl rfl rfl rfl ?c1 ?c2 ?c3 ?_)
  case c1 => rw [hz2]; omega
  case c2 => unfold maxLen; omega
  case c3 => exact G1.out.size
  intro w2 hown hg
  have hm : (madeCells #[Value.string ⟨#[]⟩] 35).toList = strsV (fillS (sigS seed leaf D 0) 35) := made_strs 35
  rw [hm] at hown
  have HO2 := Lib.hid hown
  have G2 := Lib.hid hg
  clear hown hg hm
  obtain ⟨B, hB⟩ : ∃ B, w1.heap.size = B := ⟨_, rfl⟩
  rw [hB] at HO2 ⊢
  have hB1 : w1.heap.size ≤ B := by omega
  clear hB
  go_wp2_with fail
  go_loopw [12, 13, 29] (fun _ _ iv wr => ∃ k : Nat, k ≤ 35 ∧ iv = .int .i64 k ∧ Hid (wr.ownsRow w.heap.size 9 1 (.slice (some ⟨B, 0, none⟩) 35 35) 35 (strsV (fillS (sigS seed leaf D k) 35))) ∧ Hid (w1.grownBy wr none)) (fun _ _ iv _ => 35 - (intOf iv).toNat)
  case atStart => exact ⟨0, by omega, rfl, HO2.out, G2.out⟩
  case round =>
    clear HO2 G2
    obtain ⟨k, hk, rfl, HK, HG⟩ := hrel
    have HRr := Lib.hid (HR.out.grown (grownBy_trans G1.out HG.out))
    have HI := Lib.hid (HI1.out.kept HG.out)
    by_cases hlt : k < 35
    · obtain ⟨x, hx⟩ : ∃ x, D[k]? = some x := ⟨_, List.getElem?_eq_getElem (by rw [HDL.out]; exact hlt)⟩
      have hxb := HDB.out x (List.mem_of_getElem? hx)
      have hxd : D.getD k 0 = x := by rw [List.getD_eq_getElem?_getD, hx]; rfl
      obtain ⟨gi, oi, rfl, hcx⟩ := HI.out.at_' k x hx
      have HX := Lib.hid hxd
      clear hx hxd
      have hsec := Lib.hid (secret_any seed leaf k hs hl (by omega) wr HRr.out)
      have b1 : (0 : Int) ≤ (k : Int) := by omega
      go_wp2_with fail
      refine hsec.out.mono ?_
      rintro e w3 ⟨rfl, g3⟩
      have G3 := Lib.hid (grownBy_trans HG.out g3)
      have HK3 := Lib.hid (own_kept HK.out g3)
      have HR3 := Lib.hid (HRr.out.grown g3)
      clear g3 HK hsec HG HI hcx HRr
      have hwk := wwalk_any o (secretS seed leaf k) leaf k 0 x (by rw [hosz]; omega) (by rw [secretS_size]; omega) hl (by omega) (by omega) (by omega) w3 HR3.out
      rw [walkZ_to _ _ _ _ _ hxb.1 hxb.2] at hwk
      have HWK := Lib.hid hwk
      clear hwk
      go_wp2_with fail
      refine HWK.out.mono ?_
      rintro e w4 ⟨rfl, g4⟩
      have G4 := Lib.hid (grownBy_trans G3.out g4)
      have HK4 := Lib.hid (own_kept HK3.out g4)
      clear g4 HK3 HWK G3 HR3
      have hel := sigS_length seed leaf D k
      have hc := HK4.out.cellAt k (by omega)
      have hat := fillS_at (sigS seed leaf D k) 35 (by omega)
      have hput := fillS_put (sigS seed leaf D k) 35 (walkS o leaf k 0 x.toNat (secretS seed leaf k)) (by omega)
      rw [hel] at hat hput
      rw [hat] at hc
      have hf := HK4.out.frozenAt k
      have HP := Lib.hid hput
      have HE : Hid (sigS seed leaf D (k + 1) = sigS seed leaf D k ++ [walkS o leaf k 0 x.toNat (secretS seed leaf k)]) := by
        show _ = _
        rw [sigS, HO.out, HX.out]
      clear hat hput hel
      generalize walkS o leaf k 0 x.toNat (secretS seed leaf k) = S at HP HE ⊢
      go_wp2_with fail
      go_roundw
      case rel =>
        refine ⟨k + 1, by omega, by go_num, ?_, grownBy_setNew G4.out hB1 _ _⟩
        show World.ownsRow _ _ _ _ _ _ _
        rw [HE.out, ← HP.out]
        exact (HK4.out.stored _ _).1
      case measure => simp [intOf]; omega
    · have : k = 35 := by omega
      subst this
      have hown := HK.out
      rw [fillS_full _ 35 (sigS_length seed leaf D 35)] at hown
      have hst := Lib.hid hown
      clear hown HK
      go_wp2_with fail
      go_ret2
      exact ⟨_, rfl, hst.out, grownBy_trans G1.out HG.out⟩
theorem wsign_any (seed d : ByteArray) (leaf : Nat) (hs : seed.size ≤ 1000000000000) (hd : d.size = 16) (hl : leaf ≤ 4294967295) (w : World) (hr : ShaReady w) :
    Calls Tryz.prog 140 #[.string seed, .int .i64 leaf, .string d] w fun e w' => ∃ v, e = .returned (.tuple #[v, .int .i64 0]) ∧ StrsAt w' v (sigS seed leaf (digs d.data.toList) 35) ∧ w.grownBy w' none :=
  (wsign_new seed d leaf hs hd hl w hr).mono (by
    rintro e w' ⟨v, rfl, h1, h2⟩
    have hL := sigS_length seed leaf (digs d.data.toList) 35
    exact ⟨v, rfl, strs_row h1 hL, h2⟩)

set_option maxHeartbeats 400000 in
theorem isSig_any (v : Value) (L : List ByteArray) (hN : L.length = 35) (hs : ∀ s ∈ L, s.size = 16) (w : World) (hv : StrsAt w v L) :
    Calls Tryz.prog 147 #[v] w fun e w' => e = .returned (.bool true) ∧ w = w' := by
  obtain ⟨a, cap, rfl⟩ := hv.form
  have HV := Lib.hid hv
  have HN := Lib.hid hN
  have HS := Lib.hid hs
  rw [hN] at HV ⊢
  clear hv hN hs
  go_enter Tryz.func147, Tryz.ntmps147
  go_wp2_with fail
  go_loop [4, 10] (fun _ iv => ∃ k : Nat, k ≤ 35 ∧ iv = .int .i64 k) (fun _ iv => 35 - (intOf iv).toNat)
  case atStart => exact ⟨0, by omega, rfl⟩
  case round =>
    obtain ⟨k, hk, rfl⟩ := hrel
    by_cases hlt : k < 35
    · obtain ⟨x, hx⟩ : ∃ x, L[k]? = some x := ⟨_, List.getElem?_eq_getElem (by rw [HN.out]; exact hlt)⟩
      have hxs := HS.out x (List.mem_of_getElem? hx)
      obtain ⟨g, o, rfl, hc⟩ := HV.out.at_ k x hx
      have hb : ((x.size : Int) != 16) = false := by simp; omega
      have hle : x.size ≤ 16 := by omega
      have b1 : (0 : Int) ≤ (k : Int) := by omega
      clear hx hxs
      go_wp2_with fail
      go_round
      case rel => exact ⟨k + 1, by omega, by go_num⟩
      case measure => simp [intOf]; omega
    · go_wp2_with fail
      go_ret
      exact ⟨rfl, rfl⟩

set_option maxHeartbeats 800000 in
set_option maxRecDepth 100000 in
theorem wrecover_any (o d : ByteArray) (leaf : Nat) (v : Value) (L : List ByteArray) (ho : o.size ≤ 1000000000000) (hd : d.size = 16) (hl : leaf ≤ 4294967295) (hN : L.length = 35) (hs : ∀ s ∈ L, s.size = 16) (w : World) (hv : StrsAt w v L) (hr : ShaReady w) :
    Calls Tryz.prog 102 #[.string o, .int .i64 leaf, .string d, v] w fun e w' => e = .returned (.tuple #[.string (publicOfS o leaf (recS o leaf (digs d.data.toList) L 35)), .int .i64 0]) ∧ w.grownBy w' none := by
  obtain ⟨i0, hi, hz0, hz1, hz2⟩ := info_parts infoStrW
  have HR := Lib.hid hr
  have HV := Lib.hid hv
  have HN := Lib.hid hN
  have HS := Lib.hid hs
  have hof := Lib.hid (of_ok d hd w)
  have hdl : (digs d.data.toList).length = 35 := by rw [digs_length]; have : d.data.toList.length = 16 := hd; omega
  have hdb := digs_bd d.data.toList hd
  obtain ⟨av, cv, rfl⟩ := hv.form
  rw [hN] at HV ⊢
  clear hr hd hv hN hs
  obtain ⟨D, hD⟩ : ∃ D, digs d.data.toList = D := ⟨_, rfl⟩
  rw [hD] at hof hdl hdb ⊢
  clear hD
  have HDL := Lib.hid hdl
  have HDB := Lib.hid hdb
  clear hdl hdb
  go_enter Tryz.func102, Tryz.ntmps102
  go_wp2_with fail
  refine hof.out.mono ?_
  rintro e w0 ⟨v0, rfl, h0, g0⟩
  obtain ⟨a0, c0, rfl⟩ := (show ∃ a cap, v0 = .slice a D.length cap from let ⟨a, cap, h, _⟩ := h0; ⟨a, cap, h⟩)
  rw [HDL.out] at h0 ⊢
  have HI := Lib.hid h0
  have G0 := Lib.hid g0
  have HV0 := Lib.hid (HV.out.grown g0)
  clear h0 g0 hof HV
  go_wp2_with fail
  refine (isSig_any _ L HN.out HS.out w0 HV0.out).mono ?_
  rintro e w' ⟨rfl, rfl⟩
  go_wp2_with (at_make; refine wpList_make_full _ rfl _ _ 33 rfl w.heap.size 9 i0 (.string ⟨#[]⟩) 1 Tryz.underlying33 hi hz0 hz1 _ _ _ _ 35 rfl rfl rfl rfl ?c1 ?c2 ?c3 ?_)
  case c1 => rw [hz2]; omega
  case c2 => unfold maxLen; omega
  case c3 => exact G0.out.size
  intro w2 hown hg
  have hm : (madeCells #[Value.string ⟨#[]⟩] 35).toList = strsV (fillS (recS o leaf D L 0) 35) := made_strs 35
  rw [hm] at hown
  have HO2 := Lib.hid hown
  have G2 := Lib.hid hg
  clear hown hg hm
  obtain ⟨B, hB⟩ : ∃ B, w0.heap.size = B := ⟨_, rfl⟩
  rw [hB] at HO2 ⊢
  have hB1 : w0.heap.size ≤ B := by omega
  clear hB
  go_wp2_with fail
  go_loopw [13, 14, 31] (fun _ _ iv wr => ∃ k : Nat, k ≤ 35 ∧ iv = .int .i64 k ∧ Hid (wr.ownsRow w.heap.size 9 1 (.slice (some ⟨B, 0, none⟩) 35 35) 35 (strsV (fillS (recS o leaf D L k) 35))) ∧ Hid (w0.grownBy wr none)) (fun _ _ iv _ => 35 - (intOf iv).toNat)
  case atStart => exact ⟨0, by omega, rfl, HO2.out, G2.out⟩
  case round =>
    clear HO2 G2
    obtain ⟨k, hk, rfl, HK, HG⟩ := hrel
    have HRr := Lib.hid (HR.out.grown (grownBy_trans G0.out HG.out))
    have HIr := Lib.hid (HI.out.kept HG.out)
    have HVr := Lib.hid (HV0.out.grown HG.out)
    by_cases hlt : k < 35
    · obtain ⟨x, hx⟩ : ∃ x, D[k]? = some x := ⟨_, List.getElem?_eq_getElem (by rw [HDL.out]; exact hlt)⟩
      have hxb := HDB.out x (List.mem_of_getElem? hx)
      have hxd : D.getD k 0 = x := by rw [List.getD_eq_getElem?_getD, hx]; rfl
      obtain ⟨gi, oi, rfl, hcx⟩ := HIr.out.at_' k x hx
      obtain ⟨y, hy⟩ : ∃ y, L[k]? = some y := ⟨_, List.getElem?_eq_getElem (by rw [HN.out]; exact hlt)⟩
      have hyb := HS.out y (List.mem_of_getElem? hy)
      have hyd : L.getD k ByteArray.empty = y := by rw [List.getD_eq_getElem?_getD, hy]; rfl
      obtain ⟨gv, ov, rfl, hcy⟩ := HVr.out.at_ k y hy
      have HX := Lib.hid (And.intro hxd hyd)
      clear hx hxd hy hyd
      have hwk := wwalk_any o y leaf k x 15 ho (by omega) hl (by omega) (by omega) (by omega) wr HRr.out
      rw [walkZ_from _ _ _ _ _ hxb.1 hxb.2] at hwk
      have HWK := Lib.hid hwk
      clear hwk hyb
      have b1 : (0 : Int) ≤ (k : Int) := by omega
      go_wp2_with fail
      refine HWK.out.mono ?_
      rintro e w4 ⟨rfl, g4⟩
      have G4 := Lib.hid (grownBy_trans HG.out g4)
      have HK4 := Lib.hid (own_kept HK.out g4)
      clear g4 HK HWK HG HRr HIr HVr hcx hcy
      have hel := recS_length o leaf D L k
      have hc := HK4.out.cellAt k (by omega)
      have hat := fillS_at (recS o leaf D L k) 35 (by omega)
      have hput := fillS_put (recS o leaf D L k) 35 (walkS o leaf k x.toNat (15 - x).toNat y) (by omega)
      rw [hel] at hat hput
      rw [hat] at hc
      have hf := HK4.out.frozenAt k
      have HP := Lib.hid hput
      have HE : Hid (recS o leaf D L (k + 1) = recS o leaf D L k ++ [walkS o leaf k x.toNat (15 - x).toNat y]) := by
        show _ = _
        rw [recS, HX.out.1, HX.out.2]
      clear hat hput hel
      generalize walkS o leaf k x.toNat (15 - x).toNat y = S at HP HE ⊢
      go_wp2_with fail
      go_roundw
      case rel =>
        refine ⟨k + 1, by omega, by go_num, ?_, grownBy_setNew G4.out hB1 _ _⟩
        show World.ownsRow _ _ _ _ _ _ _
        rw [HE.out, ← HP.out]
        exact (HK4.out.stored _ _).1
      case measure => simp [intOf]; omega
    · have : k = 35 := by omega
      subst this
      have hown := HK.out
      rw [fillS_full _ 35 (recS_length o leaf D L 35)] at hown
      have hst := strs_own hown
      have hpo := Lib.hid (publicOf_any o leaf _ (recS o leaf D L 35) ho hl (by rw [recS_length]; omega) (by rw [recS_length]; omega) (fun s h => by rw [recS_all o leaf D L HS.out 35 (by rw [HN.out]; omega) s h]; omega) wr hst HRr.out)
      clear hown hst HK
      go_wp2_with fail
      refine hpo.out.mono ?_
      rintro e w3 ⟨rfl, g3⟩
      have G3 := Lib.hid (grownBy_trans G0.out (grownBy_trans HG.out g3))
      clear g3
      go_wp2_with fail
      go_ret2
      exact ⟨rfl, G3.out⟩
end Go.Proofs.YtbhoeiopckmfhaaGreatDoor

namespace Go.Proofs.YtbhoeiopckmfhaaGreatDoor
open Go.RowKit
attribute [local irreducible] shaL

def leavesS (seed : ByteArray) (h : Nat) : List ByteArray := (List.range (2 ^ h)).map (publicS seed)
theorem leavesS_length (seed : ByteArray) (h : Nat) : (leavesS seed h).length = 2 ^ h := by simp [leavesS]
theorem publicS_16 (seed : ByteArray) (i : Nat) : (publicS seed i).size = 16 := tagS_size _ _
theorem leavesS_sizes (seed : ByteArray) (h : Nat) : ∀ s ∈ leavesS seed h, s.size = 16 := by
  intro s hs
  obtain ⟨i, _, rfl⟩ := List.mem_map.1 hs
  exact publicS_16 seed i
def rootK (seed : ByteArray) (h : Nat) : ByteArray := rootS h (leavesS seed h)
def partL (seed : ByteArray) (k : Nat) : List ByteArray := (List.range k).map (publicS seed)
theorem partL_length (seed : ByteArray) (k : Nat) : (partL seed k).length = k := by simp [partL]
theorem partL_succ (seed : ByteArray) (k : Nat) : partL seed (k + 1) = partL seed k ++ [publicS seed k] := by simp [partL, List.range_succ]

/-- a key in memory -/
def KeyAt (w : World) (b : Nat) (seed : ByteArray) (h : Nat) : Prop :=
  ∃ a cap, w.heap[b]? = some (.cells #[.string seed, .slice a (2 ^ h : Nat) cap, .string (openS seed), .string (rootK seed h), .int .i64 h] 210 (0, 0)) ∧ StrsAt w (.slice a (2 ^ h : Nat) cap) (leavesS seed h)
theorem KeyAt.grown {w w' : World} {b : Nat} {seed : ByteArray} {h : Nat} (k : KeyAt w b seed h) (hg : w.grownBy w' none) : KeyAt w' b seed h := by
  obtain ⟨a, cap, h1, h2⟩ := k
  exact ⟨a, cap, (hg.block b (Array.getElem?_eq_some_iff.1 h1).1 (by simp)).trans h1, h2.grown hg⟩

/-- a key whose leaves lie in block lg -/
def KeyBlk (w : World) (b : Nat) (seed : ByteArray) (h lg : Nat) : Prop :=
  ∃ lo cap, w.heap[b]? = some (.cells #[.string seed, .slice (some ⟨lg, lo, none⟩) (2 ^ h : Nat) cap, .string (openS seed), .string (rootK seed h), .int .i64 h] 210 (0, 0)) ∧ StrsAt w (.slice (some ⟨lg, lo, none⟩) (2 ^ h : Nat) cap) (leavesS seed h)
theorem KeyBlk.at_ {w : World} {b : Nat} {seed : ByteArray} {h lg : Nat} (k : KeyBlk w b seed h lg) : KeyAt w b seed h := let ⟨lo, cap, h1, h2⟩ := k; ⟨_, cap, h1, h2⟩

set_option maxHeartbeats 400000 in
theorem heightMayBe_any (h : Nat) (hh : h ≤ 6) (w : World) :
    Calls Tryz.prog 124 #[.int .i64 h] w fun e w' => e = .returned (.bool true) ∧ w = w' := by
  have h1 : (0 : Int) ≤ (h : Int) := by omega
  have h2 : (h : Int) ≤ 6 := by omega
  go_enter Tryz.func124, Tryz.ntmps124
  go_wp2_with fail
  go_ret
  exact ⟨rfl, rfl⟩

set_option maxHeartbeats 1600000 in
set_option maxRecDepth 100000 in
theorem xnew_new (seed : ByteArray) (h : Nat) (hh : h ≤ 6) (hs : seed.size ≤ 1000000000000) (w : World) (hr : ShaReady w) :
    Calls Tryz.prog 80 #[.string seed, .int .i64 h] w fun e w' => ∃ b lg, e = .returned (.tuple #[.pointer (some ⟨b, 0, none⟩), .int .i64 0]) ∧ KeyBlk w' b seed h lg ∧ w.heap.size ≤ lg ∧ lg < b ∧ w.grownBy w' none := by
  obtain ⟨i0, hi, hz0, hz1, hz2⟩ := info_parts infoStrW
  have HR := Lib.hid hr
  obtain ⟨N, hN⟩ : ∃ N, 2 ^ h = N := ⟨_, rfl⟩
  have hN64 : N ≤ 64 := by rw [← hN]; exact pow_le64 h hh
  have hN0 : 0 < N := by rw [← hN]; exact Nat.pow_pos (by decide)
  have HN := Lib.hid hN
  have hm := Lib.hid (heightMayBe_any h hh w)
  clear hr hN
  have b1 : (0 : Int) ≤ (h : Int) := by omega
  have b2 : (h : Int) < 64 := by omega
  have hsh : IntKind.i64.wrap (2 ^ h) = (N : Int) := by
    have e : ((2 : Int) ^ h) = (N : Int) := by rw [← HN.out]; simp
    rw [e]
    exact IntWalk.i64_in _ (by omega)
  go_enter Tryz.func80, Tryz.ntmps80
  go_wp2_with fail
  refine hm.out.mono ?_
  rintro e w1 ⟨rfl, rfl⟩
  go_wp2_with (at_make; refine wpList_make_full _ rfl _ _ 33 rfl w.heap.size 9 i0 (.string ⟨#[]⟩) 1 Tryz.underlying33 hi hz0 hz1 _ _ _ _ N rfl rfl rfl rfl ?c1 ?c2 ?c3 ?_)
  case c1 => rw [hz2]; omega
  case c2 => unfold maxLen; omega
  case c3 => exact Nat.le_refl _
  intro w2 hown hg
  have hm2 : (madeCells #[Value.string ⟨#[]⟩] N).toList = strsV (fillS (partL seed 0) N) := made_strs N
  rw [hm2] at hown
  have HO2 := Lib.hid hown
  have G2 := Lib.hid hg
  clear hown hg hm2 hm
  go_wp2_with fail
  go_loopw [7, 19] (fun _ iv wr => ∃ k : Nat, k ≤ N ∧ iv = .int .i64 k ∧ Hid (wr.ownsRow w.heap.size 9 1 (.slice (some ⟨w.heap.size, 0, none⟩) N N) N (strsV (fillS (partL seed k) N))) ∧ Hid (w.grownBy wr none)) (fun _ iv _ => N - (intOf iv).toNat)
  case atStart => exact ⟨0, by omega, rfl, HO2.out, G2.out⟩
  case round =>
    clear HO2 G2
    obtain ⟨k, hk, rfl, HK, HG⟩ := hrel
    by_cases hlt : k < N
    · have hpb := Lib.hid (wpublic_any seed k hs (by omega) wr (HR.out.grown HG.out))
      have HE := Lib.hid (partL_succ seed k)
      have hel := partL_length seed k
      have hat := fillS_at (partL seed k) N (by omega)
      have hput := fillS_put (partL seed k) N (publicS seed k) (by omega)
      rw [hel] at hat hput
      have HP := Lib.hid hput
      have HAT := Lib.hid hat
      clear hat hput hel
      generalize publicS seed k = S at hpb HE HP
      have c1 : (0 : Int) ≤ (k : Int) := by omega
      have c2 : (k : Int) < (N : Int) := by omega
      go_wp2_with fail
      refine hpb.out.mono ?_
      rintro e w4 ⟨rfl, g4⟩
      have G4 := Lib.hid (grownBy_trans HG.out g4)
      have HK4 := Lib.hid (own_kept HK.out g4)
      clear g4 HK hpb HG
      have hc := (HK4.out.cellAt k (by omega)).trans HAT.out
      have hf := HK4.out.frozenAt k
      go_wp2_with fail
      go_roundw
      case rel =>
        refine ⟨k + 1, by omega, by go_num, ?_, grownBy_setNew G4.out (Nat.le_refl _) _ _⟩
        show World.ownsRow _ _ _ _ _ _ _
        rw [HE.out, ← HP.out]
        exact (HK4.out.stored _ _).1
      case measure => simp [intOf]; omega
    · obtain rfl : k = N := by omega
      have hown := HK.out
      rw [fillS_full _ _ (partL_length seed k)] at hown
      have hst : StrsAt wr (.slice (some ⟨w.heap.size, 0, none⟩) k k) (leavesS seed h) := by
        have e : partL seed k = leavesS seed h := by rw [← HN.out]; rfl
        rw [← e]
        exact strs_own hown
      have HST := Lib.hid hst
      have hroot := Lib.hid (root_ok _ (leavesS seed h) h hh (leavesS_length seed h) (fun s hs => by rw [leavesS_sizes seed h s hs]; decide) wr HST.out (HR.out.grown HG.out))
      have HRT : Hid (rootS h (leavesS seed h) = rootK seed h) := rfl
      rw [HRT.out] at hroot
      have HKA : Hid (∀ (w' : World) (b : Nat), w'.heap[b]? = some (.cells #[.string seed, .slice (some ⟨w.heap.size, 0, none⟩) k k, .string (openS seed), .string (rootK seed h), .int .i64 h] 210 (0, 0)) → StrsAt w' (.slice (some ⟨w.heap.size, 0, none⟩) k k) (leavesS seed h) → KeyBlk w' b seed h w.heap.size) := by
        intro w' b h1 h2
        refine ⟨0, k, ?_, ?_⟩
        · rw [HN.out]; exact h1
        · rw [HN.out]; exact h2
      generalize rootK seed h = R at hroot HKA
      have hop : Hid (∀ w0, ShaReady w0 → Calls Tryz.prog 127 #[.string seed] w0 fun e w' => e = .returned (.string (openS seed)) ∧ w0.grownBy w' none) := fun w0 h0 => wopen_any seed hs w0 h0
      generalize openS seed = O at hop HKA
      clear hst hown HK
      go_wp2_with fail
      refine hroot.out.mono ?_
      rintro e w3 ⟨rfl, g3⟩
      have HST3 := Lib.hid (HST.out.grown g3)
      have G3 := Lib.hid (grownBy_trans HG.out g3)
      clear g3 hroot HST HG
      go_wp2_with fail
      refine (hop.out w3 (HR.out.grown G3.out)).mono ?_
      rintro e w4 ⟨rfl, g4⟩
      have HST4 := Lib.hid (HST3.out.grown g4)
      have G4 := Lib.hid (grownBy_trans G3.out g4)
      clear g4 hop HST3 G3
      go_wp2_with fail
      go_ret2
      exact ⟨w4.heap.size + 1, w.heap.size, rfl, HKA.out _ _ (heap_alloc_at _ _ _ (by simp)) ((HST4.out.grown (World.grownBy_alloc _ _ _)).grown (World.grownBy_alloc _ _ _)), Nat.le_refl _, Nat.lt_succ_of_le G4.out.size, grownBy_alloc' (grownBy_alloc' G4.out _) _⟩
theorem xnew_any (seed : ByteArray) (h : Nat) (hh : h ≤ 6) (hs : seed.size ≤ 1000000000000) (w : World) (hr : ShaReady w) :
    Calls Tryz.prog 80 #[.string seed, .int .i64 h] w fun e w' => ∃ b, e = .returned (.tuple #[.pointer (some ⟨b, 0, none⟩), .int .i64 0]) ∧ KeyAt w' b seed h ∧ w.grownBy w' none :=
  (xnew_new seed h hh hs w hr).mono (by
    rintro e w' ⟨b, lg, rfl, h1, _, _, h2⟩
    exact ⟨b, rfl, h1.at_, h2⟩)
theorem heightMayNot (h : Int) (hh : h < 0 ∨ 6 < h) (w : World) :
    Calls Tryz.prog 124 #[.int .i64 h] w fun e w' => e = .returned (.bool false) ∧ w = w' := by
  by_cases h1 : 0 ≤ h
  · have h2 : ¬ h ≤ 6 := by omega
    go_enter Tryz.func124, Tryz.ntmps124
    go_wp2_with fail
    go_ret
    exact ⟨rfl, rfl⟩
  · go_enter Tryz.func124, Tryz.ntmps124
    go_wp2_with fail
    go_ret
    exact ⟨rfl, rfl⟩
theorem xnew_not (seed : ByteArray) (h : Int) (hh : h < 0 ∨ 6 < h) (w : World) :
    Calls Tryz.prog 80 #[.string seed, .int .i64 h] w fun e w' => e = .returned (.tuple #[.pointer none, .int .i64 1]) ∧ w = w' := by
  have hm := Lib.hid (heightMayNot h hh w)
  clear hh
  go_enter Tryz.func80, Tryz.ntmps80
  go_wp2_with fail
  refine hm.out.mono ?_
  rintro e w1 ⟨rfl, rfl⟩
  go_wp2_with fail
  go_ret2
  exact ⟨rfl, rfl⟩

theorem KeyAt.lt {w : World} {b : Nat} {seed : ByteArray} {h : Nat} (k : KeyAt w b seed h) : b < w.heap.size := by
  obtain ⟨a, cap, h1, h2⟩ := k
  exact (Array.getElem?_eq_some_iff.1 h1).1
set_option maxHeartbeats 400000 in
theorem count_any (b : Nat) (seed : ByteArray) (h N : Nat) (hN : 2 ^ h = N) (w : World) (hk : KeyAt w b seed h) :
    Calls Tryz.prog 93 #[.pointer (some ⟨b, 0, none⟩)] w fun e w' => e = .returned (.int .i64 N) ∧ w = w' := by
  obtain ⟨a, cap, h1, h2⟩ := hk
  rw [hN] at h1
  have c1 := cell_of h1 1
  simp at c1
  clear h1 h2 hN
  go_enter Tryz.func93, Tryz.ntmps93
  go_wp2_with fail
  go_ret
  exact ⟨rfl, rfl⟩
def pubV (o r : ByteArray) (h : Nat) : Value := .agg #[.string o, .string r, .int .i64 h]
set_option maxHeartbeats 400000 in
theorem xpublic_any (b : Nat) (seed : ByteArray) (h : Nat) (w : World) (hk : KeyAt w b seed h) :
    Calls Tryz.prog 105 #[.pointer (some ⟨b, 0, none⟩)] w fun e w' => e = .returned (pubV (openS seed) (rootK seed h) h) ∧ w.grownBy w' none := by
  have hlt := hk.lt
  obtain ⟨a, cap, h1, h2⟩ := hk
  have c2 := cell_of h1 2
  have c3 := cell_of h1 3
  have c4 := cell_of h1 4
  simp at c2 c3 c4
  clear h1 h2
  generalize openS seed = O at c2 ⊢
  generalize rootK seed h = R at c3 ⊢
  go_enter Tryz.func105, Tryz.ntmps105
  go_wp2_with fail
  go_returns
  exact ⟨rfl, World.grownBy_alloc _ _ _⟩

def digestS (o : ByteArray) (i : Nat) (m : ByteArray) : ByteArray := tagS 6 [o, str (be i 4), m]
theorem digestS_size (o : ByteArray) (i : Nat) (m : ByteArray) : (digestS o i m).size = 16 := tagS_size _ _
theorem wr_num4 (i : Nat) (hi : i ≤ 4294967295) : (⟨[], 0⟩ : WSt).num i 4 = ⟨[str (be i 4)], 0⟩ := by
  unfold WSt.num
  rw [if_pos ⟨by decide, by decide, show i < 256 ^ 4 by omega⟩]
  rfl
set_option maxHeartbeats 800000 in
theorem digest_any (o r m : ByteArray) (h i : Nat) (hi : i ≤ 4294967295) (ho : o.size ≤ 1000000000000) (hm : m.size ≤ 1000000000000) (w : World) (hr : ShaReady w) :
    Calls Tryz.prog 103 #[pubV o r h, .int .i64 i, .string m] w fun e w' => e = .returned (.string (digestS o i m)) ∧ w.grownBy w' none := by
  have HR := Lib.hid hr
  clear hr
  unfold pubV
  have w1 : IntKind.u32.wrap (i : Int) = (i : Int) := by simp only [IntKind.wrap, IntKind.bits, IntKind.signed, IntKind.min, IntKind.max]; simp; omega
  have w2 := wrap_u64 i (by omega)
  go_enter Tryz.func103, Tryz.ntmps103
  have hfresh : Hid (WsAt ((w.alloc (.cells #[.string o, .string r, .int .i64 h] 64)).alloc (.cells #[.pointer none, .int .i64 0, .int .i64 0] 179)) (some ⟨w.heap.size + 1, 0, none⟩) (some ⟨[], 0⟩)) := by
    have := WsAt.fresh (w.alloc (.cells #[.string o, .string r, .int .i64 h] 64))
    show WsAt _ _ _
    simpa using this
  have hcell : Hid (((w.alloc (.cells #[.string o, .string r, .int .i64 h] 64)).alloc (.cells #[.pointer none, .int .i64 0, .int .i64 0] 179)).heap[w.heap.size]? = some (.cells #[.string o, .string r, .int .i64 h] 64 (0, 0))) := by
    show _ = _
    rw [Below.heap_alloc _ _ _ (by show w.heap.size < (w.heap.push _).size; rw [Array.size_push]; exact Nat.lt_succ_self _)]
    exact heap_alloc_at _ _ _ rfl
  have hg0 : Hid (w.grownBy ((w.alloc (.cells #[.string o, .string r, .int .i64 h] 64)).alloc (.cells #[.pointer none, .int .i64 0, .int .i64 0] 179)) none) := grownBy_alloc' (World.grownBy_alloc _ _ _) _
  go_wp2_with fail
  refine (wnum_any i (by omega) 4 _ _ _ hfresh.out (WRoom.of _ _ (by decide))).mono ?_
  rintro e w3 ⟨rfl, h3, g3⟩
  have hc3 : w3.heap[w.heap.size]? = some (.cells #[.string o, .string r, .int .i64 h] 64 (0, 0)) := by
    rw [g3.block w.heap.size (by simp; omega) (by show some w.heap.size ≠ some (w.heap.size + 1); simp)]
    exact hcell.out
  have HC3 := Lib.hid hc3
  have hw3 : Hid (WrAt w3 (w.heap.size + 1) ⟨[str (be i 4)], 0⟩) := by
    have := h3
    rw [Option.map_some, wr_num4 i hi] at this
    obtain ⟨b, hb, hw⟩ := this
    cases hb
    exact hw
  have G3 := Lib.hid (grown_row hg0.out g3 (by intro g e; cases e; exact Nat.le_succ _))
  have hz4 : (str (be i 4)).size = 4 := by rw [str_size, be_length]
  have hfl : str (flat [str (be i 4)]) = str (be i 4) := by simp [flat, str]
  have HE : Hid (digestS o i m = tagS 6 [o, str (be i 4), m]) := rfl
  clear g3 h3 hc3 hcell hfresh hg0
  have hby := Lib.hid (bytes_ok w3 _ _ hw3.out (by show total [str (be i 4)] ≤ _; rw [total_cons, hz4]; decide))
  rw [hfl] at hby
  clear hfl hw3
  generalize str (be i 4) = z at hz4 HE hby
  go_wp2_with fail
  refine hby.out.mono ?_
  rintro e w4 ⟨rfl, g4⟩
  have hc4 := (g4.block _ (Array.getElem?_eq_some_iff.1 HC3.out).1 (by simp)).trans HC3.out
  have c0 := cell_of hc4 0
  simp at c0
  have G4 := Lib.hid (grownBy_trans G3.out g4)
  clear g4 hby hc4 HC3
  have hT := tagged_new w4 6 [o, z, m] _ 3 6 rfl rfl rfl (HR.out.grown G4.out) (by simp) (by
    intro s hs'
    simp at hs'
    rcases hs' with rfl | rfl | rfl <;> omega)
  rw [← HE.out] at hT
  have HT := Lib.hid hT
  clear hT
  go_wp2_with fail
  refine HT.out.mono ?_
  rintro e w5 ⟨rfl, g5⟩
  have G5 := Lib.hid (grownBy_trans G4.out g5)
  clear g5
  go_wp2_with fail
  go_ret
  exact ⟨rfl, G5.out⟩
end Go.Proofs.YtbhoeiopckmfhaaGreatDoor

namespace Go.Proofs.YtbhoeiopckmfhaaGreatDoor
open Go.ChangeShapes Go.WideShapes Go.ChangeAt Go.RowKit Go.Lib Go.Shelf

/-- a listed array of 32-bit numbers, cell by cell -/
theorem u32_of_reads {w : World} {name : String} {g t : Nat} {n : Nat} (L : List Nat) (hL : L.length = n) (hn : Tryz.prog.globalNamed name = some g) (hy : (Tryz.prog.globals[g]?).map (·.type) = some t)
    (hu : Tryz.prog.underlying t = some (.array n 161)) (hc : Tryz.prog.cellsOf 161 = 1)
    (h : VarReads Tryz.prog w name (.agg (L.map fun n : Nat => .lit (.int .u32 (n : Int))))) (i : Nat) (hi : i < n) : w.cell? ⟨g, i, none⟩ = some (.int .u32 (L.getD i 0 : Nat)) := by
  obtain ⟨g', t', cs, fuel, p, hg, hty, hvar, hd⟩ := h
  obtain rfl := Option.some.inj (hn.symm.trans hg)
  obtain rfl := Option.some.inj (hy.symm.trans hty)
  obtain ⟨fuel', d, q, hdi, he⟩ := array_elem hu hd i hi
  rw [hc] at he
  obtain ⟨z, e0, x0, _⟩ := DataW.trod_int Tryz.underlying161 he
  have hd2 : d = .lit (.int .u32 (L.getD i 0 : Nat)) := by
    have hlt : i < L.length := by omega
    rw [List.getElem?_map, List.getElem?_eq_getElem hlt] at hdi
    rw [List.getD_eq_getElem?_getD, List.getElem?_eq_getElem hlt]
    exact (Option.some.inj hdi).symm
  rw [hd2] at x0
  rw [World.var?_cell hn hvar i]
  have := congrArg (fun l : List Value => l[0]?) e0
  simp [List.getElem?_take, List.getElem?_drop] at this
  rw [this]
  simp only [Prod.mk.injEq, DataW.lit.injEq, Lit.int.injEq, true_and] at x0
  rw [x0.1]

theorem start_is : (Rows.laid_plumbob_sha_start : DataW Unit) = .agg (start.list.map fun n : Nat => .lit (.int .u32 (n : Int))) := by kernel_rfl
theorem roots_is : (Rows.laid_plumbob_sha_roots : DataW Unit) = .agg (rootsL.map fun n : Nat => .lit (.int .u32 (n : Int))) := by kernel_rfl
theorem nStart : Tryz.prog.globalNamed "plumbob/sha.start" = some 0 := by kernel_rfl
theorem yStart : (Tryz.prog.globals[0]?).map (·.type) = some 188 := by kernel_rfl
theorem nRoots : Tryz.prog.globalNamed "plumbob/sha.roots" = some 1 := by kernel_rfl
theorem yRoots : (Tryz.prog.globals[1]?).map (·.type) = some 229 := by kernel_rfl
theorem cU32 : Tryz.prog.cellsOf 161 = 1 := by kernel_rfl
theorem shaReady_of_laid {w : World} (h : laidMet Tryz.prog [("plumbob/sha.start", Rows.laid_plumbob_sha_start), ("plumbob/sha.roots", Rows.laid_plumbob_sha_roots)] w) : ShaReady w := by
  have h1 := Lib.laidMet.reads h (.head _)
  have h2 := Lib.laidMet.reads h (.tail _ (.head _))
  rw [start_is] at h1
  rw [roots_is] at h2
  refine ⟨fun j v hv => ?_, fun i hi => u32_of_reads rootsL rfl nRoots yRoots Tryz.underlying229 cU32 h2 i hi⟩
  have hj : j < 8 := by
    have := (List.getElem?_eq_some_iff.1 hv).1
    rwa [u32s_length, St.list_length] at this
  rw [Nat.zero_add, u32_of_reads start.list rfl nStart yStart Tryz.underlying188 cU32 h1 j hj, ← hv, u32s_at _ _ (by rw [St.list_length]; exact hj)]

/-- the settled world, the two variables holding what their texts lay -/
noncomputable def shaWorld (os : Os) : World :=
  let w0 := World.holding Tryz.prog os ⟨#[], #[], []⟩
  let put (h : Array Obj) (g : Nat) (cs : Array Value) : Array Obj := h.modify g fun
    | .cells _ t frozen => .cells cs t frozen
    | o => o
  let h1 := put w0.heap 0 (u32s start.list).toArray
  let h2 := put h1 1 (u32s rootsL).toArray
  { w0 with heap := h2 }
theorem sha_met (os : Os) (args : Array Value) : laidMet Tryz.prog [("plumbob/sha.start", Rows.laid_plumbob_sha_start), ("plumbob/sha.roots", Rows.laid_plumbob_sha_roots)] ((shaWorld os).forCall (fun _ _ => 0) ⟨#[], args, []⟩).memory :=
  (LaidIn.of_run (l := [("plumbob/sha.start", Rows.laid_plumbob_sha_start), ("plumbob/sha.roots", Rows.laid_plumbob_sha_roots)]) [0, 1] 8 (by kernel_rfl) (by kernel_rfl) (by kernel_rfl) (by kernel_rfl)).met
theorem own : ownKnob Tryz.prog.godebug = none := by kernel_rfl
end Go.Proofs.YtbhoeiopckmfhaaGreatDoor
