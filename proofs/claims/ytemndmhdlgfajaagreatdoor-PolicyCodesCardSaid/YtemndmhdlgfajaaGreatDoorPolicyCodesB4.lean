/- The walk of merkle.Path. · The walks of wots.Sign, Recover. · The walks of xmss.New, Count, Public, digest. · The walks of xmss.Sign, hasPlace, Verify. · The walks of an entry's Next, and of History. · The walk of a Writer's Text. · The walk of a Reader's Text. -/
import Derived.Test.YtemndmhdlgfajaaGreatDoorPolicyCodesB3
import Derived.Test.YtemndmhdlgfajaaGreatDoorPolicyCodesB1
import Derived.Handy
import Derived.Deep.RegionHeld3
import Derived.Test.YtemndmhdlgfajaaGreatDoorEntA
namespace Go.Proofs.YtemndmhdlgfajaaGreatDoor
open Go.RowKit
attribute [local irreducible] shaL

set_option maxHeartbeats 800000 in
set_option maxRecDepth 100000 in
theorem path_no (v : Value) (L : List ByteArray) (i : Int) (hN : treeB L.length = false) (w : World) (hv : StrsAt w v L) :
    Calls Tryz.prog 88 #[v, .int .i64 i] w fun e w' => e = .returned (.tuple #[.slice none 0 0, .int .i64 22]) ∧ w = w' := by
  obtain ⟨av, cv, rfl⟩ := hv.form
  have ht := isTree_any w av L.length cv
  rw [hN] at ht
  have HT := Lib.hid ht
  clear ht
  go_enter Tryz.func88, Tryz.ntmps88
  go_wp2_with fail
  refine HT.out.mono ?_
  rintro e w1 ⟨rfl, rfl⟩
  go_wp2_with fail
  go_ret2
  exact ⟨rfl, rfl⟩

set_option maxHeartbeats 800000 in
set_option maxRecDepth 100000 in
theorem path_out (v : Value) (L : List ByteArray) (i : Int) (hN : treeB L.length = true) (hi : i < 0 ∨ (L.length : Int) ≤ i) (w : World) (hv : StrsAt w v L) :
    Calls Tryz.prog 88 #[v, .int .i64 i] w fun e w' => e = .returned (.tuple #[.slice none 0 0, .int .i64 10]) ∧ w = w' := by
  obtain ⟨av, cv, rfl⟩ := hv.form
  have ht := isTree_any w av L.length cv
  rw [hN] at ht
  have HT := Lib.hid ht
  clear ht
  by_cases h0 : i < 0
  · go_enter Tryz.func88, Tryz.ntmps88
    go_wp2_with fail
    refine HT.out.mono ?_
    rintro e w1 ⟨rfl, rfl⟩
    go_wp2_with fail
    go_ret2
    exact ⟨rfl, rfl⟩
  · have h1 : (L.length : Int) ≤ i := by omega
    go_enter Tryz.func88, Tryz.ntmps88
    go_wp2_with fail
    refine HT.out.mono ?_
    rintro e w1 ⟨rfl, rfl⟩
    go_wp2_with fail
    go_ret2
    exact ⟨rfl, rfl⟩

set_option maxHeartbeats 1600000 in
set_option maxRecDepth 100000 in
theorem path_ok (v : Value) (L : List ByteArray) (h i : Nat) (hh : h ≤ 6) (hN : L.length = 2 ^ h) (hi : i < 2 ^ h) (hs : ∀ s ∈ L, s.size ≤ 1000000000000) (w : World) (hv : StrsAt w v L) (hold : ∀ g o n c, v = .slice (some ⟨g, o, none⟩) n c → g < w.heap.size) (hr : ShaReady w) :
    Calls Tryz.prog 88 #[v, .int .i64 i] w fun e w' => ∃ v', e = .returned (.tuple #[v', .int .i64 0]) ∧ w'.ownsRow w.heap.size 9 1 v' h (strsV (pathS h L i)) ∧ w.grownBy w' none := by
  obtain ⟨i0, hti, hz0, hz1, hz2⟩ := info_parts infoStrW
  have HR := Lib.hid hr
  have HV := Lib.hid hv
  have HS := Lib.hid hs
  have HN := Lib.hid hN
  obtain ⟨av, cv, rfl⟩ := hv.form
  have HO := Lib.hid hold
  have ht := isTree_any w av L.length cv
  rw [hN, treeB_pow h hh] at ht
  have HT := Lib.hid ht
  rw [hN] at HV HO ⊢
  have HI := Lib.hid hi
  have b1 : (0 : Int) ≤ (i : Int) := by omega
  have b2 : (i : Int) < ((2 ^ h : Nat) : Int) := by omega
  clear hr hv hs hN ht hold hi
  obtain ⟨Z, hZ⟩ : ∃ Z, 2 ^ h = Z := ⟨_, rfl⟩
  have HZ := Lib.hid hZ
  rw [hZ] at HT HV HO b2 HI ⊢
  clear hZ
  go_enter Tryz.func88, Tryz.ntmps88
  go_wp2_with fail
  refine HT.out.mono ?_
  rintro e w1 ⟨rfl, rfl⟩
  clear HT
  go_wp2_with fail
  generalize Value.bool (decide ((i : Int) < 0) || decide (Z ≤ i)) = d2
  generalize Value.bool (decide (Z ≤ i)) = d1
  generalize Value.bool (decide ((i : Int) < 0)) = d3
  clear b1 b2
  go_loopw [0, 1, 6] (fun lv iv pv wr => ∃ (j k n : Nat) (M P : List ByteArray) (a pa : Option Addr) (c pc : Nat), j + n = h ∧ lv = .slice a (2 ^ j) c ∧ iv = .int .i64 k ∧ Hid (k < 2 ^ j) ∧ pv = .slice pa n pc ∧ Hid (M.length = 2 ^ j) ∧ Hid (StrsAt wr (.slice a (2 ^ j) c) M) ∧ Hid (P ++ pathS j M k = pathS h L i) ∧ Hid (∀ s ∈ M, s.size ≤ 1000000000000) ∧ Hid (wr.ownsRow w.heap.size 9 1 (.slice pa n pc) n (strsV P)) ∧ Hid (∀ g o, a = some ⟨g, o, none⟩ → (Value.slice pa n pc).ownBlock ≠ some g) ∧ Hid (w.grownBy wr none)) (fun lv _ _ _ => lenOf lv)
  case atStart => exact ⟨h, i, 0, L, [], av, none, cv, 0, rfl, by rw [HZ.out], rfl, by show _ < _; rw [HZ.out]; exact HI.out, rfl, HN.out, by rw [HZ.out]; exact HV.out, rfl, HS.out, World.ownsRow_nil _ _ _ _, fun g o e => by simp [Value.ownBlock], World.grownBy.refl _ _⟩
  case round =>
    clear HV HS HN HO
    obtain ⟨j, k, n, M, P, a, pa, c, pc, hjn, rfl, rfl, HK, rfl, HM, HMV, HE, HMS, HOW, HNE, HG⟩ := hrel
    cases j with
    | succ j =>
      obtain ⟨N, hN⟩ : ∃ N, 2 ^ j = N := ⟨_, rfl⟩
      have hp0 : 0 < 2 ^ j := Nat.pow_pos (by decide)
      have hp6 := pow_le64 j (by omega)
      have hM2 := HM.out
      have hk := HK.out
      rw [pow_succ2, hN] at HMV hM2 hk ⊢
      rw [hN] at hp0 hp6
      have HN := Lib.hid hN
      clear hN HM HK
      have x1 := xor1d k
      have x2 := xor1m k
      have hxk : k ^^^ 1 < 2 * N := by omega
      have hxb : bits .xor .i64 (k : Int) 1 = ((k ^^^ 1 : Nat) : Int) := bits_xor_i64_nat k 1 (by omega) (by decide)
      have hpe : pathS (j + 1) M k = M.getD (k ^^^ 1) ByteArray.empty :: pathS j (aboveS M) (k / 2) := rfl
      obtain ⟨x, hx⟩ : ∃ x, M[k ^^^ 1]? = some x := ⟨_, List.getElem?_eq_getElem (by omega)⟩
      rw [List.getD_eq_getElem?_getD, hx, Option.getD_some] at hpe
      obtain ⟨g, o, rfl, hc⟩ := HMV.out.at_ _ x hx
      clear hx x1 x2
      generalize k ^^^ 1 = m at hxk hxb hc
      have b1 : (1 : Int) < ((2 * N : Nat) : Int) := by omega
      have b2 : (0 : Int) ≤ (m : Int) := by omega
      have b3 : (m : Int) < ((2 * N : Nat) : Int) := by omega
      obtain ⟨k2, hk2⟩ : ∃ k2, k / 2 = k2 := ⟨_, rfl⟩
      have hq : (k : Int) / 2 = (k2 : Int) := by omega
      rw [hk2] at hpe
      have HK2 : Hid (k2 < N) := by show _ < _; omega
      clear hk2
      have ho2 : Hid ((wr.alloc (.cells #[.string x] 9)).ownsRow w.heap.size 9 1 (.slice pa n pc) n (strsV P)) := HOW.out.alloc _
      go_wp2_with (at_builtin; refine wpList_append_own _ rfl _ _ 35 rfl w.heap.size 9 i0 (.string ⟨#[]⟩) 1 16 Tryz.underlying35 hti hz0 hz1 hz2 rfl (by decide) _ _ _ rfl ho2.out ⟨wr.heap.size, 0, none⟩ 1 1 [.string x] rfl rfl ?q1 ?q2 ?q3 ?q4 ?q5 ?_)
      case q1 => exact lit_one wr x
      case q2 => intro u hu; simp at hu; subst hu; rfl
      case q3 => unfold maxLen; omega
      case q4 => omega
      case q5 => have := HG.out.size; simp; omega
      intro v' w2 hown2 hg2 _
      obtain ⟨a', c', rfl⟩ := slice_own' hown2
      rw [push_strs] at hown2
      have hg2' : w.grownBy w2 none := grown_row (grownBy_alloc' HG.out _) hg2 (fun g hg => (HOW.out.lt g hg).1)
      have hmv := StrsAt.beside (HMV.out.grown (World.grownBy_alloc _ (.cells #[.string x] 9) none)) hg2 (fun g' o' e => HNE.out g' o' e)
      have ha := mabove_any _ M N hM2 hp6 HMS.out w2 hmv (HR.out.grown hg2')
      have HA := Lib.hid ha
      have HOW2 := Lib.hid hown2
      have G2 := Lib.hid hg2'
      clear ha hmv hg2' hown2 hg2 hc ho2 HOW HNE HG HMV
      go_wp2_with fail
      refine HA.out.mono ?_
      rintro e w3 ⟨v3, rfl, h3, g3⟩
      have hlt3 := h3.lt
      obtain ⟨a3, c3, rfl⟩ := slice_own' h3
      have hle2 := HOW2.out.lt
      have HO3 := Lib.hid (strs_own h3)
      have HOW3 := Lib.hid (own_kept HOW2.out g3)
      have G3 := Lib.hid (grownBy_trans G2.out g3)
      clear g3 h3 HA HOW2 G2
      go_wp2_with fail
      go_roundw
      case rel =>
        refine ⟨j, k2, n + 1, aboveS M, P ++ [x], a3, a', c3, c', by omega, by rw [HN.out], rfl, ?_, rfl, ?_, ?_, ?_, ?_, HOW3.out, ?_, G3.out⟩
        · show _ < _; rw [HN.out]; exact HK2.out
        · exact (aboveS_length _ _ hM2).trans HN.out.symm
        · show StrsAt _ _ _; rw [HN.out]; exact HO3.out
        · show _ = _
          rw [← HE.out, hpe, List.append_assoc]
          rfl
        · intro s hs; rw [aboveS_sizes _ s hs]; decide
        · intro g' o' e hb
          have h1 := hle2 g' hb
          have h2 := hlt3 g' (by rw [e]; rfl)
          omega
      case measure => simp [lenOf]; omega
    | zero =>
      obtain rfl : n = h := by omega
      have hE := HE.out
      rw [pathS, List.append_nil] at hE
      have HO2 := Lib.hid HOW.out
      rw [hE] at HO2
      clear hE HE HMV HMS HNE HOW
      go_wp2_with fail
      go_ret2
      exact ⟨_, rfl, HO2.out, HG.out⟩
end Go.Proofs.YtemndmhdlgfajaaGreatDoor

namespace Go.Proofs.YtemndmhdlgfajaaGreatDoor
open Go.RowKit
attribute [local irreducible] shaL

theorem walkZ_to (o : ByteArray) (leaf c : Nat) (x : Int) (s : ByteArray) (h0 : 0 ≤ x) (h1 : x ≤ 15) : walkZ o leaf c 0 x s = walkS o leaf c 0 x.toNat s := by
  unfold walkZ
  rw [show (max (0 : Int) 0).toNat = 0 from rfl, show (min x 15 - max (0 : Int) 0).toNat = x.toNat from by omega]
theorem walkZ_from (o : ByteArray) (leaf c : Nat) (x : Int) (s : ByteArray) (h0 : 0 ≤ x) (h1 : x ≤ 15) : walkZ o leaf c x 15 s = walkS o leaf c x.toNat (15 - x).toNat s := by
  unfold walkZ
  rw [show max x 0 = x from by omega, show min (15 : Int) 15 = 15 from rfl]
theorem IntsAt.at_' {w : World} {a : Option Addr} {n cap : Nat} {L : List Int} (h : IntsAt w (.slice a n cap) L) (i : Nat) (x : Int) (hx : L[i]? = some x) : ∃ g o, a = some ⟨g, o, none⟩ ∧ w.cell? ⟨g, o + i, none⟩ = some (.int .i64 x) := by
  obtain ⟨a', cap', he, hc⟩ := h
  cases he
  obtain ⟨hi, rfl⟩ := List.getElem?_eq_some_iff.1 hx
  exact hc i hi

theorem strs_row {w : World} {B n : Nat} {v : Value} {L : List ByteArray} (h : w.ownsRow B 9 1 v n (strsV L)) (e : L.length = n) : StrsAt w v L := by
  subst e
  obtain ⟨a, c, rfl⟩ := slice_own' h
  exact strs_own h
set_option maxHeartbeats 800000 in
set_option maxRecDepth 100000 in
theorem wsign_new (seed d : ByteArray) (leaf : Nat) (hs : seed.size ≤ 1000000000000) (hd : d.size = 16) (hl : leaf ≤ 4294967295) (w : World) (hr : ShaReady w) :
    Calls Tryz.prog 89 #[.string seed, .int .i64 leaf, .string d] w fun e w' => ∃ v, e = .returned (.tuple #[v, .int .i64 0]) ∧ w'.ownsRow w.heap.size 9 1 v 35 (strsV (sigS seed leaf (digs d.data.toList) 35)) ∧ w.grownBy w' none := by
  obtain ⟨i0, hi, hz0, hz1, hz2⟩ := info_parts infoStrW
  have HR := Lib.hid hr
  have hof := Lib.hid (of_ok d hd w)
  have hosz := openS_size seed
  have hdl : (digs d.data.toList).length = 35 := by rw [digs_length]; have : d.data.toList.length = 16 := hd; omega
  have hdb := digs_bd d.data.toList hd
  clear hr hd
  obtain ⟨D, hD⟩ : ∃ D, digs d.data.toList = D := ⟨_, rfl⟩
  rw [hD] at hof hdl hdb ⊢
  clear hD
  have HDL := Lib.hid hdl
  have HDB := Lib.hid hdb
  clear hdl hdb
  obtain ⟨o, hO⟩ : ∃ o, openS seed = o := ⟨_, rfl⟩
  rw [hO] at hosz
  have HO := Lib.hid hO
  clear hO
  go_enter Tryz.func89, Tryz.ntmps89
  go_wp2_with fail
  refine hof.out.mono ?_
  rintro e w0 ⟨v0, rfl, h0, g0⟩
  obtain ⟨a0, c0, rfl⟩ := (show ∃ a cap, v0 = .slice a D.length cap from let ⟨a, cap, h, _⟩ := h0; ⟨a, cap, h⟩)
  rw [HDL.out] at h0 ⊢
  have HI := Lib.hid h0
  have G0 := Lib.hid g0
  clear h0 g0 hof
  have hop := Lib.hid (wopen_any seed hs w0 (HR.out.grown G0.out))
  rw [HO.out] at hop
  go_wp2_with fail
  refine hop.out.mono ?_
  rintro e w1 ⟨rfl, g1⟩
  have G1 := Lib.hid (grownBy_trans G0.out g1)
  have HI1 := Lib.hid (HI.out.kept g1)
  clear g1 HI hop G0
  go_wp2_with (at_make; refine wpList_make_full _ rfl _ _ 35 rfl w.heap.size 9 i0 (.string ⟨#[]⟩) 1 Tryz.underlying35 hi hz0 hz1 _ _ _ _ 35 rfl rfl rfl rfl ?c1 ?c2 ?c3 ?_)
  case c1 => rw [hz2]; omega
  case c2 => unfold maxLen; omega
  case c3 => exact G1.out.size
  intro w2 hown hg
  have hm : (madeCells #[Value.string ⟨#[]⟩] 35).toList = strsV (fillS (sigS seed leaf D 0) 35) := made_strs 35
  rw [hm] at hown
  have HO2 := Lib.hid hown
  have G2 := Lib.hid hg
  clear hown hg hm
  obtain ⟨B, hB⟩ : ∃ B, w1.heap.size = B := ⟨_, rfl⟩
  rw [hB] at HO2 ⊢
  have hB1 : w1.heap.size ≤ B := by omega
  clear hB
  go_wp2_with fail
  go_loopw [12, 13, 29] (fun _ _ iv wr => ∃ k : Nat, k ≤ 35 ∧ iv = .int .i64 k ∧ Hid (wr.ownsRow w.heap.size 9 1 (.slice (some ⟨B, 0, none⟩) 35 35) 35 (strsV (fillS (sigS seed leaf D k) 35))) ∧ Hid (w1.grownBy wr none)) (fun _ _ iv _ => 35 - (intOf iv).toNat)
  case atStart => exact ⟨0, by omega, rfl, HO2.out, G2.out⟩
  case round =>
    clear HO2 G2
    obtain ⟨k, hk, rfl, HK, HG⟩ := hrel
    have HRr := Lib.hid (HR.out.grown (grownBy_trans G1.out HG.out))
    have HI := Lib.hid (HI1.out.kept HG.out)
    by_cases hlt : k < 35
    · obtain ⟨x, hx⟩ : ∃ x, D[k]? = some x := ⟨_, List.getElem?_eq_getElem (by rw [HDL.out]; exact hlt)⟩
      have hxb := HDB.out x (List.mem_of_getElem? hx)
      have hxd : D.getD k 0 = x := by rw [List.getD_eq_getElem?_getD, hx]; rfl
      obtain ⟨gi, oi, rfl, hcx⟩ := HI.out.at_' k x hx
      have HX := Lib.hid hxd
      clear hx hxd
      have hsec := Lib.hid (secret_any seed leaf k hs hl (by omega) wr HRr.out)
      have b1 : (0 : Int) ≤ (k : Int) := by omega
      go_wp2_with fail
      refine hsec.out.mono ?_
      rintro e w3 ⟨rfl, g3⟩
      have G3 := Lib.hid (grownBy_trans HG.out g3)
      have HK3 := Lib.hid (own_kept HK.out g3)
      have HR3 := Lib.hid (HRr.out.grown g3)
      clear g3 HK hsec HG HI hcx HRr
      have hwk := wwalk_any o (secretS seed leaf k) leaf k 0 x (by rw [hosz]; omega) (by rw [secretS_size]; omega) hl (by omega) (by omega) (by omega) w3 HR3.out
      rw [walkZ_to _ _ _ _ _ hxb.1 hxb.2] at hwk
      have HWK := Lib.hid hwk
      clear hwk
      go_wp2_with fail
      refine HWK.out.mono ?_
      rintro e w4 ⟨rfl, g4⟩
      have G4 := Lib.hid (grownBy_trans G3.out g4)
      have HK4 := Lib.hid (own_kept HK3.out g4)
      clear g4 HK3 HWK G3 HR3
      have hel := sigS_length seed leaf D k
      have hc := HK4.out.cellAt k (by omega)
      have hat := fillS_at (sigS seed leaf D k) 35 (by omega)
      have hput := fillS_put (sigS seed leaf D k) 35 (walkS o leaf k 0 x.toNat (secretS seed leaf k)) (by omega)
      rw [hel] at hat hput
      rw [hat] at hc
      have hf := HK4.out.frozenAt k
      have HP := Lib.hid hput
      have HE : Hid (sigS seed leaf D (k + 1) = sigS seed leaf D k ++ [walkS o leaf k 0 x.toNat (secretS seed leaf k)]) := by
        show _ = _
        rw [sigS, HO.out, HX.out]
      clear hat hput hel
      generalize walkS o leaf k 0 x.toNat (secretS seed leaf k) = S at HP HE ⊢
      go_wp2_with fail
      go_roundw
      case rel =>
        refine ⟨k + 1, by omega, by go_num, ?_, grownBy_setNew G4.out hB1 _ _⟩
        show World.ownsRow _ _ _ _ _ _ _
        rw [HE.out, ← HP.out]
        exact (HK4.out.stored _ _).1
      case measure => simp [intOf]; omega
    · have : k = 35 := by omega
      subst this
      have hown := HK.out
      rw [fillS_full _ 35 (sigS_length seed leaf D 35)] at hown
      have hst := Lib.hid hown
      clear hown HK
      go_wp2_with fail
      go_ret2
      exact ⟨_, rfl, hst.out, grownBy_trans G1.out HG.out⟩
theorem wsign_any (seed d : ByteArray) (leaf : Nat) (hs : seed.size ≤ 1000000000000) (hd : d.size = 16) (hl : leaf ≤ 4294967295) (w : World) (hr : ShaReady w) :
    Calls Tryz.prog 89 #[.string seed, .int .i64 leaf, .string d] w fun e w' => ∃ v, e = .returned (.tuple #[v, .int .i64 0]) ∧ StrsAt w' v (sigS seed leaf (digs d.data.toList) 35) ∧ w.grownBy w' none :=
  (wsign_new seed d leaf hs hd hl w hr).mono (by
    rintro e w' ⟨v, rfl, h1, h2⟩
    have hL := sigS_length seed leaf (digs d.data.toList) 35
    exact ⟨v, rfl, strs_row h1 hL, h2⟩)

set_option maxHeartbeats 400000 in
theorem isSig_any (v : Value) (L : List ByteArray) (hN : L.length = 35) (hs : ∀ s ∈ L, s.size = 16) (w : World) (hv : StrsAt w v L) :
    Calls Tryz.prog 100 #[v] w fun e w' => e = .returned (.bool true) ∧ w = w' := by
  obtain ⟨a, cap, rfl⟩ := hv.form
  have HV := Lib.hid hv
  have HN := Lib.hid hN
  have HS := Lib.hid hs
  rw [hN] at HV ⊢
  clear hv hN hs
  go_enter Tryz.func100, Tryz.ntmps100
  go_wp2_with fail
  go_loop [4, 10] (fun _ iv => ∃ k : Nat, k ≤ 35 ∧ iv = .int .i64 k) (fun _ iv => 35 - (intOf iv).toNat)
  case atStart => exact ⟨0, by omega, rfl⟩
  case round =>
    obtain ⟨k, hk, rfl⟩ := hrel
    by_cases hlt : k < 35
    · obtain ⟨x, hx⟩ : ∃ x, L[k]? = some x := ⟨_, List.getElem?_eq_getElem (by rw [HN.out]; exact hlt)⟩
      have hxs := HS.out x (List.mem_of_getElem? hx)
      obtain ⟨g, o, rfl, hc⟩ := HV.out.at_ k x hx
      have hb : ((x.size : Int) != 16) = false := by simp; omega
      have hle : x.size ≤ 16 := by omega
      have b1 : (0 : Int) ≤ (k : Int) := by omega
      clear hx hxs
      go_wp2_with fail
      go_round
      case rel => exact ⟨k + 1, by omega, by go_num⟩
      case measure => simp [intOf]; omega
    · go_wp2_with fail
      go_ret
      exact ⟨rfl, rfl⟩

set_option maxHeartbeats 800000 in
set_option maxRecDepth 100000 in
theorem wrecover_any (o d : ByteArray) (leaf : Nat) (v : Value) (L : List ByteArray) (ho : o.size ≤ 1000000000000) (hd : d.size = 16) (hl : leaf ≤ 4294967295) (hN : L.length = 35) (hs : ∀ s ∈ L, s.size = 16) (w : World) (hv : StrsAt w v L) (hr : ShaReady w) :
    Calls Tryz.prog 46 #[.string o, .int .i64 leaf, .string d, v] w fun e w' => e = .returned (.tuple #[.string (publicOfS o leaf (recS o leaf (digs d.data.toList) L 35)), .int .i64 0]) ∧ w.grownBy w' none := by
  obtain ⟨i0, hi, hz0, hz1, hz2⟩ := info_parts infoStrW
  have HR := Lib.hid hr
  have HV := Lib.hid hv
  have HN := Lib.hid hN
  have HS := Lib.hid hs
  have hof := Lib.hid (of_ok d hd w)
  have hdl : (digs d.data.toList).length = 35 := by rw [digs_length]; have : d.data.toList.length = 16 := hd; omega
  have hdb := digs_bd d.data.toList hd
  obtain ⟨av, cv, rfl⟩ := hv.form
  rw [hN] at HV ⊢
  clear hr hd hv hN hs
  obtain ⟨D, hD⟩ : ∃ D, digs d.data.toList = D := ⟨_, rfl⟩
  rw [hD] at hof hdl hdb ⊢
  clear hD
  have HDL := Lib.hid hdl
  have HDB := Lib.hid hdb
  clear hdl hdb
  go_enter Tryz.func46, Tryz.ntmps46
  go_wp2_with fail
  refine hof.out.mono ?_
  rintro e w0 ⟨v0, rfl, h0, g0⟩
  obtain ⟨a0, c0, rfl⟩ := (show ∃ a cap, v0 = .slice a D.length cap from let ⟨a, cap, h, _⟩ := h0; ⟨a, cap, h⟩)
  rw [HDL.out] at h0 ⊢
  have HI := Lib.hid h0
  have G0 := Lib.hid g0
  have HV0 := Lib.hid (HV.out.grown g0)
  clear h0 g0 hof HV
  go_wp2_with fail
  refine (isSig_any _ L HN.out HS.out w0 HV0.out).mono ?_
  rintro e w' ⟨rfl, rfl⟩
  go_wp2_with (at_make; refine wpList_make_full _ rfl _ _ 35 rfl w.heap.size 9 i0 (.string ⟨#[]⟩) 1 Tryz.underlying35 hi hz0 hz1 _ _ _ _ 35 rfl rfl rfl rfl ?c1 ?c2 ?c3 ?_)
  case c1 => rw [hz2]; omega
  case c2 => unfold maxLen; omega
  case c3 => exact G0.out.size
  intro w2 hown hg
  have hm : (madeCells #[Value.string ⟨#[]⟩] 35).toList = strsV (fillS (recS o leaf D L 0) 35) := made_strs 35
  rw [hm] at hown
  have HO2 := Lib.hid hown
  have G2 := Lib.hid hg
  clear hown hg hm
  obtain ⟨B, hB⟩ : ∃ B, w0.heap.size = B := ⟨_, rfl⟩
  rw [hB] at HO2 ⊢
  have hB1 : w0.heap.size ≤ B := by omega
  clear hB
  go_wp2_with fail
  go_loopw [13, 14, 31] (fun _ _ iv wr => ∃ k : Nat, k ≤ 35 ∧ iv = .int .i64 k ∧ Hid (wr.ownsRow w.heap.size 9 1 (.slice (some ⟨B, 0, none⟩) 35 35) 35 (strsV (fillS (recS o leaf D L k) 35))) ∧ Hid (w0.grownBy wr none)) (fun _ _ iv _ => 35 - (intOf iv).toNat)
  case atStart => exact ⟨0, by omega, rfl, HO2.out, G2.out⟩
  case round =>
    clear HO2 G2
    obtain ⟨k, hk, rfl, HK, HG⟩ := hrel
    have HRr := Lib.hid (HR.out.grown (grownBy_trans G0.out HG.out))
    have HIr := Lib.hid (HI.out.kept HG.out)
    have HVr := Lib.hid (HV0.out.grown HG.out)
    by_cases hlt : k < 35
    · obtain ⟨x, hx⟩ : ∃ x, D[k]? = some x := ⟨_, List.getElem?_eq_getElem (by rw [HDL.out]; exact hlt)⟩
      have hxb := HDB.out x (List.mem_of_getElem? hx)
      have hxd : D.getD k 0 = x := by rw [List.getD_eq_getElem?_getD, hx]; rfl
      obtain ⟨gi, oi, rfl, hcx⟩ := HIr.out.at_' k x hx
      obtain ⟨y, hy⟩ : ∃ y, L[k]? = some y := ⟨_, List.getElem?_eq_getElem (by rw [HN.out]; exact hlt)⟩
      have hyb := HS.out y (List.mem_of_getElem? hy)
      have hyd : L.getD k ByteArray.empty = y := by rw [List.getD_eq_getElem?_getD, hy]; rfl
      obtain ⟨gv, ov, rfl, hcy⟩ := HVr.out.at_ k y hy
      have HX := Lib.hid (And.intro hxd hyd)
      clear hx hxd hy hyd
      have hwk := wwalk_any o y leaf k x 15 ho (by omega) hl (by omega) (by omega) (by omega) wr HRr.out
      rw [walkZ_from _ _ _ _ _ hxb.1 hxb.2] at hwk
      have HWK := Lib.hid hwk
      clear hwk hyb
      have b1 : (0 : Int) ≤ (k : Int) := by omega
      go_wp2_with fail
      refine HWK.out.mono ?_
      rintro e w4 ⟨rfl, g4⟩
      have G4 := Lib.hid (grownBy_trans HG.out g4)
      have HK4 := Lib.hid (own_kept HK.out g4)
      clear g4 HK HWK HG HRr HIr HVr hcx hcy
      have hel := recS_length o leaf D L k
      have hc := HK4.out.cellAt k (by omega)
      have hat := fillS_at (recS o leaf D L k) 35 (by omega)
      have hput := fillS_put (recS o leaf D L k) 35 (walkS o leaf k x.toNat (15 - x).toNat y) (by omega)
      rw [hel] at hat hput
      rw [hat] at hc
      have hf := HK4.out.frozenAt k
      have HP := Lib.hid hput
      have HE : Hid (recS o leaf D L (k + 1) = recS o leaf D L k ++ [walkS o leaf k x.toNat (15 - x).toNat y]) := by
        show _ = _
        rw [recS, HX.out.1, HX.out.2]
      clear hat hput hel
      generalize walkS o leaf k x.toNat (15 - x).toNat y = S at HP HE ⊢
      go_wp2_with fail
      go_roundw
      case rel =>
        refine ⟨k + 1, by omega, by go_num, ?_, grownBy_setNew G4.out hB1 _ _⟩
        show World.ownsRow _ _ _ _ _ _ _
        rw [HE.out, ← HP.out]
        exact (HK4.out.stored _ _).1
      case measure => simp [intOf]; omega
    · have : k = 35 := by omega
      subst this
      have hown := HK.out
      rw [fillS_full _ 35 (recS_length o leaf D L 35)] at hown
      have hst := strs_own hown
      have hpo := Lib.hid (publicOf_any o leaf _ (recS o leaf D L 35) ho hl (by rw [recS_length]; omega) (by rw [recS_length]; omega) (fun s h => by rw [recS_all o leaf D L HS.out 35 (by rw [HN.out]; omega) s h]; omega) wr hst HRr.out)
      clear hown hst HK
      go_wp2_with fail
      refine hpo.out.mono ?_
      rintro e w3 ⟨rfl, g3⟩
      have G3 := Lib.hid (grownBy_trans G0.out (grownBy_trans HG.out g3))
      clear g3
      go_wp2_with fail
      go_ret2
      exact ⟨rfl, G3.out⟩
end Go.Proofs.YtemndmhdlgfajaaGreatDoor

namespace Go.Proofs.YtemndmhdlgfajaaGreatDoor
open Go.RowKit
attribute [local irreducible] shaL

def leavesS (seed : ByteArray) (h : Nat) : List ByteArray := (List.range (2 ^ h)).map (publicS seed)
theorem leavesS_length (seed : ByteArray) (h : Nat) : (leavesS seed h).length = 2 ^ h := by simp [leavesS]
theorem publicS_16 (seed : ByteArray) (i : Nat) : (publicS seed i).size = 16 := tagS_size _ _
theorem leavesS_sizes (seed : ByteArray) (h : Nat) : ∀ s ∈ leavesS seed h, s.size = 16 := by
  intro s hs
  obtain ⟨i, _, rfl⟩ := List.mem_map.1 hs
  exact publicS_16 seed i
def rootK (seed : ByteArray) (h : Nat) : ByteArray := rootS h (leavesS seed h)
def partL (seed : ByteArray) (k : Nat) : List ByteArray := (List.range k).map (publicS seed)
theorem partL_length (seed : ByteArray) (k : Nat) : (partL seed k).length = k := by simp [partL]
theorem partL_succ (seed : ByteArray) (k : Nat) : partL seed (k + 1) = partL seed k ++ [publicS seed k] := by simp [partL, List.range_succ]

/-- a key in memory -/
def KeyAt (w : World) (b : Nat) (seed : ByteArray) (h : Nat) : Prop :=
  ∃ a cap, w.heap[b]? = some (.cells #[.string seed, .slice a (2 ^ h : Nat) cap, .string (openS seed), .string (rootK seed h), .int .i64 h] 85 (0, 0)) ∧ StrsAt w (.slice a (2 ^ h : Nat) cap) (leavesS seed h)
theorem KeyAt.grown {w w' : World} {b : Nat} {seed : ByteArray} {h : Nat} (k : KeyAt w b seed h) (hg : w.grownBy w' none) : KeyAt w' b seed h := by
  obtain ⟨a, cap, h1, h2⟩ := k
  exact ⟨a, cap, (hg.block b (Array.getElem?_eq_some_iff.1 h1).1 (by simp)).trans h1, h2.grown hg⟩

/-- a key whose leaves lie in block lg -/
def KeyBlk (w : World) (b : Nat) (seed : ByteArray) (h lg : Nat) : Prop :=
  ∃ lo cap, w.heap[b]? = some (.cells #[.string seed, .slice (some ⟨lg, lo, none⟩) (2 ^ h : Nat) cap, .string (openS seed), .string (rootK seed h), .int .i64 h] 85 (0, 0)) ∧ StrsAt w (.slice (some ⟨lg, lo, none⟩) (2 ^ h : Nat) cap) (leavesS seed h)
theorem KeyBlk.at_ {w : World} {b : Nat} {seed : ByteArray} {h lg : Nat} (k : KeyBlk w b seed h lg) : KeyAt w b seed h := let ⟨lo, cap, h1, h2⟩ := k; ⟨_, cap, h1, h2⟩

set_option maxHeartbeats 400000 in
theorem heightMayBe_any (h : Nat) (hh : h ≤ 6) (w : World) :
    Calls Tryz.prog 31 #[.int .i64 h] w fun e w' => e = .returned (.bool true) ∧ w = w' := by
  have h1 : (0 : Int) ≤ (h : Int) := by omega
  have h2 : (h : Int) ≤ 6 := by omega
  go_enter Tryz.func31, Tryz.ntmps31
  go_wp2_with fail
  go_ret
  exact ⟨rfl, rfl⟩

set_option maxHeartbeats 1600000 in
set_option maxRecDepth 100000 in
theorem xnew_new (seed : ByteArray) (h : Nat) (hh : h ≤ 6) (hs : seed.size ≤ 1000000000000) (w : World) (hr : ShaReady w) :
    Calls Tryz.prog 6 #[.string seed, .int .i64 h] w fun e w' => ∃ b lg, e = .returned (.tuple #[.pointer (some ⟨b, 0, none⟩), .int .i64 0]) ∧ KeyBlk w' b seed h lg ∧ w.heap.size ≤ lg ∧ lg < b ∧ w.grownBy w' none := by
  obtain ⟨i0, hi, hz0, hz1, hz2⟩ := info_parts infoStrW
  have HR := Lib.hid hr
  obtain ⟨N, hN⟩ : ∃ N, 2 ^ h = N := ⟨_, rfl⟩
  have hN64 : N ≤ 64 := by rw [← hN]; exact pow_le64 h hh
  have hN0 : 0 < N := by rw [← hN]; exact Nat.pow_pos (by decide)
  have HN := Lib.hid hN
  have hm := Lib.hid (heightMayBe_any h hh w)
  clear hr hN
  have b1 : (0 : Int) ≤ (h : Int) := by omega
  have b2 : (h : Int) < 64 := by omega
  have hsh : IntKind.i64.wrap (2 ^ h) = (N : Int) := by
    have e : ((2 : Int) ^ h) = (N : Int) := by rw [← HN.out]; simp
    rw [e]
    exact IntWalk.i64_in _ (by omega)
  go_enter Tryz.func6, Tryz.ntmps6
  go_wp2_with fail
  refine hm.out.mono ?_
  rintro e w1 ⟨rfl, rfl⟩
  go_wp2_with (at_make; refine wpList_make_full _ rfl _ _ 35 rfl w.heap.size 9 i0 (.string ⟨#[]⟩) 1 Tryz.underlying35 hi hz0 hz1 _ _ _ _ N rfl rfl rfl rfl ?c1 ?c2 ?c3 ?_)
  case c1 => rw [hz2]; omega
  case c2 => unfold maxLen; omega
  case c3 => exact Nat.le_refl _
  intro w2 hown hg
  have hm2 : (madeCells #[Value.string ⟨#[]⟩] N).toList = strsV (fillS (partL seed 0) N) := made_strs N
  rw [hm2] at hown
  have HO2 := Lib.hid hown
  have G2 := Lib.hid hg
  clear hown hg hm2 hm
  go_wp2_with fail
  go_loopw [7, 19] (fun _ iv wr => ∃ k : Nat, k ≤ N ∧ iv = .int .i64 k ∧ Hid (wr.ownsRow w.heap.size 9 1 (.slice (some ⟨w.heap.size, 0, none⟩) N N) N (strsV (fillS (partL seed k) N))) ∧ Hid (w.grownBy wr none)) (fun _ iv _ => N - (intOf iv).toNat)
  case atStart => exact ⟨0, by omega, rfl, HO2.out, G2.out⟩
  case round =>
    clear HO2 G2
    obtain ⟨k, hk, rfl, HK, HG⟩ := hrel
    by_cases hlt : k < N
    · have hpb := Lib.hid (wpublic_any seed k hs (by omega) wr (HR.out.grown HG.out))
      have HE := Lib.hid (partL_succ seed k)
      have hel := partL_length seed k
      have hat := fillS_at (partL seed k) N (by omega)
      have hput := fillS_put (partL seed k) N (publicS seed k) (by omega)
      rw [hel] at hat hput
      have HP := Lib.hid hput
      have HAT := Lib.hid hat
      clear hat hput hel
      generalize publicS seed k = S at hpb HE HP
      have c1 : (0 : Int) ≤ (k : Int) := by omega
      have c2 : (k : Int) < (N : Int) := by omega
      go_wp2_with fail
      refine hpb.out.mono ?_
      rintro e w4 ⟨rfl, g4⟩
      have G4 := Lib.hid (grownBy_trans HG.out g4)
      have HK4 := Lib.hid (own_kept HK.out g4)
      clear g4 HK hpb HG
      have hc := (HK4.out.cellAt k (by omega)).trans HAT.out
      have hf := HK4.out.frozenAt k
      go_wp2_with fail
      go_roundw
      case rel =>
        refine ⟨k + 1, by omega, by go_num, ?_, grownBy_setNew G4.out (Nat.le_refl _) _ _⟩
        show World.ownsRow _ _ _ _ _ _ _
        rw [HE.out, ← HP.out]
        exact (HK4.out.stored _ _).1
      case measure => simp [intOf]; omega
    · obtain rfl : k = N := by omega
      have hown := HK.out
      rw [fillS_full _ _ (partL_length seed k)] at hown
      have hst : StrsAt wr (.slice (some ⟨w.heap.size, 0, none⟩) k k) (leavesS seed h) := by
        have e : partL seed k = leavesS seed h := by rw [← HN.out]; rfl
        rw [← e]
        exact strs_own hown
      have HST := Lib.hid hst
      have hroot := Lib.hid (root_ok _ (leavesS seed h) h hh (leavesS_length seed h) (fun s hs => by rw [leavesS_sizes seed h s hs]; decide) wr HST.out (HR.out.grown HG.out))
      have HRT : Hid (rootS h (leavesS seed h) = rootK seed h) := rfl
      rw [HRT.out] at hroot
      have HKA : Hid (∀ (w' : World) (b : Nat), w'.heap[b]? = some (.cells #[.string seed, .slice (some ⟨w.heap.size, 0, none⟩) k k, .string (openS seed), .string (rootK seed h), .int .i64 h] 85 (0, 0)) → StrsAt w' (.slice (some ⟨w.heap.size, 0, none⟩) k k) (leavesS seed h) → KeyBlk w' b seed h w.heap.size) := by
        intro w' b h1 h2
        refine ⟨0, k, ?_, ?_⟩
        · rw [HN.out]; exact h1
        · rw [HN.out]; exact h2
      generalize rootK seed h = R at hroot HKA
      have hop : Hid (∀ w0, ShaReady w0 → Calls Tryz.prog 34 #[.string seed] w0 fun e w' => e = .returned (.string (openS seed)) ∧ w0.grownBy w' none) := fun w0 h0 => wopen_any seed hs w0 h0
      generalize openS seed = O at hop HKA
      clear hst hown HK
      go_wp2_with fail
      refine hroot.out.mono ?_
      rintro e w3 ⟨rfl, g3⟩
      have HST3 := Lib.hid (HST.out.grown g3)
      have G3 := Lib.hid (grownBy_trans HG.out g3)
      clear g3 hroot HST HG
      go_wp2_with fail
      refine (hop.out w3 (HR.out.grown G3.out)).mono ?_
      rintro e w4 ⟨rfl, g4⟩
      have HST4 := Lib.hid (HST3.out.grown g4)
      have G4 := Lib.hid (grownBy_trans G3.out g4)
      clear g4 hop HST3 G3
      go_wp2_with fail
      go_ret2
      exact ⟨w4.heap.size + 1, w.heap.size, rfl, HKA.out _ _ (heap_alloc_at _ _ _ (by simp)) ((HST4.out.grown (World.grownBy_alloc _ _ _)).grown (World.grownBy_alloc _ _ _)), Nat.le_refl _, Nat.lt_succ_of_le G4.out.size, grownBy_alloc' (grownBy_alloc' G4.out _) _⟩
theorem xnew_any (seed : ByteArray) (h : Nat) (hh : h ≤ 6) (hs : seed.size ≤ 1000000000000) (w : World) (hr : ShaReady w) :
    Calls Tryz.prog 6 #[.string seed, .int .i64 h] w fun e w' => ∃ b, e = .returned (.tuple #[.pointer (some ⟨b, 0, none⟩), .int .i64 0]) ∧ KeyAt w' b seed h ∧ w.grownBy w' none :=
  (xnew_new seed h hh hs w hr).mono (by
    rintro e w' ⟨b, lg, rfl, h1, _, _, h2⟩
    exact ⟨b, rfl, h1.at_, h2⟩)
theorem heightMayNot (h : Int) (hh : h < 0 ∨ 6 < h) (w : World) :
    Calls Tryz.prog 31 #[.int .i64 h] w fun e w' => e = .returned (.bool false) ∧ w = w' := by
  by_cases h1 : 0 ≤ h
  · have h2 : ¬ h ≤ 6 := by omega
    go_enter Tryz.func31, Tryz.ntmps31
    go_wp2_with fail
    go_ret
    exact ⟨rfl, rfl⟩
  · go_enter Tryz.func31, Tryz.ntmps31
    go_wp2_with fail
    go_ret
    exact ⟨rfl, rfl⟩
theorem xnew_not (seed : ByteArray) (h : Int) (hh : h < 0 ∨ 6 < h) (w : World) :
    Calls Tryz.prog 6 #[.string seed, .int .i64 h] w fun e w' => e = .returned (.tuple #[.pointer none, .int .i64 1]) ∧ w = w' := by
  have hm := Lib.hid (heightMayNot h hh w)
  clear hh
  go_enter Tryz.func6, Tryz.ntmps6
  go_wp2_with fail
  refine hm.out.mono ?_
  rintro e w1 ⟨rfl, rfl⟩
  go_wp2_with fail
  go_ret2
  exact ⟨rfl, rfl⟩

theorem KeyAt.lt {w : World} {b : Nat} {seed : ByteArray} {h : Nat} (k : KeyAt w b seed h) : b < w.heap.size := by
  obtain ⟨a, cap, h1, h2⟩ := k
  exact (Array.getElem?_eq_some_iff.1 h1).1
set_option maxHeartbeats 400000 in
theorem count_any (b : Nat) (seed : ByteArray) (h N : Nat) (hN : 2 ^ h = N) (w : World) (hk : KeyAt w b seed h) :
    Calls Tryz.prog 87 #[.pointer (some ⟨b, 0, none⟩)] w fun e w' => e = .returned (.int .i64 N) ∧ w = w' := by
  obtain ⟨a, cap, h1, h2⟩ := hk
  rw [hN] at h1
  have c1 := cell_of h1 1
  simp at c1
  clear h1 h2 hN
  go_enter Tryz.func87, Tryz.ntmps87
  go_wp2_with fail
  go_ret
  exact ⟨rfl, rfl⟩
def pubV (o r : ByteArray) (h : Nat) : Value := .agg #[.string o, .string r, .int .i64 h]
set_option maxHeartbeats 400000 in
theorem xpublic_any (b : Nat) (seed : ByteArray) (h : Nat) (w : World) (hk : KeyAt w b seed h) :
    Calls Tryz.prog 7 #[.pointer (some ⟨b, 0, none⟩)] w fun e w' => e = .returned (pubV (openS seed) (rootK seed h) h) ∧ w.grownBy w' none := by
  have hlt := hk.lt
  obtain ⟨a, cap, h1, h2⟩ := hk
  have c2 := cell_of h1 2
  have c3 := cell_of h1 3
  have c4 := cell_of h1 4
  simp at c2 c3 c4
  clear h1 h2
  generalize openS seed = O at c2 ⊢
  generalize rootK seed h = R at c3 ⊢
  go_enter Tryz.func7, Tryz.ntmps7
  go_wp2_with fail
  go_returns
  exact ⟨rfl, World.grownBy_alloc _ _ _⟩

def digestS (o : ByteArray) (i : Nat) (m : ByteArray) : ByteArray := tagS 6 [o, str (be i 4), m]
theorem digestS_size (o : ByteArray) (i : Nat) (m : ByteArray) : (digestS o i m).size = 16 := tagS_size _ _
theorem wr_num4 (i : Nat) (hi : i ≤ 4294967295) : (⟨[], 0⟩ : WSt).num i 4 = ⟨[str (be i 4)], 0⟩ := by
  unfold WSt.num
  rw [if_pos ⟨by decide, by decide, show i < 256 ^ 4 by omega⟩]
  rfl
set_option maxHeartbeats 800000 in
theorem digest_any (o r m : ByteArray) (h i : Nat) (hi : i ≤ 4294967295) (ho : o.size ≤ 1000000000000) (hm : m.size ≤ 1000000000000) (w : World) (hr : ShaReady w) :
    Calls Tryz.prog 47 #[pubV o r h, .int .i64 i, .string m] w fun e w' => e = .returned (.string (digestS o i m)) ∧ w.grownBy w' none := by
  have HR := Lib.hid hr
  clear hr
  unfold pubV
  have w1 : IntKind.u32.wrap (i : Int) = (i : Int) := by simp only [IntKind.wrap, IntKind.bits, IntKind.signed, IntKind.min, IntKind.max]; simp; omega
  have w2 := wrap_u64 i (by omega)
  go_enter Tryz.func47, Tryz.ntmps47
  have hfresh : Hid (WsAt ((w.alloc (.cells #[.string o, .string r, .int .i64 h] 31)).alloc (.cells #[.pointer none, .int .i64 0, .int .i64 0] 90)) (some ⟨w.heap.size + 1, 0, none⟩) (some ⟨[], 0⟩)) := by
    have := WsAt.fresh (w.alloc (.cells #[.string o, .string r, .int .i64 h] 31))
    show WsAt _ _ _
    simpa using this
  have hcell : Hid (((w.alloc (.cells #[.string o, .string r, .int .i64 h] 31)).alloc (.cells #[.pointer none, .int .i64 0, .int .i64 0] 90)).heap[w.heap.size]? = some (.cells #[.string o, .string r, .int .i64 h] 31 (0, 0))) := by
    show _ = _
    rw [Below.heap_alloc _ _ _ (by show w.heap.size < (w.heap.push _).size; rw [Array.size_push]; exact Nat.lt_succ_self _)]
    exact heap_alloc_at _ _ _ rfl
  have hg0 : Hid (w.grownBy ((w.alloc (.cells #[.string o, .string r, .int .i64 h] 31)).alloc (.cells #[.pointer none, .int .i64 0, .int .i64 0] 90)) none) := grownBy_alloc' (World.grownBy_alloc _ _ _) _
  go_wp2_with fail
  refine (wnum_any i (by omega) 4 _ _ _ hfresh.out (WRoom.of _ _ (by decide))).mono ?_
  rintro e w3 ⟨rfl, h3, g3⟩
  have hc3 : w3.heap[w.heap.size]? = some (.cells #[.string o, .string r, .int .i64 h] 31 (0, 0)) := by
    rw [g3.block w.heap.size (by simp; omega) (by show some w.heap.size ≠ some (w.heap.size + 1); simp)]
    exact hcell.out
  have HC3 := Lib.hid hc3
  have hw3 : Hid (WrAt w3 (w.heap.size + 1) ⟨[str (be i 4)], 0⟩) := by
    have := h3
    rw [Option.map_some, wr_num4 i hi] at this
    obtain ⟨b, hb, hw⟩ := this
    cases hb
    exact hw
  have G3 := Lib.hid (grown_row hg0.out g3 (by intro g e; cases e; exact Nat.le_succ _))
  have hz4 : (str (be i 4)).size = 4 := by rw [str_size, be_length]
  have hfl : str (flat [str (be i 4)]) = str (be i 4) := by simp [flat, str]
  have HE : Hid (digestS o i m = tagS 6 [o, str (be i 4), m]) := rfl
  clear g3 h3 hc3 hcell hfresh hg0
  have hby := Lib.hid (bytes_ok w3 _ _ hw3.out (by show total [str (be i 4)] ≤ _; rw [total_cons, hz4]; decide))
  rw [hfl] at hby
  clear hfl hw3
  generalize str (be i 4) = z at hz4 HE hby
  go_wp2_with fail
  refine hby.out.mono ?_
  rintro e w4 ⟨rfl, g4⟩
  have hc4 := (g4.block _ (Array.getElem?_eq_some_iff.1 HC3.out).1 (by simp)).trans HC3.out
  have c0 := cell_of hc4 0
  simp at c0
  have G4 := Lib.hid (grownBy_trans G3.out g4)
  clear g4 hby hc4 HC3
  have hT := tagged_new w4 6 [o, z, m] _ 3 6 rfl rfl rfl (HR.out.grown G4.out) (by simp) (by
    intro s hs'
    simp at hs'
    rcases hs' with rfl | rfl | rfl <;> omega)
  rw [← HE.out] at hT
  have HT := Lib.hid hT
  clear hT
  go_wp2_with fail
  refine HT.out.mono ?_
  rintro e w5 ⟨rfl, g5⟩
  have G5 := Lib.hid (grownBy_trans G4.out g5)
  clear g5
  go_wp2_with fail
  go_ret
  exact ⟨rfl, G5.out⟩
end Go.Proofs.YtemndmhdlgfajaaGreatDoor

namespace Go.Proofs.YtemndmhdlgfajaaGreatDoor
open Go.RowKit
attribute [local irreducible] shaL

def sigV (i : Nat) (c p : Value) : Value := .agg #[.int .i64 i, c, p]
def chainsS (seed : ByteArray) (i : Nat) (m : ByteArray) : List ByteArray := sigS seed i (digs (digestS (openS seed) i m).data.toList) 35
theorem StrsAt.hold {w : World} {v : Value} {L : List ByteArray} (hv : StrsAt w v L) (h0 : 0 < L.length) : ∀ g o n c, v = .slice (some ⟨g, o, none⟩) n c → g < w.heap.size := by
  rintro g o n c rfl
  exact hv.lt h0
theorem sign_keep {w a c : World} {b : Nat} {x0 x2 x3 x4 : Value} (h : w.grownBy a none) (g : a.grownBy c none) (k0 : w.cell? ⟨b, 0, none⟩ = some x0) (k2 : w.cell? ⟨b, 2, none⟩ = some x2) (k3 : w.cell? ⟨b, 3, none⟩ = some x3) (k4 : w.cell? ⟨b, 4, none⟩ = some x4) :
    w.grownBy c none ∧ c.cell? ⟨b, 0, none⟩ = some x0 ∧ c.cell? ⟨b, 2, none⟩ = some x2 ∧ c.cell? ⟨b, 3, none⟩ = some x3 ∧ c.cell? ⟨b, 4, none⟩ = some x4 :=
  have hg := grownBy_trans h g
  ⟨hg, hg.cell k0 (by simp), hg.cell k2 (by simp), hg.cell k3 (by simp), hg.cell k4 (by simp)⟩
set_option maxHeartbeats 1600000 in
set_option maxRecDepth 100000 in
theorem xsign_new (b : Nat) (seed m : ByteArray) (h i : Nat) (hh : h ≤ 6) (hi : i < 2 ^ h) (hs : seed.size ≤ 1000000000000) (hm : m.size ≤ 1000000000000) (w : World) (hk : KeyAt w b seed h) (hr : ShaReady w) :
    Calls Tryz.prog 36 #[.pointer (some ⟨b, 0, none⟩), .int .i64 i, .string m] w fun e w' => ∃ c p, e = .returned (.tuple #[sigV i c p, .int .i64 0]) ∧ StrsAt w' c (chainsS seed i m) ∧ StrsAt w' p (pathS h (leavesS seed h) i) ∧ (∀ x, c.ownBlock = some x → w.heap.size ≤ x) ∧ (∀ x, p.ownBlock = some x → w.heap.size ≤ x) ∧ w.grownBy w' none := by
  have HR := Lib.hid hr
  obtain ⟨N, hN⟩ : ∃ N, 2 ^ h = N := ⟨_, rfl⟩
  have HN := Lib.hid hN
  have hi6 : i < 64 := Nat.lt_of_lt_of_le hi (pow_le64 h hh)
  have HK := Lib.hid hk
  obtain ⟨a, cap, h1, h2⟩ := hk
  rw [hN] at h1 h2
  have HH := Lib.hid h1
  have HL := Lib.hid h2
  have hpath : Hid (∀ w0, w.grownBy w0 none → Calls Tryz.prog 88 #[.slice a N cap, .int .i64 i] w0 fun e w' => ∃ v', e = .returned (.tuple #[v', .int .i64 0]) ∧ w'.ownsRow w0.heap.size 9 1 v' h (strsV (pathS h (leavesS seed h) i)) ∧ w0.grownBy w' none) := fun w0 h0 =>
    path_ok _ (leavesS seed h) h i hh (leavesS_length seed h) hi (fun s hs => by rw [leavesS_sizes seed h s hs]; decide) w0 (h2.grown h0) ((h2.grown h0).hold (by rw [leavesS_length]; exact Nat.pow_pos (by decide))) (hr.grown h0)
  have hiN : i < N := by rw [← hN]; exact hi
  have hn1 : (i : Int) < (N : Int) := by omega
  have hdg : Hid (∀ w0, ShaReady w0 → Calls Tryz.prog 47 #[.agg #[.string (openS seed), .string (rootK seed h), .int .i64 h], .int .i64 i, .string m] w0 fun e w' => e = .returned (.string (digestS (openS seed) i m)) ∧ w0.grownBy w' none) := fun w0 h0 => digest_any (openS seed) (rootK seed h) m h i (by omega) (by rw [openS_size]; decide) hm w0 h0
  have hsg : Hid (∀ w0, w.grownBy w0 none → ShaReady w0 → Calls Tryz.prog 89 #[.string seed, .int .i64 i, .string (digestS (openS seed) i m)] w0 fun e w' => ∃ v, e = .returned (.tuple #[v, .int .i64 0]) ∧ StrsAt w' v (chainsS seed i m) ∧ (∀ x, v.ownBlock = some x → w.heap.size ≤ x) ∧ w0.grownBy w' none) := fun w0 k0 h0 => (wsign_new seed (digestS (openS seed) i m) i hs (digestS_size _ _ _) (by omega) w0 h0).mono (by
    rintro e w' ⟨v, rfl, h1, h2⟩
    have hL := sigS_length seed i (digs (digestS (openS seed) i m).data.toList) 35
    exact ⟨v, rfl, strs_row h1 hL, fun x e => Nat.le_trans k0.size (h1.lt x e).1, h2⟩)
  generalize digestS (openS seed) i m = D at hdg hsg
  have HCL : Hid ((chainsS seed i m).length = 35) := sigS_length _ _ _ _
  generalize chainsS seed i m = C at hsg HCL ⊢
  generalize openS seed = O at hdg HH
  generalize rootK seed h = R at hdg HH
  generalize pathS h (leavesS seed h) i = P at hpath ⊢
  have c1 := cell_of HH.out 1
  simp at c1
  clear hr h1 h2 hN hi HL
  go_enter Tryz.func36, Tryz.ntmps36
  go_wp2_with fail
  have hg0 : Hid (w.grownBy (w.alloc (.cells #[.int .i64 0, .slice none 0 0, .slice none 0 0] 37)) none) := World.grownBy_alloc _ _ _
  have hzc : Hid ((w.alloc (.cells #[.int .i64 0, .slice none 0 0, .slice none 0 0] 37)).heap[w.heap.size]? = some (.cells #[.int .i64 0, .slice none 0 0, .slice none 0 0] 37 (0, 0))) := heap_alloc_at _ _ _ rfl
  have HWS : Hid (w.heap.size < (w.alloc (.cells #[.int .i64 0, .slice none 0 0, .slice none 0 0] 37)).heap.size) := by show w.heap.size < (w.heap.push _).size; rw [Array.size_push]; exact Nat.lt_succ_self _
  have hcount := Lib.hid (count_any b seed h N HN.out _ (HK.out.grown hg0.out))
  generalize w.alloc (.cells #[.int .i64 0, .slice none 0 0, .slice none 0 0] 37) = wz at hg0 hzc hcount HWS ⊢
  have c1z := hg0.out.cell c1 (by simp)
  refine hcount.out.mono ?_
  rintro e w1 ⟨rfl, rfl⟩
  go_wp2_with fail
  refine (hpath.out _ hg0.out).mono ?_
  rintro e w2 ⟨v2, rfl, ho2, g2⟩
  obtain ⟨pa, pc, rfl⟩ := slice_own' ho2
  have HP2 := Lib.hid (strs_own ho2)
  have HPB := Lib.hid ho2.lt
  have G2 := Lib.hid (grownBy_trans hg0.out g2)
  have HZ2 : Hid (w2.heap[w.heap.size]? = some (.cells #[.int .i64 0, .slice none 0 0, .slice none 0 0] 37 (0, 0))) := (g2.block _ (Array.getElem?_eq_some_iff.1 hzc.out).1 (by simp)).trans hzc.out
  have hk2 := (G2.out.block _ (Array.getElem?_eq_some_iff.1 HH.out).1 (by simp)).trans HH.out
  have k0 := cell_of hk2 0
  have k2 := cell_of hk2 2
  have k3 := cell_of hk2 3
  have k4 := cell_of hk2 4
  simp at k0 k2 k3 k4
  have HR2 := Lib.hid (HR.out.grown G2.out)
  clear g2 ho2 hpath hcount hzc hg0 hk2 c1 c1z
  go_wp2_with fail
  go_region_held3 (fun w' => w2.grownBy w' none ∧ w'.cell? ⟨b, 0, none⟩ = some (.string seed) ∧ w'.cell? ⟨b, 2, none⟩ = some (.string O) ∧ w'.cell? ⟨b, 3, none⟩ = some (.string R) ∧ w'.cell? ⟨b, 4, none⟩ = some (.int .i64 h)) (first | exact ck | exact ⟨grownBy_drew (World.grownBy.refl _ _), k0, k2, k3, k4⟩)
    (first
      | (go_at_call 47; (with_reducible refine (hdg.out _ (HR2.out.grown (grownBy_drew (World.grownBy.refl _ _)))).mono ?_); rintro e w6 ⟨rfl, g6⟩; have ck := sign_keep (grownBy_drew (World.grownBy.refl w2 none)) g6 k0 k2 k3 k4)
      | (go_at_call 89; (with_reducible refine (hsg.out _ (grownBy_trans G2.out ck.1) (HR2.out.grown ck.1)).mono ?_); rintro e w7 ⟨v7, rfl, hs7, hn7, g7⟩; have ck := sign_keep ck.1 g7 k0 k2 k3 k4))
  obtain ⟨a7, cc7, rfl⟩ := hs7.form
  have HN7 := Lib.hid hn7
  have hg7 := Lib.hid ck.1
  have hz7 := (hg7.out.block _ (Array.getElem?_eq_some_iff.1 HZ2.out).1 (by simp)).trans HZ2.out
  have z0 := cell_of hz7 0
  have z1 := cell_of hz7 1
  have z2 := cell_of hz7 2
  have f0 := free_of hz7 0
  have f1 := free_of hz7 1
  have f2 := free_of hz7 2
  simp at z0 z1 z2
  have HZ7 := Lib.hid hz7
  have HS7 := Lib.hid hs7
  have HP7 := Lib.hid (HP2.out.grown hg7.out)
  clear ck hs7 hn7 hz7 k0 k2 k3 k4
  go_wp2_with fail
  have hW := heap_setCell (heap_setCell (heap_setCell HZ7.out 0 (.int .i64 i)) 1 (.slice a7 C.length cc7)) 2 (.slice pa h pc)
  have hWg : w7.grownBy (((w7.setCell ⟨w.heap.size, 0, none⟩ (.int .i64 i)).setCell ⟨w.heap.size, 1, none⟩ (.slice a7 C.length cc7)).setCell ⟨w.heap.size, 2, none⟩ (.slice pa h pc)) (some w.heap.size) := grownBy_setCell (grownBy_setCell (grownBy_setCell (World.grownBy.refl _ _) 0 _) 1 _) 2 _
  generalize ((w7.setCell ⟨w.heap.size, 0, none⟩ (.int .i64 i)).setCell ⟨w.heap.size, 1, none⟩ (.slice a7 C.length cc7)).setCell ⟨w.heap.size, 2, none⟩ (.slice pa h pc) = wf at hW hWg ⊢
  have y0 := cell_of hW 0
  have y1 := cell_of hW 1
  have y2 := cell_of hW 2
  simp at y0 y1 y2
  refine bodyPost_ret (by simp [results, Tryz.results36, go_sem, y0, y1, y2]; try rfl) rfl ?_
  refine ⟨_, _, rfl, ?_, ?_, HN7.out, fun x e => Nat.le_trans (Nat.le_of_lt HWS.out) (HPB.out x e).1, ?_⟩
  · refine HS7.out.beside hWg ?_
    rintro g o rfl e
    cases e
    obtain ⟨g', o', e', hc⟩ := HS7.out.at_ 0 _ (List.getElem?_eq_getElem (by rw [HCL.out]; decide))
    cases e'
    rw [cell_of HZ7.out] at hc
    have hlt := (List.getElem?_eq_some_iff.1 (by simpa using hc : ([Value.int .i64 0, .slice none 0 0, .slice none 0 0] : List Value)[o + 0]? = some (.string _))).1
    have ho : o = 0 ∨ o = 1 ∨ o = 2 := by simp at hlt; omega
    rcases ho with rfl | rfl | rfl <;> simp at hc
  · refine HP7.out.beside hWg ?_
    rintro g o rfl e
    cases e
    have h1 := (HPB.out w.heap.size rfl).1
    have h2 := HWS.out
    exact absurd h1 (Nat.not_le_of_lt h2)
  · exact grown_row (grownBy_trans G2.out hg7.out) hWg (by intro g e; cases e; exact Nat.le_refl _)
theorem xsign_any (b : Nat) (seed m : ByteArray) (h i : Nat) (hh : h ≤ 6) (hi : i < 2 ^ h) (hs : seed.size ≤ 1000000000000) (hm : m.size ≤ 1000000000000) (w : World) (hk : KeyAt w b seed h) (hr : ShaReady w) :
    Calls Tryz.prog 36 #[.pointer (some ⟨b, 0, none⟩), .int .i64 i, .string m] w fun e w' => ∃ c p, e = .returned (.tuple #[sigV i c p, .int .i64 0]) ∧ StrsAt w' c (chainsS seed i m) ∧ StrsAt w' p (pathS h (leavesS seed h) i) ∧ w.grownBy w' none :=
  (xsign_new b seed m h i hh hi hs hm w hk hr).mono (by
    rintro e w' ⟨c, p, rfl, h1, h2, _, _, h3⟩
    exact ⟨c, p, rfl, h1, h2, h3⟩)
end Go.Proofs.YtemndmhdlgfajaaGreatDoor

namespace Go.Proofs.YtemndmhdlgfajaaGreatDoor
open Go.RowKit
attribute [local irreducible] shaL

theorem eq_strE (a b : ByteArray) : (a.toList == b.toList) = decide (a = b) := by
  rw [ByteArray.toList_eq, ByteArray.toList_eq, Bool.eq_iff_iff, beq_iff_eq, decide_eq_true_iff]
  exact ⟨fun h => ByteArray.ext (Array.toList_inj.1 h), fun h => by rw [h]⟩
theorem EntS.next_val {x y : EntS} (h : x.next y = 0) : y.v = x.v + 1 ∧ x.err = 0 ∧ y.p = x.value := by
  unfold EntS.next at h
  split at h
  · cases h
  · rename_i h1
    split at h
    · cases h
    · rename_i h2
      refine ⟨by omega, ?_, ?_⟩
      · exact Classical.byContradiction fun q => h2 (.inl q)
      · exact Classical.byContradiction fun q => h2 (.inr q)
set_option maxRecDepth 100000 in
set_option maxHeartbeats 1600000 in
theorem enext_any (x y : EntS) (hx : x.small) (hy : y.small) (w : World) (hr : ShaReady w) :
    Calls Tryz.prog 78 #[x.val, y.val] w fun e w' => e = .returned (.int .i64 (x.next y)) ∧ w.grownBy w' none := by
  have HV0 := Lib.hid (fun w' q => evalue_any x hx w' q)
  have hxv := hx.v
  have hyv := hy.v
  have HR := Lib.hid hr
  have HVS := Lib.hid (EntS.value_empty x)
  obtain ⟨V, hV⟩ : ∃ V, x.value = V := ⟨_, rfl⟩
  obtain ⟨er, her⟩ : ∃ er, x.err = er := ⟨_, rfl⟩
  obtain ⟨z, hz⟩ : ∃ z, x.next y = z := ⟨_, rfl⟩
  have hzz := hz
  unfold EntS.next at hzz
  rw [hV] at HV0 HVS hzz
  rw [her] at HVS hzz
  rw [hz]
  unfold EntS.val at HV0 ⊢
  obtain ⟨xv, xo, xr, xh, xp⟩ := x
  obtain ⟨yv, yo, yr, yh, yp⟩ := y
  simp only at HV0 hxv hyv hzz ⊢
  have hb0 := heap_alloc_at w (.cells #[.int .u64 xv, .string xo, .string xr, .int .i64 xh, .string xp] 34) _ rfl
  have hg0 : w.grownBy (w.alloc (.cells #[.int .u64 xv, .string xo, .string xr, .int .i64 xh, .string xp] 34)) none := World.grownBy_alloc _ _ _
  obtain ⟨W0, hW0⟩ : ∃ W0, w.alloc (.cells #[.int .u64 xv, .string xo, .string xr, .int .i64 xh, .string xp] 34) = W0 := ⟨_, rfl⟩
  rw [hW0] at hb0 hg0
  have hb1 := heap_alloc_at W0 (.cells #[.int .u64 yv, .string yo, .string yr, .int .i64 yh, .string yp] 34) _ rfl
  have hg1 : W0.grownBy (W0.alloc (.cells #[.int .u64 yv, .string yo, .string yr, .int .i64 yh, .string yp] 34)) none := World.grownBy_alloc _ _ _
  obtain ⟨W1, hW1⟩ : ∃ W1, W0.alloc (.cells #[.int .u64 yv, .string yo, .string yr, .int .i64 yh, .string yp] 34) = W1 := ⟨_, rfl⟩
  rw [hW1] at hb1 hg1
  have hc0 := hg1.heap hb0 (by simp)
  have hsz : W0.heap.size = w.heap.size + 1 := by rw [← hW0, World.size_alloc]
  rw [hsz] at hb1
  obtain ⟨x0, x1, x2, x3, x4⟩ := cells5 hc0
  obtain ⟨y0, y1, y2, y3, y4⟩ := cells5 hb1
  have HG1 := Lib.hid (grownBy_trans hg0 hg1)
  have HB1 := Lib.hid hb1
  have HW := Lib.hid (And.intro hW0 (And.intro hW1 hsz))
  clear hb0 hg0 hW0 hb1 hg1 hW1 hc0 hsz hx hy hr
  by_cases h0 : yv = 0
  · rw [if_pos (.inl h0)] at hzz
    subst hzz
    have q0 : ((yv : Int) == 0) = true := by simp [h0]
    have HZ0 := Lib.hid h0
    clear HV0 HVS x1 x2 x3 x4 h0
    go_enter Tryz.func78, Tryz.ntmps78
    go_wp2_with (rw [HW.out.1, HW.out.2.1])
    go_ret
    exact ⟨rfl, HG1.out⟩
  · have q0 : ((yv : Int) == 0) = false := beq_eq_false_iff_ne.2 (by omega)
    have q1 : IntKind.u64.wrap ((yv : Int) - 1) = (yv : Int) - 1 := IntWalk.u64_in _ (by omega)
    by_cases h1 : yv - 1 = xv
    · have q2 : ((yv : Int) - 1 != (xv : Int)) = false := by simp; omega
      have q2' : ((yv : Int) - 1 == (xv : Int)) = true := by simp; omega
      rw [if_neg (by omega)] at hzz
      clear h0 h1
      have HZ := Lib.hid hzz
      clear hzz
      go_enter Tryz.func78, Tryz.ntmps78
      go_wp2_with (rw [HW.out.1, HW.out.2.1])
      refine (HV0.out _ (HR.out.grown HG1.out)).mono ?_
      rintro e w2 ⟨rfl, g2⟩
      have hb2 := g2.heap HB1.out (by simp)
      have HG2 := Lib.hid (grownBy_trans HG1.out g2)
      clear g2 x0 x1 x2 x3 x4 y0 y1 y2 y3 y4 q0 q1 q2 q2'
      obtain ⟨y0, y1, y2, y3, y4⟩ := cells5 hb2
      clear hb2
      by_cases he : er = 0
      · have s0 : V.size ≠ 0 := fun q => (HVS.out.1 q) he
        have s1 : V.toList.isEmpty = false := by rw [emp]; simpa using s0
        have s2 : (V.toList == []) = false := by rw [beq_eq_false_iff_ne]; intro q; rw [q] at s1; cases s1
        have HE := Lib.hid he
        by_cases hp : yp = V
        · have p1 : (yp.toList == V.toList) = true := by rw [eq_strE]; simpa using hp
          have p2 : (yp.toList != V.toList) = false := by rw [bne, p1]; rfl
          have hz0 := HZ.out
          rw [if_neg (by rw [HE.out, hp]; simp)] at hz0
          subst hz0
          clear hp s0 he
          go_wp2_with fail
          go_ret
          exact ⟨rfl, HG2.out⟩
        · have p1 : (yp.toList == V.toList) = false := by rw [eq_strE]; simpa using hp
          have p2 : (yp.toList != V.toList) = true := by rw [bne, p1]; rfl
          have hz0 := HZ.out
          rw [if_pos (.inr hp)] at hz0
          subst hz0
          clear hp s0 he
          go_wp2_with fail
          go_ret
          exact ⟨rfl, HG2.out⟩
      · have s0 : V.size = 0 := HVS.out.2 he
        have s1 : V.toList.isEmpty = true := by rw [emp]; simpa using s0
        have s2 : (V.toList == []) = true := by rw [beq_iff_eq]; exact List.isEmpty_iff.1 s1
        have hz0 := HZ.out
        rw [if_pos (.inl he)] at hz0
        subst hz0
        clear he s0
        go_wp2_with fail
        go_ret
        exact ⟨rfl, HG2.out⟩
    · rw [if_pos (.inr h1)] at hzz
      subst hzz
      have q2 : ((yv : Int) - 1 != (xv : Int)) = true := by simp; omega
      have q2' : ((yv : Int) - 1 == (xv : Int)) = false := by rw [beq_eq_false_iff_ne]; omega
      clear HV0 HVS x1 x2 x3 x4
      go_enter Tryz.func78, Tryz.ntmps78
      go_wp2_with (rw [HW.out.1, HW.out.2.1])
      go_ret
      exact ⟨rfl, HG1.out⟩

/-! lists of entries -/
/-- a list of entries in memory -/
def EntsAt (w : World) (v : Value) (L : List EntS) : Prop :=
  ∃ a cap, v = .slice a L.length cap ∧ ∀ i (h : i < L.length), ∃ g o, a = some ⟨g, o, none⟩ ∧ w.cell? ⟨g, o + i * 5, none⟩ = some (.int .u64 (L[i]).v) ∧ w.cell? ⟨g, o + i * 5 + 1, none⟩ = some (.string (L[i]).o) ∧ w.cell? ⟨g, o + i * 5 + 2, none⟩ = some (.string (L[i]).r) ∧ w.cell? ⟨g, o + i * 5 + 3, none⟩ = some (.int .i64 (L[i]).h) ∧ w.cell? ⟨g, o + i * 5 + 4, none⟩ = some (.string (L[i]).p)
theorem EntsAt.grown {w w' : World} {v : Value} {L : List EntS} (h : EntsAt w v L) (k : w.grownBy w' none) : EntsAt w' v L := by
  obtain ⟨a, c, e, hc⟩ := h
  refine ⟨a, c, e, fun i hi => ?_⟩
  obtain ⟨g, o, e2, h0, h1, h2, h3, h4⟩ := hc i hi
  exact ⟨g, o, e2, k.cell h0 (by simp), k.cell h1 (by simp), k.cell h2 (by simp), k.cell h3 (by simp), k.cell h4 (by simp)⟩
theorem EntsAt.at_ {w : World} {a : Option Addr} {n cap : Nat} {L : List EntS} (h : EntsAt w (.slice a n cap) L) (i : Nat) (x : EntS) (hx : L[i]? = some x) : ∃ g o, a = some ⟨g, o, none⟩ ∧ w.cell? ⟨g, o + i * 5, none⟩ = some (.int .u64 x.v) ∧ w.cell? ⟨g, o + i * 5 + 1, none⟩ = some (.string x.o) ∧ w.cell? ⟨g, o + i * 5 + 2, none⟩ = some (.string x.r) ∧ w.cell? ⟨g, o + i * 5 + 3, none⟩ = some (.int .i64 x.h) ∧ w.cell? ⟨g, o + i * 5 + 4, none⟩ = some (.string x.p) := by
  obtain ⟨a', c', e, hc⟩ := h
  injection e with e1 e2 e3
  obtain ⟨hi, rfl⟩ := List.getElem?_eq_some_iff.1 hx
  obtain ⟨g, o, e4, hcs⟩ := hc i hi
  exact ⟨g, o, e1.trans e4, hcs⟩
theorem EntsAt.len {w : World} {a : Option Addr} {n cap : Nat} {L : List EntS} (h : EntsAt w (.slice a n cap) L) : L.length = n := by
  obtain ⟨_, _, e, _⟩ := h
  injection e with _ e _
  exact e.symm
theorem chainE_drop (L : List EntS) (k : Nat) (x y : EntS) (hx : L[k]? = some x) (hy : L[k + 1]? = some y) : chainE (L.drop k) = if x.next y ≠ 0 then x.next y else chainE (L.drop (k + 1)) := by
  obtain ⟨hi, rfl⟩ := List.getElem?_eq_some_iff.1 hx
  obtain ⟨hj, rfl⟩ := List.getElem?_eq_some_iff.1 hy
  rw [List.drop_eq_getElem_cons hi, List.drop_eq_getElem_cons hj]
  rfl
theorem chainE_last (L : List EntS) (k : Nat) (h : L.length ≤ k + 1) : chainE (L.drop k) = 0 := by
  have hl : (L.drop k).length ≤ 1 := by simp; omega
  match hm : L.drop k, hl with
  | [], _ => rfl
  | [_], _ => rfl
  | _ :: _ :: _, h => simp at h
theorem two_cells {w w1 w2 : World} {g i j : Nat} {v0 v1 v2 v3 v4 u0 u1 u2 u3 u4 : Value} (_q : w.grownBy w1 none) (k : w1.grownBy w2 none)
    (h : (w1.cell? ⟨g, i, none⟩ = some v0 ∧ w1.cell? ⟨g, i + 1, none⟩ = some v1 ∧ w1.cell? ⟨g, i + 2, none⟩ = some v2 ∧ w1.cell? ⟨g, i + 3, none⟩ = some v3 ∧ w1.cell? ⟨g, i + 4, none⟩ = some v4) ∧ w1.cell? ⟨g, j, none⟩ = some u0 ∧ w1.cell? ⟨g, j + 1, none⟩ = some u1 ∧ w1.cell? ⟨g, j + 2, none⟩ = some u2 ∧ w1.cell? ⟨g, j + 3, none⟩ = some u3 ∧ w1.cell? ⟨g, j + 4, none⟩ = some u4) :
    w2.cell? ⟨g, i, none⟩ = some v0 ∧ w2.cell? ⟨g, i + 1, none⟩ = some v1 ∧ w2.cell? ⟨g, i + 2, none⟩ = some v2 ∧ w2.cell? ⟨g, i + 3, none⟩ = some v3 ∧ w2.cell? ⟨g, i + 4, none⟩ = some v4 ∧ w2.cell? ⟨g, j, none⟩ = some u0 ∧ w2.cell? ⟨g, j + 1, none⟩ = some u1 ∧ w2.cell? ⟨g, j + 2, none⟩ = some u2 ∧ w2.cell? ⟨g, j + 3, none⟩ = some u3 ∧ w2.cell? ⟨g, j + 4, none⟩ = some u4 := by
  obtain ⟨⟨h0, h1, h2, h3, h4⟩, k0, k1, k2, k3, k4⟩ := h
  exact ⟨k.cell h0 (by simp), k.cell h1 (by simp), k.cell h2 (by simp), k.cell h3 (by simp), k.cell h4 (by simp), k.cell k0 (by simp), k.cell k1 (by simp), k.cell k2 (by simp), k.cell k3 (by simp), k.cell k4 (by simp)⟩
set_option maxRecDepth 100000 in
set_option maxHeartbeats 3200000 in
theorem ehistory_any (v : Value) (L : List EntS) (hL : ∀ x ∈ L, x.small) (hn : L.length ≤ 1000000) (w : World) (hr : ShaReady w) (hv : EntsAt w v L) :
    Calls Tryz.prog 77 #[v] w fun e w' => e = .returned (.int .i64 (histE L)) ∧ w.grownBy w' none := by
  obtain ⟨a, cap, rfl⟩ : ∃ a cap, v = .slice a L.length cap := let ⟨a, cap, e, _⟩ := hv; ⟨a, cap, e⟩
  have HV := Lib.hid hv
  have HR := Lib.hid hr
  have HS := Lib.hid hL
  obtain ⟨n, hnn⟩ : ∃ n, L.length = n := ⟨_, rfl⟩
  rw [hnn] at hn HV ⊢
  have HN := Lib.hid hnn
  clear hv hr hL
  rcases Nat.eq_zero_or_pos n with h0 | hpos
  · subst h0
    obtain rfl : L = [] := List.length_eq_zero_iff.1 hnn
    clear hnn
    go_enter Tryz.func77, Tryz.ntmps77
    go_wp2_with fail
    go_ret
    exact ⟨rfl, World.grownBy.refl _ _⟩
  · obtain ⟨x, hx⟩ : ∃ x, L[0]? = some x := ⟨_, List.getElem?_eq_getElem (by omega)⟩
    obtain ⟨g, o, rfl, c0, c1, c2, c3, c4⟩ := HV.out.at_ 0 x hx
    simp only [Nat.zero_mul, Nat.add_zero] at c0 c1 c2 c3 c4
    have hxv := (HS.out x (List.mem_of_getElem? hx)).v
    have hH : histE L = if x.v ≠ 1 then 13 else if x.p ≠ noughtsS then 15 else chainE L := by
      cases L with
      | nil => cases hx
      | cons y l => cases hx; rfl
    rw [hH]
    obtain ⟨xv, hxvv⟩ : ∃ xv, x.v = xv := ⟨_, rfl⟩
    obtain ⟨xp, hxpp⟩ : ∃ xp, x.p = xp := ⟨_, rfl⟩
    rw [hxvv] at c0 hxv ⊢
    rw [hxpp] at c4 ⊢
    have n0 : ((n : Int) == 0) = false := beq_eq_false_iff_ne.2 (by omega)
    have n1 : (0 : Int) < (n : Int) := by omega
    clear hH hx hxvv hxpp hnn c1 c2 c3
    by_cases hv1 : xv = 1
    · have v1 : ((xv : Int) != 1) = false := by simp; omega
      have v2 : ((xv : Int) == 1) = true := by simp; omega
      rw [if_neg (by simp [hv1])]
      have hnl : noughtsS.toList = [0, 0, 0, 0, 0, 0, 0, 0, 0, 0, 0, 0, 0, 0, 0, 0] := by rw [ByteArray.toList_eq]; rfl
      by_cases hp : xp = noughtsS
      · have p1 : (xp.toList == [0, 0, 0, 0, 0, 0, 0, 0, 0, 0, 0, 0, 0, 0, 0, 0]) = true := by rw [← hnl, eq_strE]; simpa using hp
        have p2 : (xp.toList != [0, 0, 0, 0, 0, 0, 0, 0, 0, 0, 0, 0, 0, 0, 0, 0]) = false := by rw [bne, p1]; rfl
        rw [if_neg (by simp [hp])]
        have hsub : ∃ m, n = m + 1 := ⟨n - 1, by omega⟩
        obtain ⟨m, hm⟩ := hsub
        have e1 : (n : Int) - 1 = (m : Int) := by omega
        have HM := Lib.hid hm
        clear hp hnl hv1 hm
        go_enter Tryz.func77, Tryz.ntmps77
        go_wp2_with fail
        clear c0 c4
        go_loopw [3, 4, 21] (fun _ _ cv wr => ∃ k : Nat, k ≤ m ∧ cv = .int .i64 k ∧ Hid (chainE L = chainE (L.drop k)) ∧ Hid (w.grownBy wr none)) (fun _ _ cv _ => m - (intOf cv).toNat)
        case atStart => exact ⟨0, Nat.zero_le _, rfl, rfl, World.grownBy.refl _ _⟩
        case round =>
          obtain ⟨k, hk, rfl, HC, HG⟩ := hrel
          by_cases hlt : k < m
          · have k1 : (k : Int) < (m : Int) := by omega
            have k0 : (0 : Int) ≤ (k : Int) := by omega
            obtain ⟨x, hx⟩ : ∃ x, L[k]? = some x := ⟨_, List.getElem?_eq_getElem (by have := HN.out; have := HM.out; omega)⟩
            obtain ⟨y, hy⟩ : ∃ y, L[k + 1]? = some y := ⟨_, List.getElem?_eq_getElem (by have := HN.out; have := HM.out; omega)⟩
            obtain ⟨g1, o1, e, ha⟩ := (HV.out.grown HG.out).at_ k x hx
            cases e
            obtain ⟨g1, o1, e, hb⟩ := (HV.out.grown HG.out).at_ (k + 1) y hy
            cases e
            have HAB := Lib.hid (And.intro ha hb)
            obtain ⟨a0, a1, a2, a3, a4⟩ := ha
            obtain ⟨b0, b1, b2, b3, b4⟩ := hb
            have hcd := chainE_drop L k x y hx hy
            have HNX := Lib.hid (fun w' q => enext_any x y (HS.out x (List.mem_of_getElem? hx)) (HS.out y (List.mem_of_getElem? hy)) w' q)
            unfold EntS.val at HNX
            have HCD := Lib.hid hcd
            obtain ⟨z, hz⟩ : ∃ z, x.next y = z := ⟨_, rfl⟩
            rw [hz] at HNX HCD
            have k2 : (k : Int) + 1 < (n : Int) := by have := HM.out; omega
            have k3 : (k : Int) < (n : Int) := by have := HM.out; omega
            have w1 : IntKind.i64.wrap ((k : Int) + 1) = (k : Int) + 1 := IntWalk.i64_in _ (by have := HM.out; omega)
            have w2 : ((k : Int) + 1).toNat = k + 1 := by omega
            have w3 : (0 : Int) ≤ (k : Int) + 1 := by omega
            clear hx hy hcd hz e1
            go_wp2_with fail
            go_region_held3 (fun w' => w'.cell? ⟨g, o + k * 5, none⟩ = some (.int .u64 x.v) ∧ w'.cell? ⟨g, o + k * 5 + 1, none⟩ = some (.string x.o) ∧ w'.cell? ⟨g, o + k * 5 + 2, none⟩ = some (.string x.r) ∧ w'.cell? ⟨g, o + k * 5 + 3, none⟩ = some (.int .i64 x.h) ∧ w'.cell? ⟨g, o + k * 5 + 4, none⟩ = some (.string x.p) ∧ w'.cell? ⟨g, o + (k + 1) * 5, none⟩ = some (.int .u64 y.v) ∧ w'.cell? ⟨g, o + (k + 1) * 5 + 1, none⟩ = some (.string y.o) ∧ w'.cell? ⟨g, o + (k + 1) * 5 + 2, none⟩ = some (.string y.r) ∧ w'.cell? ⟨g, o + (k + 1) * 5 + 3, none⟩ = some (.int .i64 y.h) ∧ w'.cell? ⟨g, o + (k + 1) * 5 + 4, none⟩ = some (.string y.p)) (first | exact ck | exact ⟨a0, a1, a2, a3, a4, b0, b1, b2, b3, b4⟩)
              ((go_at_call 78; (with_reducible refine (HNX.out _ (HR.out.grown (grownBy_drew HG.out))).mono ?_); rintro e w4 ⟨rfl, g4⟩; have ck := two_cells (grownBy_drew (World.grownBy.refl wr none)) g4 HAB.out))
            have HG4 := Lib.hid (grownBy_trans (grownBy_drew HG.out) g4)
            clear ck g4 a0 a1 a2 a3 a4 b0 b1 b2 b3 b4
            by_cases hz0 : z = 0
            · have z1 : (z != 0) = false := by simp [hz0]
              have z2 : (z == 0) = true := by simp [hz0]
              have HZ := Lib.hid hz0
              clear hz0
              go_wp2_with fail
              go_roundw
              case rel => exact ⟨k + 1, by omega, by go_num, by show _ = _; rw [HC.out, HCD.out, if_neg (by rw [HZ.out]; simp)], HG4.out⟩
              case measure => simp [intOf]; omega
            · have z1 : (z != 0) = true := by simp [hz0]
              have z2 : (z == 0) = false := by simp [hz0]
              have HZ := Lib.hid hz0
              clear hz0
              go_wp2_with fail
              go_ret
              exact ⟨by rw [HC.out, HCD.out, if_pos HZ.out]; rfl, HG4.out⟩
          · have k1 : ¬ (k : Int) < (m : Int) := by omega
            have hc := HC.out
            rw [chainE_last L k (by have := HN.out; have := HM.out; omega)] at hc
            have HC2 := Lib.hid hc
            clear hc
            go_wp2_with fail
            go_ret
            exact ⟨by rw [HC2.out]; rfl, HG.out⟩
      · have p1 : (xp.toList == [0, 0, 0, 0, 0, 0, 0, 0, 0, 0, 0, 0, 0, 0, 0, 0]) = false := by rw [← hnl, eq_strE]; simpa using hp
        have p2 : (xp.toList != [0, 0, 0, 0, 0, 0, 0, 0, 0, 0, 0, 0, 0, 0, 0, 0]) = true := by rw [bne, p1]; rfl
        rw [if_pos hp]
        clear hp hnl hv1
        go_enter Tryz.func77, Tryz.ntmps77
        go_wp2_with fail
        go_ret
        exact ⟨rfl, World.grownBy.refl _ _⟩
    · have v1 : ((xv : Int) != 1) = true := by simp; omega
      have v2 : ((xv : Int) == 1) = false := beq_eq_false_iff_ne.2 (by omega)
      rw [if_pos hv1]
      clear hv1
      go_enter Tryz.func77, Tryz.ntmps77
      go_wp2_with fail
      go_ret
      exact ⟨rfl, World.grownBy.refl _ _⟩
end Go.Proofs.YtemndmhdlgfajaaGreatDoor

namespace Go.Proofs.YtemndmhdlgfajaaGreatDoor
open Go.RowKit

set_option maxHeartbeats 400000 in
theorem wtext_any (s : ByteArray) (hm : s.size ≤ maxLen) (w : World) (p : Option Addr) (st : Option WSt) (h : WsAt w p st) (hs : WRoom st (2 + s.size)) :
    Calls Tryz.prog 38 #[.pointer p, .string s] w fun e w' => e = .returned (.pointer p) ∧ WsAt w' p (st.map (·.text s)) ∧ w.grownBy w' (prow p) := by
  have H := Lib.hid h
  have HR := Lib.hid hs
  clear h hs
  unfold maxLen at hm
  by_cases hk : s.size ≤ 4096
  · have e : (fun st : WSt => st.text s) = (fun st => (st.put (str (be s.size 2))).put s) := by funext st; simp [WSt.text, hk]
    rw [e]
    clear e
    go_enter Tryz.func38, Tryz.ntmps38
    go_wp2_with fail
    refine (number_any s.size 2 (by omega) (by omega) _).mono ?_
    rintro e w1 ⟨rfl, hb⟩
    have HB := Lib.hid (grownBy_below hb)
    clear hb
    go_wp2_with fail
    refine (put_ws (str (be s.size 2)) _ p st (H.out.grown HB.out) ?_).mono ?_
    · intro x hx
      have := HR.out x hx
      rw [str_size, be_length]
      omega
    rintro e w2 ⟨rfl, h1, h2⟩
    have H1 := Lib.hid h1
    have H2 := Lib.hid h2
    clear h1 h2
    go_wp2_with fail
    refine (put_ws s _ p _ H1.out ?_).mono ?_
    · intro x hx
      cases st with
      | none => cases hx
      | some y =>
        cases hx
        have := HR.out y rfl
        have h3 := total_put y (str (be s.size 2))
        rw [str_size, be_length] at h3
        show s.size + total (y.put (str (be s.size 2))).ts ≤ _
        omega
    rintro e w3 ⟨rfl, h3, h4⟩
    have H3 := Lib.hid h3
    have H4 := Lib.hid h4
    clear h3 h4
    go_wp2
    go_ret
    refine ⟨rfl, ?_, grownBy_trans (grownBy_any HB.out _) (grownBy_trans H2.out H4.out)⟩
    have := H3.out
    rw [Option.map_map] at this
    exact this
  · have e : (fun st : WSt => st.text s) = (fun st => st.fail 2) := by funext st; simp [WSt.text, hk]
    rw [e]
    clear e
    go_enter Tryz.func38, Tryz.ntmps38
    go_wp2_with fail
    refine (fail_ws 2 _ p st H.out).mono ?_
    rintro e w' ⟨rfl, h1, h2⟩
    have H1 := Lib.hid h1
    have H2 := Lib.hid h2
    clear h1 h2
    go_wp2
    go_ret
    exact ⟨rfl, H1.out, H2.out⟩

end Go.Proofs.YtemndmhdlgfajaaGreatDoor

namespace Go.Proofs.YtemndmhdlgfajaaGreatDoor
open Go.RowKit

set_option maxHeartbeats 400000 in
theorem rtext_any (w : World) (p : Option Addr) (st : Option RSt) (h : RsAt w p st) (hm : ∀ s, st = some s → s.rest.size ≤ maxLen) :
    Calls Tryz.prog 41 #[.pointer p] w fun e w' => e = .returned (.string ((st.map fun s => s.text.1).getD ByteArray.empty)) ∧ RsAt w' p (st.map fun s => s.text.2) ∧ w.grownBy w' (prow p) := by
  have H := Lib.hid h
  have HM := Lib.hid hm
  clear h hm
  obtain ⟨n, hn⟩ : ∃ n, n = (st.map fun s => (s.num 2).1).getD 0 := ⟨_, rfl⟩
  have hn2 : n < 65536 := by
    subst hn
    cases st with
    | none => simp
    | some s =>
      have h1 := val_lt (s.fixed (2 : Nat)).1.data.toList
      have h2 := fixed_size s 2
      have h3 : (s.fixed (2 : Nat)).1.data.toList.length ≤ 2 := by simpa using h2
      have h4 : val (s.fixed (2 : Nat)).1.data.toList < 256 ^ 2 := Nat.lt_of_lt_of_le h1 (Nat.pow_le_pow_right (by omega) h3)
      simpa [RSt.num] using h4
  have HN := Lib.hid hn
  clear hn
  by_cases hl : 4096 < n
  · go_enter Tryz.func41, Tryz.ntmps41
    go_wp2_with fail
    refine (rnum_any 2 _ p st H.out HM.out).mono ?_
    rintro e w1 ⟨rfl, h1, h2⟩
    rw [← HN.out]
    have H1 := Lib.hid h1
    have H2 := Lib.hid h2
    clear h1 h2
    go_wp2_with fail
    refine (rfail_any 4 _ p _ H1.out).mono ?_
    rintro e w2 ⟨rfl, h3, h4⟩
    have H3 := Lib.hid h3
    have H4 := Lib.hid h4
    clear h3 h4
    go_wp2
    go_ret
    have h3 := H3.out
    have hN := HN.out
    refine ⟨?_, ?_, grownBy_trans H2.out H4.out⟩
    · cases st with
      | none => rfl
      | some s =>
        simp at hN
        simp [RSt.text, ← hN, hl]
        rfl
    · cases st with
      | none => exact h3
      | some s =>
        simp at hN
        simpa [RSt.text, ← hN, hl] using h3
  · go_enter Tryz.func41, Tryz.ntmps41
    go_wp2_with fail
    refine (rnum_any 2 _ p st H.out HM.out).mono ?_
    rintro e w1 ⟨rfl, h1, h2⟩
    rw [← HN.out]
    have H1 := Lib.hid h1
    have H2 := Lib.hid h2
    clear h1 h2
    go_wp2_with fail
    refine (rfixed_any n _ p _ H1.out ?_).mono ?_
    · intro x hx
      cases st with
      | none => cases hx
      | some s =>
        cases hx
        exact Nat.le_trans (rest_le s 2).1 (HM.out s rfl)
    rintro e w2 ⟨rfl, h3, h4⟩
    have H3 := Lib.hid h3
    have H4 := Lib.hid h4
    clear h3 h4
    go_wp2
    go_ret
    have h3 := H3.out
    have hN := HN.out
    refine ⟨?_, ?_, grownBy_trans H2.out H4.out⟩
    · cases st with
      | none => rfl
      | some s =>
        simp at hN
        rw [hN] at hl
        simp [RSt.text, hN, hl]
    · cases st with
      | none => exact h3
      | some s =>
        simp at hN
        rw [hN] at hl
        simpa [RSt.text, hN, hl] using h3
end Go.Proofs.YtemndmhdlgfajaaGreatDoor
