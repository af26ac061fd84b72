/- The walks of wots.Public, Sign, Recover. -/
import Derived.Test.YtmdogeampigfoaaDoorWotsA
import Derived.Deep.LoopGhost
namespace Go.Proofs.YtmdogeampigfoaaDoor
open Go.RowKit
attribute [local irreducible] shaL

def strsV (L : List ByteArray) : List Value := L.map Value.string
theorem strsV_length (L : List ByteArray) : (strsV L).length = L.length := by simp [strsV]
theorem infoStrW : (Tryd.prog.info? 9).map (fun i => (i.zero, i.size, i.bytes)) = some (some (.string ⟨#[]⟩), 1, 16) := by kernel_rfl
theorem strs_own {w : World} {B n : Nat} {a : Option Addr} {cap : Nat} {L : List ByteArray} (h : w.ownsRow B 9 1 (.slice a n cap) n (strsV L)) : StrsAt w (.slice a n cap) L := by
  have hl := h.1
  simp [strsV] at hl
  subst hl
  refine ⟨a, cap, rfl, fun i hi => ?_⟩
  rcases h.2 with ⟨_, h0⟩ | ⟨g, cap', cur, he, hB, hg, hnc, hm, hcs, htake⟩
  · omega
  · cases he
    refine ⟨g, 0, rfl, ?_⟩
    rw [Nat.zero_add, cell_of hg]
    have : (strsV L)[i]? = some (.string L[i]) := by simp [strsV, List.getElem?_eq_getElem hi]
    rw [← htake, List.getElem?_take, if_pos (by omega)] at this
    simpa using this
theorem StrsAt.grown {w w' : World} {v : Value} {L : List ByteArray} (h : StrsAt w v L) (hg : w.grownBy w' none) : StrsAt w' v L := h.kept (below_grownBy hg)
theorem StrsAt.form {w : World} {v : Value} {L : List ByteArray} (h : StrsAt w v L) : ∃ a cap, v = .slice a L.length cap := by
  obtain ⟨a, cap, rfl, _⟩ := h
  exact ⟨a, cap, rfl⟩
theorem StrsAt.at_ {w : World} {a : Option Addr} {n cap : Nat} {L : List ByteArray} (h : StrsAt w (.slice a n cap) L) (i : Nat) (x : ByteArray) (hx : L[i]? = some x) : ∃ g o, a = some ⟨g, o, none⟩ ∧ w.cell? ⟨g, o + i, none⟩ = some (.string x) := by
  obtain ⟨a', cap', he, hc⟩ := h
  cases he
  obtain ⟨hi, rfl⟩ := List.getElem?_eq_some_iff.1 hx
  exact hc i hi
theorem made_strs (n : Nat) : (madeCells #[Value.string ⟨#[]⟩] n).toList = strsV (List.replicate n ⟨#[]⟩) := by
  apply List.ext_getElem?
  intro i
  simp [madeCells, strsV, List.getElem?_replicate]
  by_cases h : i < n <;> simp [h, Nat.mod_one]
/-- a list being filled: what is done, then empty texts -/
def fillS (L : List ByteArray) (n : Nat) : List ByteArray := L ++ List.replicate (n - L.length) ⟨#[]⟩
theorem fillS_put (L : List ByteArray) (n : Nat) (x : ByteArray) (h : L.length < n) : (strsV (fillS L n)).set L.length (.string x) = strsV (fillS (L ++ [x]) n) := by
  have e : strsV (fillS L n) = strsV L ++ (.string ⟨#[]⟩) :: strsV (List.replicate (n - (L.length + 1)) ⟨#[]⟩) := by
    rw [fillS, show n - L.length = (n - (L.length + 1)) + 1 from by omega, List.replicate_succ]
    simp [strsV]
  have hl := strsV_length L
  rw [e, List.set_append_right _ _ (by omega), hl, Nat.sub_self, List.set_cons_zero]
  simp [strsV, fillS]
theorem fillS_at (L : List ByteArray) (n : Nat) (h : L.length < n) : (strsV (fillS L n))[L.length]? = some (.string ⟨#[]⟩) := by
  have hl := strsV_length L
  rw [fillS, show n - L.length = (n - (L.length + 1)) + 1 from by omega, List.replicate_succ]
  simp only [strsV, List.map_append, List.map_cons]
  rw [List.getElem?_append_right (by simp), List.length_map, Nat.sub_self]
  rfl
theorem fillS_full (L : List ByteArray) (n : Nat) (h : L.length = n) : fillS L n = L := by
  rw [fillS, h, Nat.sub_self]
  simp

theorem StrsAt.news {w : World} {g o n cap : Nat} {L : List ByteArray} (h : StrsAt w (.slice (some ⟨g, o, none⟩) n cap) L) : ∀ j u, (strsV L)[j]? = some u → w.cell? ((⟨g, o, none⟩ : Addr).add j) = some u := by
  intro j u hj
  have hj' : j < L.length := by have := (List.getElem?_eq_some_iff.1 hj).1; rwa [strsV_length] at this
  obtain ⟨g', o', he, hc⟩ := h.at_ j _ (List.getElem?_eq_getElem hj')
  cases he
  rw [show Addr.add ⟨g, o, none⟩ j = (⟨g, o + j, none⟩ : Addr) from by simp [Addr.add], hc, ← hj]
  simp [strsV, List.getElem?_eq_getElem hj']
theorem strsV_one (L : List ByteArray) : ∀ u ∈ strsV L, u.oneCell' = true := by
  intro u hu
  obtain ⟨x, _, rfl⟩ := List.mem_map.1 hu
  rfl
theorem slice_own' {w : World} {B n : Nat} {t : TypeId} {v : Value} {xs : List Value} (h : w.ownsRow B t 1 v n xs) : ∃ a cap, v = .slice a n cap := by
  rcases h.2 with ⟨rfl, rfl⟩ | ⟨g, cap, cur, rfl, _⟩
  · exact ⟨none, 0, rfl⟩
  · exact ⟨_, _, rfl⟩

set_option maxHeartbeats 800000 in
set_option maxRecDepth 100000 in
theorem publicOf_any (o : ByteArray) (leaf : Nat) (v : Value) (L : List ByteArray) (ho : o.size ≤ 1000000000000) (hl : leaf ≤ 4294967295) (hN : L.length ≤ 900) (hN0 : 0 < L.length) (hs : ∀ s ∈ L, s.size ≤ 1000000000000) (w : World) (hv : StrsAt w v L) (hr : ShaReady w) :
    Calls Tryd.prog 36 #[.string o, .int .i64 leaf, v] w fun e w' => e = .returned (.string (publicOfS o leaf L)) ∧ w.grownBy w' none := by
  obtain ⟨i0, hi, hz0, hz1, hz2⟩ := info_parts infoStrW
  have HR := Lib.hid hr
  have HV := Lib.hid hv
  have hp := Lib.hid (place_any leaf 0 0 0 0 hl (by decide) (by decide) rfl rfl w)
  obtain ⟨a, cap, rfl⟩ := hv.form
  obtain ⟨g, oo, rfl, -⟩ := hv.at_ 0 _ (List.getElem?_eq_getElem hN0)
  have HSZ := Lib.hid hs
  clear hr hv hs
  go_enter Tryd.func36, Tryd.ntmps36
  go_wp2_with fail
  refine hp.out.mono ?_
  rintro e w1 ⟨rfl, g1⟩
  have G1 := Lib.hid g1
  clear g1
  have ho2 : Hid ((w1.alloc (.cells #[.string o, .string (placeS leaf 0 0)] 9)).ownsRow w.heap.size 9 1 (.slice (some ⟨w1.heap.size, 0, none⟩) 2 2) 2 [.string o, .string (placeS leaf 0 0)]) :=
    World.ownsRow_lit w1 #[.string o, .string (placeS leaf 0 0)] 2 G1.out.size (by unfold maxLen; omega) rfl
  have HV2 := Lib.hid ((HV.out.grown G1.out).grown (World.grownBy_alloc _ (.cells #[.string o, .string (placeS leaf 0 0)] 9) none))
  go_wp2_with (at_builtin; refine wpList_append_own _ rfl _ _ 22 rfl w.heap.size 9 i0 (.string ⟨#[]⟩) 1 16 Tryd.underlying22 hi hz0 hz1 hz2 rfl (by decide) _ _ _ rfl ho2.out ⟨g, oo, none⟩ L.length cap (strsV L) rfl (by rw [strsV_length, Nat.mul_one]) ?q1 ?q2 ?q3 ?q4 ?q5 ?_)
  case q1 => exact HV2.out.news
  case q2 => exact strsV_one L
  case q3 => unfold maxLen; omega
  case q4 => omega
  case q5 => have := G1.out.size; simp; omega
  intro v' w2 hown2 hg2 _
  obtain ⟨a', cap', rfl⟩ := slice_own' hown2
  have HG2 : Hid (w.grownBy w2 none) := grownBy_below (((below_grownBy G1.out).alloc G1.out.size _).grown hg2 (by have := G1.out.size; simp; omega) (fun r hr => by cases hr; exact G1.out.size))
  have HS2 : Hid (StrsAt w2 (.slice a' (2 + L.length) cap') ([o, placeS leaf 0 0] ++ L)) := strs_own (n := 2 + L.length) (by simpa [strsV] using hown2)
  clear hown2 hg2 ho2 HV2 G1
  have hn2 : ([o, placeS leaf 0 0] ++ L).length = 2 + L.length := by simp; omega
  have hall : ∀ s ∈ [o, placeS leaf 0 0] ++ L, s.size ≤ 1000000000000 := by
    intro s hs'
    simp only [List.cons_append, List.nil_append, List.mem_cons] at hs'
    rcases hs' with rfl | rfl | h
    · exact ho
    · rw [placeS_size]; omega
    · exact HSZ.out s h
  have hlen : (tagB 4 ([o, placeS leaf 0 0] ++ L)).length ≤ 100000000000000000 := by
    have h1 := tagB_length 4 _ _ hall
    have h2 : ([o, placeS leaf 0 0] ++ L).length * (4 + 1000000000000) ≤ 1000 * (4 + 1000000000000) := Nat.mul_le_mul_right _ (by rw [hn2]; omega)
    omega
  have ht := Lib.hid (tagged_any w2 4 _ _ HS2.out (HR.out.grown HG2.out) (by rw [hn2]; unfold maxLen; omega) hlen)
  clear hn2 hall hlen
  go_wp2_with fail
  refine ht.out.mono ?_
  rintro e w3 ⟨rfl, g3⟩
  have G3 := Lib.hid (grownBy_trans HG2.out g3)
  clear g3
  go_wp2_with fail
  go_ret
  exact ⟨rfl, G3.out⟩

set_option maxHeartbeats 800000 in
set_option maxRecDepth 100000 in
theorem wpublic_any (seed : ByteArray) (leaf : Nat) (hs : seed.size ≤ 1000000000000) (hl : leaf ≤ 4294967295) (w : World) (hr : ShaReady w) :
    Calls Tryd.prog 23 #[.string seed, .int .i64 leaf] w fun e w' => e = .returned (.string (publicS seed leaf)) ∧ w.grownBy w' none := by
  obtain ⟨i0, hi, hz0, hz1, hz2⟩ := info_parts infoStrW
  have HR := Lib.hid hr
  have hop := Lib.hid (wopen_any seed hs w hr)
  have hosz := openS_size seed
  clear hr
  have HPD : Hid (publicS seed leaf = publicOfS (openS seed) leaf (endsS seed leaf 35)) := rfl
  obtain ⟨o, hO⟩ : ∃ o, openS seed = o := ⟨_, rfl⟩
  rw [hO] at hosz hop HPD
  have HO := Lib.hid hO
  clear hO
  go_enter Tryd.func23, Tryd.ntmps23
  go_wp2_with fail
  refine hop.out.mono ?_
  rintro e w1 ⟨rfl, g1⟩
  have G1 := Lib.hid g1
  clear g1
  go_wp2_with (at_make; refine wpList_make_full _ rfl _ _ 22 rfl w.heap.size 9 i0 (.string ⟨#[]⟩) 1 Tryd.underlying22 hi hz0 hz1 _ _ _ _ 35 rfl rfl rfl rfl ?c1 ?c2 ?c3 ?_)
  case c1 => rw [hz2]; omega
  case c2 => unfold maxLen; omega
  case c3 => exact G1.out.size
  intro w2 hown hg
  have hm : (madeCells #[Value.string ⟨#[]⟩] 35).toList = strsV (fillS (endsS seed leaf 0) 35) := made_strs 35
  rw [hm] at hown
  have HO2 := Lib.hid hown
  have G2 := Lib.hid (grownBy_trans G1.out hg)
  have hB1 := G1.out.size
  clear hown hg hm G1
  obtain ⟨B, hB⟩ : ∃ B, w1.heap.size = B := ⟨_, rfl⟩
  rw [hB] at HO2 hB1 ⊢
  clear hB hop
  go_wp2_with fail
  go_loopw [7, 13] (fun _ iv wr => ∃ k : Nat, k ≤ 35 ∧ iv = .int .i64 k ∧ Hid (wr.ownsRow w.heap.size 9 1 (.slice (some ⟨B, 0, none⟩) 35 35) 35 (strsV (fillS (endsS seed leaf k) 35))) ∧ Hid (w.grownBy wr none)) (fun _ iv _ => 35 - (intOf iv).toNat)
  case atStart => exact ⟨0, by omega, rfl, HO2.out, G2.out⟩
  case round =>
    clear HO2 G2
    obtain ⟨k, hk, rfl, HK, HG⟩ := hrel
    by_cases hlt : k < 35
    · have hsec := Lib.hid (secret_any seed leaf k hs hl (by omega) wr (HR.out.grown HG.out))
      have b1 : (0 : Int) ≤ (k : Int) := by omega
      go_wp2_with fail
      refine hsec.out.mono ?_
      rintro e w3 ⟨rfl, g3⟩
      have G3 := Lib.hid (grownBy_trans HG.out g3)
      have HK3 := Lib.hid (own_kept HK.out g3)
      clear g3 HK hsec HG
      have hwk := Lib.hid (wwalk_any o (secretS seed leaf k) leaf k 0 15 (by rw [hosz]; omega) (by rw [secretS_size]; omega) hl (by omega) (by omega) (by omega) w3 (HR.out.grown G3.out))
      go_wp2_with fail
      refine hwk.out.mono ?_
      rintro e w4 ⟨rfl, g4⟩
      have G4 := Lib.hid (grownBy_trans G3.out g4)
      have HK4 := Lib.hid (own_kept HK3.out g4)
      clear g4 HK3 hwk G3
      have hel := endsS_length seed leaf k
      have hc := HK4.out.cellAt k (by omega)
      have hat := fillS_at (endsS seed leaf k) 35 (by omega)
      have hput := fillS_put (endsS seed leaf k) 35 (walkZ o leaf k 0 15 (secretS seed leaf k)) (by omega)
      rw [hel] at hat hput
      rw [hat] at hc
      have hf := HK4.out.frozenAt k
      have HP := Lib.hid hput
      have HE : Hid (endsS seed leaf (k + 1) = endsS seed leaf k ++ [walkZ o leaf k 0 15 (secretS seed leaf k)]) := by
        show _ = _
        rw [endsS, HO.out]
        rfl
      clear hat hput hel
      generalize walkZ o leaf k 0 15 (secretS seed leaf k) = S at HP HE ⊢
      go_wp2_with fail
      go_roundw
      case rel =>
        refine ⟨k + 1, by omega, by go_num, ?_, grownBy_setNew G4.out hB1 _ _⟩
        show World.ownsRow _ _ _ _ _ _ _
        rw [HE.out, ← HP.out]
        exact (HK4.out.stored _ _).1
      case measure => simp [intOf]; omega
    · have : k = 35 := by omega
      subst this
      have hown := HK.out
      rw [fillS_full _ 35 (endsS_length seed leaf 35)] at hown
      have hst := strs_own hown
      have hpo := Lib.hid (publicOf_any o leaf _ (endsS seed leaf 35) (by rw [hosz]; omega) hl (by rw [endsS_length]; omega) (by rw [endsS_length]; omega) (fun s h => by rw [endsS_all seed leaf 35 s h]; omega) wr hst (HR.out.grown HG.out))
      clear hown hst HK
      go_wp2_with fail
      refine hpo.out.mono ?_
      rintro e w3 ⟨rfl, g3⟩
      have G3 := Lib.hid (grownBy_trans HG.out g3)
      clear g3
      rw [← HPD.out]
      go_wp2_with fail
      go_ret
      exact ⟨rfl, G3.out⟩
end Go.Proofs.YtmdogeampigfoaaDoor
