/- The walk of merkle.Path. -/
import Derived.Test.YtmdogeampigfoaaDoorMerkB
namespace Go.Proofs.YtmdogeampigfoaaDoor
open Go.RowKit
attribute [local irreducible] shaL

theorem push_strs (P : List ByteArray) (x : ByteArray) : strsV P ++ [.string x] = strsV (P ++ [x]) := by simp [strsV]
theorem lit_one (w : World) (x : ByteArray) : ∀ j u, [Value.string x][j]? = some u → (w.alloc (.cells #[.string x] 9)).cell? ((⟨w.heap.size, 0, none⟩ : Addr).add j) = some u := by
  intro j u hj
  cases j with
  | zero =>
    simp at hj
    subst hj
    exact cell_of (heap_alloc_at _ _ _ rfl) 0
  | succ j => simp at hj
set_option maxHeartbeats 800000 in
set_option maxRecDepth 100000 in
theorem path_no (v : Value) (L : List ByteArray) (i : Int) (hN : treeB L.length = false) (w : World) (hv : StrsAt w v L) :
    Calls Tryd.prog 9 #[v, .int .i64 i] w fun e w' => e = .returned (.tuple #[.slice none 0 0, .int .i64 22]) ∧ w = w' := by
  obtain ⟨av, cv, rfl⟩ := hv.form
  have ht := isTree_any w av L.length cv
  rw [hN] at ht
  have HT := Lib.hid ht
  clear ht
  go_enter Tryd.func9, Tryd.ntmps9
  go_wp2_with fail
  refine HT.out.mono ?_
  rintro e w1 ⟨rfl, rfl⟩
  go_wp2_with fail
  go_ret2
  exact ⟨rfl, rfl⟩

set_option maxHeartbeats 800000 in
set_option maxRecDepth 100000 in
theorem path_out (v : Value) (L : List ByteArray) (i : Int) (hN : treeB L.length = true) (hi : i < 0 ∨ (L.length : Int) ≤ i) (w : World) (hv : StrsAt w v L) :
    Calls Tryd.prog 9 #[v, .int .i64 i] w fun e w' => e = .returned (.tuple #[.slice none 0 0, .int .i64 10]) ∧ w = w' := by
  obtain ⟨av, cv, rfl⟩ := hv.form
  have ht := isTree_any w av L.length cv
  rw [hN] at ht
  have HT := Lib.hid ht
  clear ht
  by_cases h0 : i < 0
  · go_enter Tryd.func9, Tryd.ntmps9
    go_wp2_with fail
    refine HT.out.mono ?_
    rintro e w1 ⟨rfl, rfl⟩
    go_wp2_with fail
    go_ret2
    exact ⟨rfl, rfl⟩
  · have h1 : (L.length : Int) ≤ i := by omega
    go_enter Tryd.func9, Tryd.ntmps9
    go_wp2_with fail
    refine HT.out.mono ?_
    rintro e w1 ⟨rfl, rfl⟩
    go_wp2_with fail
    go_ret2
    exact ⟨rfl, rfl⟩

set_option maxHeartbeats 1600000 in
set_option maxRecDepth 100000 in
theorem path_ok (v : Value) (L : List ByteArray) (h i : Nat) (hh : h ≤ 6) (hN : L.length = 2 ^ h) (hi : i < 2 ^ h) (hs : ∀ s ∈ L, s.size ≤ 1000000000000) (w : World) (hv : StrsAt w v L) (hold : ∀ g o n c, v = .slice (some ⟨g, o, none⟩) n c → g < w.heap.size) (hr : ShaReady w) :
    Calls Tryd.prog 9 #[v, .int .i64 i] w fun e w' => ∃ v', e = .returned (.tuple #[v', .int .i64 0]) ∧ w'.ownsRow w.heap.size 9 1 v' h (strsV (pathS h L i)) ∧ w.grownBy w' none := by
  obtain ⟨i0, hti, hz0, hz1, hz2⟩ := info_parts infoStrW
  have HR := Lib.hid hr
  have HV := Lib.hid hv
  have HS := Lib.hid hs
  have HN := Lib.hid hN
  obtain ⟨av, cv, rfl⟩ := hv.form
  have HO := Lib.hid hold
  have ht := isTree_any w av L.length cv
  rw [hN, treeB_pow h hh] at ht
  have HT := Lib.hid ht
  rw [hN] at HV HO ⊢
  have HI := Lib.hid hi
  have b1 : (0 : Int) ≤ (i : Int) := by omega
  have b2 : (i : Int) < ((2 ^ h : Nat) : Int) := by omega
  clear hr hv hs hN ht hold hi
  obtain ⟨Z, hZ⟩ : ∃ Z, 2 ^ h = Z := ⟨_, rfl⟩
  have HZ := Lib.hid hZ
  rw [hZ] at HT HV HO b2 HI ⊢
  clear hZ
  go_enter Tryd.func9, Tryd.ntmps9
  go_wp2_with fail
  refine HT.out.mono ?_
  rintro e w1 ⟨rfl, rfl⟩
  clear HT
  go_wp2_with fail
  generalize Value.bool (decide ((i : Int) < 0) || decide (Z ≤ i)) = d2
  generalize Value.bool (decide (Z ≤ i)) = d1
  generalize Value.bool (decide ((i : Int) < 0)) = d3
  clear b1 b2
  go_loopw [0, 1, 6] (fun lv iv pv wr => ∃ (j k n : Nat) (M P : List ByteArray) (a pa : Option Addr) (c pc : Nat), j + n = h ∧ lv = .slice a (2 ^ j) c ∧ iv = .int .i64 k ∧ Hid (k < 2 ^ j) ∧ pv = .slice pa n pc ∧ Hid (M.length = 2 ^ j) ∧ Hid (StrsAt wr (.slice a (2 ^ j) c) M) ∧ Hid (P ++ pathS j M k = pathS h L i) ∧ Hid (∀ s ∈ M, s.size ≤ 1000000000000) ∧ Hid (wr.ownsRow w.heap.size 9 1 (.slice pa n pc) n (strsV P)) ∧ Hid (∀ g o, a = some ⟨g, o, none⟩ → (Value.slice pa n pc).ownBlock ≠ some g) ∧ Hid (w.grownBy wr none)) (fun lv _ _ _ => lenOf lv)
  case atStart => exact ⟨h, i, 0, L, [], av, none, cv, 0, rfl, by rw [HZ.out], rfl, by show _ < _; rw [HZ.out]; exact HI.out, rfl, HN.out, by rw [HZ.out]; exact HV.out, rfl, HS.out, World.ownsRow_nil _ _ _ _, fun g o e => by simp [Value.ownBlock], World.grownBy.refl _ _⟩
  case round =>
    clear HV HS HN HO
    obtain ⟨j, k, n, M, P, a, pa, c, pc, hjn, rfl, rfl, HK, rfl, HM, HMV, HE, HMS, HOW, HNE, HG⟩ := hrel
    cases j with
    | succ j =>
      obtain ⟨N, hN⟩ : ∃ N, 2 ^ j = N := ⟨_, rfl⟩
      have hp0 : 0 < 2 ^ j := Nat.pow_pos (by decide)
      have hp6 := pow_le64 j (by omega)
      have hM2 := HM.out
      have hk := HK.out
      rw [pow_succ2, hN] at HMV hM2 hk ⊢
      rw [hN] at hp0 hp6
      have HN := Lib.hid hN
      clear hN HM HK
      have x1 := xor1d k
      have x2 := xor1m k
      have hxk : k ^^^ 1 < 2 * N := by omega
      have hxb : bits .xor .i64 (k : Int) 1 = ((k ^^^ 1 : Nat) : Int) := bits_xor_i64_nat k 1 (by omega) (by decide)
      have hpe : pathS (j + 1) M k = M.getD (k ^^^ 1) ByteArray.empty :: pathS j (aboveS M) (k / 2) := rfl
      obtain ⟨x, hx⟩ : ∃ x, M[k ^^^ 1]? = some x := ⟨_, List.getElem?_eq_getElem (by omega)⟩
      rw [List.getD_eq_getElem?_getD, hx, Option.getD_some] at hpe
      obtain ⟨g, o, rfl, hc⟩ := HMV.out.at_ _ x hx
      clear hx x1 x2
      generalize k ^^^ 1 = m at hxk hxb hc
      have b1 : (1 : Int) < ((2 * N : Nat) : Int) := by omega
      have b2 : (0 : Int) ≤ (m : Int) := by omega
      have b3 : (m : Int) < ((2 * N : Nat) : Int) := by omega
      obtain ⟨k2, hk2⟩ : ∃ k2, k / 2 = k2 := ⟨_, rfl⟩
      have hq : (k : Int) / 2 = (k2 : Int) := by omega
      rw [hk2] at hpe
      have HK2 : Hid (k2 < N) := by show _ < _; omega
      clear hk2
      have ho2 : Hid ((wr.alloc (.cells #[.string x] 9)).ownsRow w.heap.size 9 1 (.slice pa n pc) n (strsV P)) := HOW.out.alloc _
      go_wp2_with (at_builtin; refine wpList_append_own _ rfl _ _ 22 rfl w.heap.size 9 i0 (.string ⟨#[]⟩) 1 16 Tryd.underlying22 hti hz0 hz1 hz2 rfl (by decide) _ _ _ rfl ho2.out ⟨wr.heap.size, 0, none⟩ 1 1 [.string x] rfl rfl ?q1 ?q2 ?q3 ?q4 ?q5 ?_)
      case q1 => exact lit_one wr x
      case q2 => intro u hu; simp at hu; subst hu; rfl
      case q3 => unfold maxLen; omega
      case q4 => omega
      case q5 => have := HG.out.size; simp; omega
      intro v' w2 hown2 hg2 _
      obtain ⟨a', c', rfl⟩ := slice_own' hown2
      rw [push_strs] at hown2
      have hg2' : w.grownBy w2 none := grown_row (grownBy_alloc' HG.out _) hg2 (fun g hg => (HOW.out.lt g hg).1)
      have hmv := StrsAt.beside (HMV.out.grown (World.grownBy_alloc _ (.cells #[.string x] 9) none)) hg2 (fun g' o' e => HNE.out g' o' e)
      have ha := mabove_any _ M N hM2 hp6 HMS.out w2 hmv (HR.out.grown hg2')
      have HA := Lib.hid ha
      have HOW2 := Lib.hid hown2
      have G2 := Lib.hid hg2'
      clear ha hmv hg2' hown2 hg2 hc ho2 HOW HNE HG HMV
      go_wp2_with fail
      refine HA.out.mono ?_
      rintro e w3 ⟨v3, rfl, h3, g3⟩
      have hlt3 := h3.lt
      obtain ⟨a3, c3, rfl⟩ := slice_own' h3
      have hle2 := HOW2.out.lt
      have HO3 := Lib.hid (strs_own h3)
      have HOW3 := Lib.hid (own_kept HOW2.out g3)
      have G3 := Lib.hid (grownBy_trans G2.out g3)
      clear g3 h3 HA HOW2 G2
      go_wp2_with fail
      go_roundw
      case rel =>
        refine ⟨j, k2, n + 1, aboveS M, P ++ [x], a3, a', c3, c', by omega, by rw [HN.out], rfl, ?_, rfl, ?_, ?_, ?_, ?_, HOW3.out, ?_, G3.out⟩
        · show _ < _; rw [HN.out]; exact HK2.out
        · exact (aboveS_length _ _ hM2).trans HN.out.symm
        · show StrsAt _ _ _; rw [HN.out]; exact HO3.out
        · show _ = _
          rw [← HE.out, hpe, List.append_assoc]
          rfl
        · intro s hs; rw [aboveS_sizes _ s hs]; decide
        · intro g' o' e hb
          have h1 := hle2 g' hb
          have h2 := hlt3 g' (by rw [e]; rfl)
          omega
      case measure => simp [lenOf]; omega
    | zero =>
      obtain rfl : n = h := by omega
      have hE := HE.out
      rw [pathS, List.append_nil] at hE
      have HO2 := Lib.hid HOW.out
      rw [hE] at HO2
      clear hE HE HMV HMS HNE HOW
      go_wp2_with fail
      go_ret2
      exact ⟨_, rfl, HO2.out, HG.out⟩
end Go.Proofs.YtmdogeampigfoaaDoor
