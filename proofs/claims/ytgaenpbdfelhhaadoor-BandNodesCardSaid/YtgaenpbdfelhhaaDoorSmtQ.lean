/- The walks of the document's Leaf and Node. -/
import Derived.Test.YtgaenpbdfelhhaaDoorBandNodesB3
import Derived.Test.YtgaenpbdfelhhaaDoorSmtF
import Derived.Deep.DeepCutAuto
namespace Go.Proofs.YtgaenpbdfelhhaaDoor
open Go.RowKit Go.Maps
attribute [local irreducible] shaL

set_option maxRecDepth 100000 in
theorem refLeaf_any (k v : ByteArray) (hk : k.size ≤ 1000) (hv : v.size ≤ 1000) (w : World) :
    Calls Tryd.prog 38 #[.agg #[.string k, .string v]] w fun e w' => e = .returned (.string (leafS k v)) ∧ w.grownBy w' none := by
  have hg1 : w.grownBy (w.alloc (.cells #[.string k, .string v] 33)) none := World.grownBy_alloc _ _ _
  have hb1 := heap_alloc_at w (.cells #[.string k, .string v] 33) _ rfl
  have HT : Hid (∀ (w1 : World) (b : Nat), w1.heap.size = b → Calls Tryd.prog 27 #[.int .u8 9, .slice (some ⟨b, 0, none⟩) 2 2] (w1.alloc (.cells #[.string k, .string v] 9)) fun e w' => e = .returned (.string (tagS 9 [k, v])) ∧ w1.grownBy w' none) := Lib.hid (fun (w1 : World) (b : Nat) hb => refTagged_new w1 b hb 9 [k, v] _ 2 9 rfl rfl rfl (by simp) (by
    intro s hs'
    simp at hs'
    rcases hs' with rfl | rfl <;> omega))
  have h16 := tag16 9 [k, v]
  have hL : leafS k v = ⟨#[1]⟩ ++ tagS 9 [k, v] := rfl
  rw [hL]
  generalize tagS 9 [k, v] = T at HT h16 ⊢
  have q1 : (9223372036854775807 < (⟨#[1]⟩ : ByteArray).size + T.size) = False := eq_false (by rw [h16]; decide)
  have q2 : (9223372036854775807 < 1 + T.size) = False := eq_false (by rw [h16]; decide)
  have x0 := cell_of hb1 0
  have x1 := cell_of hb1 1
  simp at x0 x1
  have HG1 := Lib.hid hg1
  have HWS := Lib.hid (show (w.alloc (.cells #[.string k, .string v] 33)).heap.size = w.heap.size + 1 by simp)
  clear hg1 hb1 hL h16 hk hv
  go_enter Tryd.func38, Tryd.ntmps38
  go_wp2_with fail
  generalize w.alloc (.cells #[.string k, .string v] 33) = w1 at *
  refine (HT.out w1 _ HWS.out).mono ?_
  rintro e w2 ⟨rfl, g2⟩
  have HG2 := Lib.hid (grownBy_trans HG1.out g2)
  clear g2
  go_wp2_with fail
  go_ret
  exact ⟨rfl, HG2.out⟩
theorem own_keep2 {w w' : World} {B n s : Nat} {t : TypeId} {v : Value} {xs : List Value} {row : Option Nat} (h : w.ownsRow B t s v n xs) (k : w.grownBy w' row) (hne : ∀ x, v.ownBlock = some x → row ≠ some x) : w'.ownsRow B t s v n xs := by
  refine ⟨h.1, ?_⟩
  rcases h.2 with h' | ⟨g, cap, cur, rfl, hB, hg, r⟩
  · exact .inl h'
  · exact .inr ⟨g, cap, cur, rfl, hB, (k.block g (Array.getElem?_eq_some_iff.1 hg).1 (fun e => hne g rfl e.symm)).trans hg, r⟩
theorem side_take (b d : Nat) (M : List PairS) (i : Nat) (h : i < M.length) : side b d (M.take (i + 1)) = side b d (M.take i) ++ (if bitS M[i].1 d == b then [M[i]] else []) := filter_step M (fun x => bitS x.1 d == b) i h
theorem head_of {y : ByteArray} (hn : NodeS y) (hne : y ≠ emptyS) : ∃ h : 0 < y.size, (leafB y = true ∧ y[0] = 1) ∨ (leafB y = false ∧ y[0] = 2) := by
  cases hn with
  | none => exact absurd rfl hne
  | leaf k v => exact ⟨by rw [leafS_size]; decide, .inl ⟨leafS_leaf k v, rfl⟩⟩
  | both a b => exact ⟨by rw [bothS_size]; decide, .inr ⟨bothS_leaf a b, rfl⟩⟩
/-- of some keys the node isn't empty -/
theorem nodeN_some : ∀ (f d : Nat) (l : List PairS), d + f = 128 → Alike d l → l ≠ [] → nodeN f l d ≠ emptyS
  | 0, d, l, hd, hA, hne => by
    have := hA.few (by omega)
    match l, this, hne with
    | [x], _, _ => exact leafS_ne _ _
  | f + 1, d, l, hd, hA, hne => by
    match l, hne, hA with
    | [x], _, _ => exact leafS_ne _ _
    | x :: y :: r, _, hA =>
      rw [nodeN_more f d _ (by simp)]
      have hl := side_len d (x :: y :: r)
      have h0 := nodeN_some f (d + 1) (side 0 d (x :: y :: r)) (by omega) hA.side
      have h1 := nodeN_some f (d + 1) (side 1 d (x :: y :: r)) (by omega) hA.side
      unfold joinN
      split
      · rename_i h
        by_cases he : side 1 d (x :: y :: r) = []
        · by_cases he0 : side 0 d (x :: y :: r) = []
          · rw [he, he0] at hl; simp at hl
          · exact absurd h.1 (h0 he0)
        · exact h1 he
      · split
        · rename_i h
          by_cases he0 : side 0 d (x :: y :: r) = []
          · by_cases he : side 1 d (x :: y :: r) = []
            · rw [he, he0] at hl; simp at hl
            · exact absurd h.1 (h1 he)
          · exact h0 he0
        · exact bothS_ne _ _
set_option maxRecDepth 100000 in
set_option maxHeartbeats 6400000 in
theorem refNode_any : ∀ (f d : Nat) (v : Value) (M : List PairS) (w : World), d + f = 128 → M.length ≤ 1000000 → Alike d M → (∀ x ∈ M, x.2.size ≤ 1000) → PairsAt w v M →
    Calls Tryd.prog 19 #[v, .int .i64 d] w fun e w' => e = .returned (.string (nodeN f M d)) ∧ w.grownBy w' none := by
  intro f
  induction f with
  | zero =>
    intro d v M w hd hM hA hs hv
    obtain ⟨a, cap, rfl, hcap, _, hc⟩ := hv
    have h1 := hA.few (by omega)
    match M, h1, hc, hA, hs, hcap with
    | [], _, _, _, _, _ =>
      go_enter Tryd.func19, Tryd.ntmps19
      go_wp2_with fail
      go_ret
      exact ⟨rfl, World.grownBy.refl _ _⟩
    | [x], _, hc, hA, hs, hcap =>
      obtain ⟨g, o, rfl, c1, c2⟩ := hc 0 (by simp)
      have HL := Lib.hid (refLeaf_any x.1 x.2 (by have := hA.len x (by simp); omega) (hs x (by simp)) w)
      obtain ⟨k, y⟩ := x
      simp at c1 c2
      clear hc hA hs hM h1
      go_enter Tryd.func19, Tryd.ntmps19
      go_wp2_with fail
      refine HL.out.mono ?_
      rintro e w2 ⟨rfl, g2⟩
      have HG := Lib.hid g2
      clear g2
      go_wp2_with fail
      go_ret
      exact ⟨rfl, HG.out⟩
  | succ f ih =>
    intro d v M w hd hM hA hs hv
    have hvk := hv
    obtain ⟨a, cap, rfl, hcap, hcm, hc⟩ := hv
    by_cases h2 : 2 ≤ M.length
    · obtain ⟨i0, hti, hz0, hz1, hz2⟩ := info_parts infoPair
      obtain ⟨n, hn⟩ : ∃ n, M.length = n := ⟨_, rfl⟩
      have hres := nodeN_more f d M h2
      rw [hres]
      obtain ⟨d1, hd1⟩ : ∃ d1, d + 1 = d1 := ⟨_, rfl⟩
      have hplus : (d : Int) + 1 = (d1 : Int) := by omega
      have hdb : d1 ≤ 128 := by omega
      have hwr : IntKind.i64.wrap (d1 : Int) = (d1 : Int) := wrap_i64_nat d1 (by omega)
      rw [hd1]
      have hA0 : Alike d1 (side 0 d M) := by rw [← hd1]; exact hA.side
      have hA1 : Alike d1 (side 1 d M) := by rw [← hd1]; exact hA.side
      have hl := side_len d M
      have HI0 := Lib.hid (fun (v : Value) (w' : World) (hv : PairsAt w' v (side 0 d M)) => ih d1 v (side 0 d M) w' (by omega) (by omega) hA0 (fun x hx => hs x (List.mem_filter.1 hx).1) hv)
      have HI1 := Lib.hid (fun (v : Value) (w' : World) (hv : PairsAt w' v (side 1 d M)) => ih d1 v (side 1 d M) w' (by omega) (by omega) hA1 (fun x hx => hs x (List.mem_filter.1 hx).1) hv)
      have hx0 : side 0 d M = [] → nodeN f (side 0 d M) d1 = emptyS := fun e => by rw [e]; exact nodeN_nil _ _
      have hx1 : side 1 d M = [] → nodeN f (side 1 d M) d1 = emptyS := fun e => by rw [e]; exact nodeN_nil _ _
      have hy0 : side 0 d M ≠ [] → nodeN f (side 0 d M) d1 ≠ emptyS := nodeN_some f d1 _ (by omega) hA0
      have hy1 : side 1 d M ≠ [] → nodeN f (side 1 d M) d1 ≠ emptyS := nodeN_some f d1 _ (by omega) hA1
      have hn0 := nodeN_node f (side 0 d M) d1
      have hn1 := nodeN_node f (side 1 d M) d1
      generalize nodeN f (side 0 d M) d1 = x0 at HI0 hx0 hy0 hn0 ⊢
      generalize nodeN f (side 1 d M) d1 = x1 at HI1 hx1 hy1 hn1 ⊢
      have HBIT : Hid (∀ (i : Nat) (h : i < M.length) (w' : World), Calls Tryd.prog 18 #[.string M[i].1, .int .i64 d] w' fun e w'' => e = .returned (.int .i64 (bitS M[i].1 d : Nat)) ∧ w'.grownBy w'' none) := Lib.hid (fun i h w' => by
        have h16 := hA.len M[i] (List.getElem_mem _)
        exact (refBit_any M[i].1 (by omega) d (by omega) w').mono fun e w'' q => ⟨q.1, by rw [← q.2]; exact World.grownBy.refl _ _⟩)
      have HT : Hid (∀ (w1 : World) (b : Nat), w1.heap.size = b → Calls Tryd.prog 27 #[.int .u8 10, .slice (some ⟨b, 0, none⟩) 2 2] (w1.alloc (.cells #[.string x0, .string x1] 9)) fun e w' => e = .returned (.string (tagS 10 [x0, x1])) ∧ w1.grownBy w' none) := Lib.hid (fun (w1 : World) (b : Nat) (hb : w1.heap.size = b) => refTagged_new w1 b hb 10 [x0, x1] _ 2 10 rfl rfl rfl (by simp) (by
        have := hn0.size
        have := hn1.size
        intro s hs'
        simp at hs'
        rcases hs' with rfl | rfl <;> omega))
      have HC := Lib.hid hc
      have HX := Lib.hid (And.intro hx0 (And.intro hx1 (And.intro hy0 (And.intro hy1 (And.intro hn0 hn1)))))
      have HL := Lib.hid (And.intro hl hn)
      have hnl : n ≤ 1000000 := by omega
      have hm0 : ((n : Int) == 0) = false := by simp; omega
      have hm1 : ((n : Int) == 1) = false := by simp; omega
      rw [hn] at hcap ⊢
      have HM := Lib.hid hnl
      have HM2 : Hid (2 ≤ n) := Lib.hid (by omega)
      clear hc hA hs hvk hres hA0 hA1 hl ih hx0 hx1 hy0 hy1 hn0 hn1 hd hM h2 hd1 hn
      go_enter Tryd.func19, Tryd.ntmps19
      go_wp2_with fail
      go_loopw [5, 6, 7] (fun sa sb iv wr => ∃ (i : Nat) (av bv : Value), i ≤ n ∧ iv = .int .i64 i ∧ av = sa ∧ bv = sb ∧ Hid (wr.ownsRow w.heap.size 33 2 av (side 0 d (M.take i)).length (pv (side 0 d (M.take i)))) ∧ Hid (wr.ownsRow w.heap.size 33 2 bv (side 1 d (M.take i)).length (pv (side 1 d (M.take i)))) ∧ Hid (∀ x, av.ownBlock = some x → bv.ownBlock ≠ some x) ∧ Hid (w.grownBy wr none)) (fun _ _ iv _ => n - (intOf iv).toNat)
      case atStart => exact ⟨0, _, _, Nat.zero_le _, rfl, rfl, rfl, World.ownsRow_nil _ _ _ _, World.ownsRow_nil _ _ _ _, Lib.hid (fun x e => by simp [Value.ownBlock] at e), World.grownBy.refl _ _⟩
      case round =>
        obtain ⟨i, av, bv, hi, rfl, rfl, rfl, HA, HB, HAP, HG⟩ := hrel
        by_cases hlt : i < n
        · have d1' : (i : Int) < (n : Int) := by omega
          have d0 : (0 : Int) ≤ (i : Int) := by omega
          have hil : i < M.length := by have := HL.out.2; omega
          have hbi := HBIT.out i hil wr
          obtain ⟨g, o, rfl, h1, h2⟩ := HC.out i hil
          have hs0 := side_take 0 d M i hil
          have hs1 := side_take 1 d M i hil
          have hle := bitS_le M[i].1 d
          obtain ⟨p, hp⟩ : ∃ p, M[i] = p := ⟨_, rfl⟩
          obtain ⟨pk, py⟩ := p
          rw [hp] at h1 h2 hbi hs0 hs1 hle
          have c1 := HG.out.cell h1 (by simp)
          have c2 := HG.out.cell h2 (by simp)
          have HBI := Lib.hid hbi
          clear hbi h1 h2 hp
          by_cases hb : bitS pk d = 0
          · simp only [hb] at hs0 hs1
            simp at hs0 hs1
            have HST0 := Lib.hid hs0
            have HST1 := Lib.hid hs1
            have hbi := HBI.out
            rw [hb] at hbi
            have HBJ := Lib.hid hbi
            clear hbi hb hs0 hs1 hle
            go_wp2_with fail
            refine HBJ.out.mono ?_
            rintro e w2 ⟨rfl, g2⟩
            have HB2 := Lib.hid (own_keep2 HB.out g2 (fun _ _ => by simp))
            have HA2 := Lib.hid (own_keep2 HA.out g2 (fun _ _ => by simp))
            have HG2 := Lib.hid (grownBy_trans HG.out g2)
            have HLE : Hid ((side 0 d (M.take i)).length ≤ 1000000 ∧ w.heap.size ≤ w2.heap.size) := by
              have h1 : (side 0 d (M.take i)).length ≤ (M.take i).length := List.length_filter_le _ _
              have h2 := List.length_take_le i M
              have h3 := HG2.out.size
              have h4 := HL.out.2
              have h5 := HM.out
              exact Lib.hid (by omega)
            have c1 := g2.cell c1 (by simp)
            have c2 := g2.cell c2 (by simp)
            clear g2
            go_wp2_with (at_builtin; refine wpList_append_own_at _ rfl _ _ 24 rfl w.heap.size 33 i0 (.agg #[.string ⟨#[]⟩, .string ⟨#[]⟩]) 2 32 Tryd.underlying24 hti hz0 hz1 hz2 rfl (by decide) _ _ _ rfl (HA2.out.alloc _) ⟨w2.heap.size, 0, none⟩ 1 1 [.string pk, .string py] rfl rfl (lit_pair _ _ _) ?qa2 ?qa3 ?qa4 ?qa5 ?_)
            case qa2 => first | rfl | (intro u hu; simp at hu; rcases hu with rfl | rfl <;> rfl) | exact ⟨rfl, rfl⟩
            case qa3 => have := HLE.out; unfold maxLen; omega
            case qa4 => have := HLE.out; omega
            case qa5 => have := HLE.out; first | (simp; omega) | omega
            intro v' w3 ho hg _ hat
            have HO3 := Lib.hid ho
            have hg3 : w2.grownBy w3 (Value.ownBlock _) := (World.grownBy_alloc w2 (.cells #[.string pk, .string py] 33) _).trans hg
            have HOT := Lib.hid (own_keep2 HB2.out hg3 (fun x e q => HAP.out x q e))
            have hap3 : ∀ x, v'.ownBlock = some x → (Value.ownBlock bv) ≠ some x := by
              intro x e q
              rcases hat with h | h
              · exact HAP.out x (h.symm.trans e) q
              · rw [h] at e
                injection e with e
                have := (HB2.out.lt x q).2
                try simp at e
                omega
            have HAP3 := Lib.hid hap3
            have HG3 := Lib.hid (grown_row (grownBy_alloc' HG2.out (.cells #[.string pk, .string py] 33)) hg (fun x e => (HA2.out.lt x e).1))
            clear ho hg hg3 hat hap3
            go_wp2_with fail
            go_roundw
            case rel =>
              refine ⟨i + 1, _, _, by omega, by go_num, rfl, rfl, ?_, ?_, ?_, HG3.out⟩
              · show World.ownsRow _ _ _ _ _ _ _; rw [HST0.out, pv_append, List.length_append]; exact HO3.out
              · show World.ownsRow _ _ _ _ _ _ _; rw [HST1.out]; exact HOT.out
              · exact HAP3.out
            case measure => simp [intOf]; omega
          · have hle1 : bitS pk d ≤ 1 := hle
            have hb1 : bitS pk d = 1 := by omega
            clear hle1
            simp only [hb1] at hs0 hs1
            simp at hs0 hs1
            have HST0 := Lib.hid hs0
            have HST1 := Lib.hid hs1
            have hbi := HBI.out
            rw [hb1] at hbi
            have HBJ := Lib.hid hbi
            clear hbi hb hb1 hs0 hs1 hle
            go_wp2_with fail
            refine HBJ.out.mono ?_
            rintro e w2 ⟨rfl, g2⟩
            have HA2 := Lib.hid (own_keep2 HA.out g2 (fun _ _ => by simp))
            have HB2 := Lib.hid (own_keep2 HB.out g2 (fun _ _ => by simp))
            have HG2 := Lib.hid (grownBy_trans HG.out g2)
            have HLE : Hid ((side 1 d (M.take i)).length ≤ 1000000 ∧ w.heap.size ≤ w2.heap.size) := by
              have h1 : (side 1 d (M.take i)).length ≤ (M.take i).length := List.length_filter_le _ _
              have h2 := List.length_take_le i M
              have h3 := HG2.out.size
              have h4 := HL.out.2
              have h5 := HM.out
              exact Lib.hid (by omega)
            have c1 := g2.cell c1 (by simp)
            have c2 := g2.cell c2 (by simp)
            clear g2
            go_wp2_with (at_builtin; refine wpList_append_own_at _ rfl _ _ 24 rfl w.heap.size 33 i0 (.agg #[.string ⟨#[]⟩, .string ⟨#[]⟩]) 2 32 Tryd.underlying24 hti hz0 hz1 hz2 rfl (by decide) _ _ _ rfl (HB2.out.alloc _) ⟨w2.heap.size, 0, none⟩ 1 1 [.string pk, .string py] rfl rfl (lit_pair _ _ _) ?qb2 ?qb3 ?qb4 ?qb5 ?_)
            case qb2 => first | rfl | (intro u hu; simp at hu; rcases hu with rfl | rfl <;> rfl) | exact ⟨rfl, rfl⟩
            case qb3 => have := HLE.out; unfold maxLen; omega
            case qb4 => have := HLE.out; omega
            case qb5 => have := HLE.out; first | (simp; omega) | omega
            intro v' w3 ho hg _ hat
            have HO3 := Lib.hid ho
            have hg3 : w2.grownBy w3 (Value.ownBlock _) := (World.grownBy_alloc w2 (.cells #[.string pk, .string py] 33) _).trans hg
            have HOT := Lib.hid (own_keep2 HA2.out hg3 (fun x e q => HAP.out x e q))
            have hap3 : ∀ x, v'.ownBlock = some x → (Value.ownBlock av) ≠ some x := by
              intro x e q
              rcases hat with h | h
              · exact HAP.out x q (h.symm.trans e)
              · rw [h] at e
                injection e with e
                have := (HA2.out.lt x q).2
                try simp at e
                omega
            have HAP3 := Lib.hid hap3
            have HG3 := Lib.hid (grown_row (grownBy_alloc' HG2.out (.cells #[.string pk, .string py] 33)) hg (fun x e => (HB2.out.lt x e).1))
            clear ho hg hg3 hat hap3
            go_wp2_with fail
            go_roundw
            case rel =>
              refine ⟨i + 1, _, _, by omega, by go_num, rfl, rfl, ?_, ?_, ?_, HG3.out⟩
              · show World.ownsRow _ _ _ _ _ _ _; rw [HST0.out]; exact HOT.out
              · show World.ownsRow _ _ _ _ _ _ _; rw [HST1.out, pv_append, List.length_append]; exact HO3.out
              · exact Lib.hid (fun x e q => HAP3.out x q e)
            case measure => simp [intOf]; omega
        · have d1' : ¬ (i : Int) < (n : Int) := by omega
          have hin : M.take i = M := List.take_of_length_le (by have := HL.out.2; omega)
          rw [hin] at HA HB
          have HPA := Lib.hid (pairs_own HA.out)
          have HPB := Lib.hid (pairs_own HB.out)
          obtain ⟨aa, ac, rfl, _⟩ := HPA.out
          obtain ⟨ba, bc, rfl, _⟩ := HPB.out
          have HS0 := Lib.hid (HI0.out _ wr HPA.out)
          have HS1 := Lib.hid (fun (w' : World) (q : wr.grownBy w' none) => HI1.out _ w' (HPB.out.grown q))
          obtain ⟨la, hla⟩ : ∃ la, (side 0 d M).length = la := ⟨_, rfl⟩
          obtain ⟨lb, hlb⟩ : ∃ lb, (side 1 d M).length = lb := ⟨_, rfl⟩
          rw [hla] at HS0 ⊢
          rw [hlb] at HS1 ⊢
          have hsum : la + lb = n := by have := HL.out; omega
          have hla0 : la = 0 → side 0 d M = [] := fun e => List.eq_nil_of_length_eq_zero (hla.trans e)
          have hlb0 : lb = 0 → side 1 d M = [] := fun e => List.eq_nil_of_length_eq_zero (hlb.trans e)
          have hla1 : la ≠ 0 → side 0 d M ≠ [] := fun e q => e (by rw [← hla, q]; rfl)
          have hlb1 : lb ≠ 0 → side 1 d M ≠ [] := fun e q => e (by rw [← hlb, q]; rfl)
          have HZ := Lib.hid (And.intro (fun e => HX.out.1 (hla0 e)) (And.intro (fun e => HX.out.2.1 (hlb0 e)) (And.intro (fun e => HX.out.2.2.1 (hla1 e)) (fun e => HX.out.2.2.2.1 (hlb1 e)))))
          have HN2 := Lib.hid (And.intro HX.out.2.2.2.2.1 HX.out.2.2.2.2.2)
          have HJ0 : Hid (joinN x0 x1 = if x0 = emptyS ∧ (x1 = emptyS ∨ leafB x1 = true) then x1 else if x1 = emptyS ∧ leafB x0 = true then x0 else bothS x0 x1) := Lib.hid (show joinN x0 x1 = _ from rfl)
          have hB : bothS x0 x1 = ⟨#[2]⟩ ++ tagS 10 [x0, x1] := rfl
          have h16 := tag16 10 [x0, x1]
          rw [hB] at HJ0
          generalize tagS 10 [x0, x1] = T at HT h16 HJ0 ⊢
          have q1 : (9223372036854775807 < (⟨#[2]⟩ : ByteArray).size + T.size) = False := eq_false (by rw [h16]; decide)
          have q2 : (9223372036854775807 < 1 + T.size) = False := eq_false (by rw [h16]; decide)
          have HSUM := Lib.hid hsum
          clear hin hla hlb hla0 hlb0 hla1 hlb1 hB h16 hsum HA HB HAP HPA HPB HX
          go_wp2_with fail
          refine HS0.out.mono ?_
          rintro e w2 ⟨rfl, g2⟩
          have HG2 := Lib.hid (grownBy_trans HG.out g2)
          have HS2 := Lib.hid (HS1.out w2 g2)
          clear g2
          go_wp2_with fail
          refine HS2.out.mono ?_
          rintro e w3 ⟨rfl, g3⟩
          have HG3 := Lib.hid (grownBy_trans HG2.out g3)
          clear g3
          by_cases ha : la = 0
          · have hlbn : lb ≠ 0 := by have := HSUM.out; have := HM2.out; omega
            have e1 : ((la : Int) == 0) = true := by rw [ha]; rfl
            have e2 : ((lb : Int) == 0) = false := by simpa using hlbn
            have hx := HZ.out.1 ha
            have hy := HZ.out.2.2.2 hlbn
            obtain ⟨hz, ⟨hl1, hh⟩ | ⟨hl1, hh⟩⟩ := head_of HN2.out.2 hy
            · have HJ : Hid (joinN x0 x1 = x1) := by rw [HJ0.out, if_pos ⟨hx, .inr hl1⟩]; exact rfl
              have hh2 : ((x1[0].toNat : Int) == 1) = true := by rw [hh]; rfl
              have hz2 : (0 : Int) < (x1.size : Int) := by omega
              clear ha hlbn hx hy hl1
              go_wp2_with fail
              go_ret
              exact ⟨by rw [HJ.out]; rfl, HG3.out⟩
            · have HJ : Hid (joinN x0 x1 = ⟨#[2]⟩ ++ T) := by rw [HJ0.out, if_neg (by simp [hy, hl1]), if_neg (by simp [hy])]; exact rfl
              have hh2 : ((x1[0].toNat : Int) == 1) = false := by rw [hh]; rfl
              have hz2 : (0 : Int) < (x1.size : Int) := by omega
              clear ha hlbn hx hy hl1
              go_wp2_with fail
              refine (HT.out w3 _ rfl).mono ?_
              rintro e w4 ⟨rfl, g4⟩
              have HG4 := Lib.hid (grownBy_trans HG3.out g4)
              clear g4
              go_wp2_with fail
              go_ret
              exact ⟨by rw [HJ.out]; rfl, HG4.out⟩
          · have e1 : ((la : Int) == 0) = false := by simpa using ha
            have hx := HZ.out.2.2.1 ha
            by_cases hb : lb = 0
            · have e2 : ((lb : Int) == 0) = true := by rw [hb]; rfl
              have hy := HZ.out.2.1 hb
              obtain ⟨hz, ⟨hl1, hh⟩ | ⟨hl1, hh⟩⟩ := head_of HN2.out.1 hx
              · have HJ : Hid (joinN x0 x1 = x0) := by rw [HJ0.out, if_neg (by simp [hx]), if_pos ⟨hy, hl1⟩]; exact rfl
                have hh2 : ((x0[0].toNat : Int) == 1) = true := by rw [hh]; rfl
                have hz2 : (0 : Int) < (x0.size : Int) := by omega
                clear ha hb hx hy hl1
                go_wp2_with fail
                go_ret
                exact ⟨by rw [HJ.out]; rfl, HG3.out⟩
              · have HJ : Hid (joinN x0 x1 = ⟨#[2]⟩ ++ T) := by rw [HJ0.out, if_neg (by simp [hx]), if_neg (by simp [hl1])]; exact rfl
                have hh2 : ((x0[0].toNat : Int) == 1) = false := by rw [hh]; rfl
                have hz2 : (0 : Int) < (x0.size : Int) := by omega
                clear ha hb hx hy hl1
                go_wp2_with fail
                refine (HT.out w3 _ rfl).mono ?_
                rintro e w4 ⟨rfl, g4⟩
                have HG4 := Lib.hid (grownBy_trans HG3.out g4)
                clear g4
                go_wp2_with fail
                go_ret
                exact ⟨by rw [HJ.out]; rfl, HG4.out⟩
            · have e2 : ((lb : Int) == 0) = false := by simpa using hb
              have hy := HZ.out.2.2.2 hb
              have HJ : Hid (joinN x0 x1 = ⟨#[2]⟩ ++ T) := by rw [HJ0.out, if_neg (by simp [hx]), if_neg (by simp [hy])]; exact rfl
              clear ha hb hx hy
              go_wp2_with fail
              refine (HT.out w3 _ rfl).mono ?_
              rintro e w4 ⟨rfl, g4⟩
              have HG4 := Lib.hid (grownBy_trans HG3.out g4)
              clear g4
              go_wp2_with fail
              go_ret
              exact ⟨by rw [HJ.out]; rfl, HG4.out⟩
    · match M, h2, hc, hA, hs, hcap with
      | [], _, _, _, _, _ =>
        go_enter Tryd.func19, Tryd.ntmps19
        go_wp2_with fail
        go_ret
        exact ⟨rfl, World.grownBy.refl _ _⟩
      | [x], _, hc, hA, hs, hcap =>
        obtain ⟨g, o, rfl, c1, c2⟩ := hc 0 (by simp)
        have HL := Lib.hid (refLeaf_any x.1 x.2 (by have := hA.len x (by simp); omega) (hs x (by simp)) w)
        obtain ⟨k, y⟩ := x
        simp at c1 c2
        clear hc hA hs hM h2 hvk ih
        go_enter Tryd.func19, Tryd.ntmps19
        go_wp2_with fail
        refine HL.out.mono ?_
        rintro e w2 ⟨rfl, g2⟩
        have HG := Lib.hid g2
        clear g2
        go_wp2_with fail
        go_ret
        exact ⟨rfl, HG.out⟩
      | _ :: _ :: _, h2, _, _, _, _ => simp at h2
end Go.Proofs.YtgaenpbdfelhhaaDoor
