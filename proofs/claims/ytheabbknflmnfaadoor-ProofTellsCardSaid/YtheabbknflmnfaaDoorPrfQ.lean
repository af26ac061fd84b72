/- The walk of the document's Beside (layer 14). -/
import Derived.Test.YtheabbknflmnfaaDoorPrfVX
import Derived.Test.YtheabbknflmnfaaDoorSmtQ
import Derived.Laws.AppendOwnNone
namespace Go.Proofs.YtheabbknflmnfaaDoor
open Go.RowKit Go.Maps
attribute [local irreducible] shaL

theorem own_lit1 (w : World) (base : Nat) (x : ByteArray) (hb : base ≤ w.heap.size) : (w.alloc (.cells #[.string x] 9)).ownsRow base 9 1 (.slice (some ⟨w.heap.size, 0, none⟩) 1 1) 1 [.string x] :=
  World.ownsRow_lit w #[.string x] 1 hb (by unfold maxLen; omega) rfl
theorem strs_news {w : World} {g c : Nat} {L : List ByteArray} {B : Nat} (h : w.ownsRow B 9 1 (.slice (some ⟨g, 0, none⟩) L.length c) L.length (strsV L)) : ∀ j u, (strsV L)[j]? = some u → w.cell? ((⟨g, 0, none⟩ : Addr).add j) = some u := (strs_own h).news
theorem strs_one (L : List ByteArray) : ∀ u ∈ strsV L, u.oneCell' = true := by
  intro u hu
  obtain ⟨x, _, rfl⟩ := List.mem_map.1 hu
  rfl
set_option maxRecDepth 100000 in
set_option maxHeartbeats 6400000 in
theorem refBeside_any (key : ByteArray) (hk16 : key.size = 16) : ∀ (f d : Nat) (v : Value) (M : List PairS) (w : World), d + f = 128 → M.length ≤ 1000000 → Alike d M → (∀ x ∈ M, x.2.size ≤ 1000) → PairsAt w v M →
    Calls Tryd.prog 27 #[v, .string key, .int .i64 d] w fun e w' => ∃ v', e = .returned v' ∧ w'.ownsRow w.heap.size 9 1 v' (wayB key f M d).length (strsV (wayB key f M d)) ∧ (wayB key f M d = [] → v' = .slice none 0 0) ∧ w.grownBy w' none := by
  have few : ∀ (f d : Nat) (a : Option Addr) (cap : Nat) (M : List PairS) (w : World), M.length ≤ 1 → wayB key f M d = [] → Calls Tryd.prog 27 #[.slice a M.length cap, .string key, .int .i64 d] w fun e w' => ∃ v', e = .returned v' ∧ w'.ownsRow w.heap.size 9 1 v' (wayB key f M d).length (strsV (wayB key f M d)) ∧ (wayB key f M d = [] → v' = .slice none 0 0) ∧ w.grownBy w' none := by
    intro f d a cap M w hM hw
    obtain ⟨n, hn⟩ : ∃ n, M.length = n := ⟨_, rfl⟩
    rw [hn] at hM ⊢
    have d1 : (n : Int) < 2 := by omega
    rw [hw]
    clear hw hn
    go_enter Tryd.func27, Tryd.ntmps27
    go_wp2_with fail
    go_ret
    exact ⟨_, rfl, World.ownsRow_nil _ _ _ _, fun _ => rfl, World.grownBy.refl _ _⟩
  intro f
  induction f with
  | zero =>
    intro d v M w hd hM hA hs hv
    obtain ⟨a, cap, rfl, hcap, _, hc⟩ := hv
    exact few 0 d a cap M w (hA.few (by omega)) rfl
  | succ f ih =>
    intro d v M w hd hM hA hs hv
    have hvk := hv
    obtain ⟨a, cap, rfl, hcap, hcm, hc⟩ := hv
    by_cases h2 : 2 ≤ M.length
    · obtain ⟨i0, hti, hz0, hz1, hz2⟩ := info_parts infoPair
      obtain ⟨i1, hti1, hy0, hy1, hy2⟩ := info_parts infoStrW
      obtain ⟨n, hn⟩ : ∃ n, M.length = n := ⟨_, rfl⟩
      obtain ⟨d1, hd1⟩ : ∃ d1, d + 1 = d1 := ⟨_, rfl⟩
      have hres : wayB key (f + 1) M d = nodeN f (offS key d M) d1 :: wayB key f (onS key d M) d1 := by
        show (if M.length < 2 then [] else nodeN f (offS key d M) (d + 1) :: wayB key f (onS key d M) (d + 1)) = _
        rw [if_neg (by omega), hd1]
      rw [hres]
      have hplus : (d : Int) + 1 = (d1 : Int) := by omega
      have hdb : d1 ≤ 128 := by omega
      have hwr : IntKind.i64.wrap (d1 : Int) = (d1 : Int) := wrap_i64_nat d1 (by omega)
      have hA0 : Alike d1 (onS key d M) := by rw [← hd1]; exact hA.side
      have hA1 : Alike d1 (offS key d M) := by rw [← hd1]; exact hA.side
      have hl := off_len key d M
      have HI0 := Lib.hid (fun (v : Value) (w' : World) (hv : PairsAt w' v (onS key d M)) => ih d1 v (onS key d M) w' (by omega) (by omega) hA0 (fun x hx => hs x (List.mem_filter.1 hx).1) hv)
      have HI1 := Lib.hid (fun (v : Value) (w' : World) (hv : PairsAt w' v (offS key d M)) => refNode_any f d1 v (offS key d M) w' (by omega) (by omega) hA1 (fun x hx => hs x (List.mem_filter.1 hx).1) hv)
      have hlw := way_len key f d1 (onS key d M)
      generalize nodeN f (offS key d M) d1 = x1 at HI1 ⊢
      generalize wayB key f (onS key d M) d1 = L0 at HI0 hlw ⊢
      have HBIT : Hid (∀ (i : Nat) (h : i < M.length) (w' : World), Calls Tryd.prog 19 #[.string M[i].1, .int .i64 d] w' fun e w'' => e = .returned (.int .i64 (bitS M[i].1 d : Nat)) ∧ w'.grownBy w'' none) := Lib.hid (fun i h w' => by
        have h16 := hA.len M[i] (List.getElem_mem _)
        exact (refBit_any M[i].1 (by omega) d (by omega) w').mono fun e w'' q => ⟨q.1, by rw [← q.2]; exact World.grownBy.refl _ _⟩)
      have HKB : Hid (∀ (w' : World), Calls Tryd.prog 19 #[.string key, .int .i64 d] w' fun e w'' => e = .returned (.int .i64 (bitS key d : Nat)) ∧ w'.grownBy w'' none) := Lib.hid (fun w' => (refBit_any key (by omega) d (by omega) w').mono fun e w'' q => ⟨q.1, by rw [← q.2]; exact World.grownBy.refl _ _⟩)
      have HC := Lib.hid hc
      have HL := Lib.hid (And.intro hl hn)
      have hnl : n ≤ 1000000 := by omega
      have hm0 : ¬ (n : Int) < 2 := by omega
      rw [hn] at hcap ⊢
      have HM := Lib.hid hnl
      have HLW : Hid (L0.length ≤ 128) := Lib.hid (by omega)
      clear hc hA hs hvk hres hA0 hA1 hl ih few hd hM h2 hd1 hn hlw
      go_enter Tryd.func27, Tryd.ntmps27
      go_wp2_with fail
      go_loopw [7, 8, 9] (fun sa sb iv wr => ∃ (i : Nat) (av bv : Value), i ≤ n ∧ iv = .int .i64 i ∧ av = sa ∧ bv = sb ∧ Hid (wr.ownsRow w.heap.size 33 2 av (onS key d (M.take i)).length (pv (onS key d (M.take i)))) ∧ Hid (wr.ownsRow w.heap.size 33 2 bv (offS key d (M.take i)).length (pv (offS key d (M.take i)))) ∧ Hid (∀ x, av.ownBlock = some x → bv.ownBlock ≠ some x) ∧ Hid (w.grownBy wr none)) (fun _ _ iv _ => n - (intOf iv).toNat)
      case atStart => exact ⟨0, _, _, Nat.zero_le _, rfl, rfl, rfl, World.ownsRow_nil _ _ _ _, World.ownsRow_nil _ _ _ _, Lib.hid (fun x e => by simp [Value.ownBlock] at e), World.grownBy.refl _ _⟩
      case round =>
        obtain ⟨i, av, bv, hi, rfl, rfl, rfl, HA, HB, HAP, HG⟩ := hrel
        by_cases hlt : i < n
        · have d1' : (i : Int) < (n : Int) := by omega
          have d0 : (0 : Int) ≤ (i : Int) := by omega
          have hil : i < M.length := by have := HL.out.2; omega
          have hbi := HBIT.out i hil wr
          obtain ⟨g, o, rfl, h1, h2⟩ := HC.out i hil
          have hs0 : onS key d (M.take (i + 1)) = _ := side_take (bitS key d) d M i hil
          have hs1 : offS key d (M.take (i + 1)) = _ := side_take (1 - bitS key d) d M i hil
          have hle := bitS_le M[i].1 d
          have hlk := bitS_le key d
          have hkb := HKB.out
          obtain ⟨p, hp⟩ : ∃ p, M[i] = p := ⟨_, rfl⟩
          obtain ⟨pk, py⟩ := p
          rw [hp] at h1 h2 hbi hs0 hs1 hle
          have c1 := HG.out.cell h1 (by simp)
          have c2 := HG.out.cell h2 (by simp)
          have HBI := Lib.hid hbi
          clear hbi h1 h2 hp
          by_cases hb : bitS pk d = bitS key d
          · have hzA : (bitS pk d == bitS key d) = true := by simp [hb]
            have hzB : (bitS pk d == 1 - bitS key d) = false := by simp; omega
            have hzC : ((bitS pk d : Int) == (bitS key d : Int)) = true := by simp [hb]
            rw [hzA, if_pos rfl] at hs0
            rw [hzB, if_neg (by simp), List.append_nil] at hs1
            have HST0 := Lib.hid hs0
            have HST1 := Lib.hid hs1
            have HBJ := HBI
            obtain ⟨q1, hq1⟩ : ∃ q, bitS pk d = q := ⟨_, rfl⟩
            obtain ⟨q2, hq2⟩ : ∃ q, bitS key d = q := ⟨_, rfl⟩
            rw [hq1] at HBJ hzC
            rw [hq2] at hkb hzC
            have HKJ := Lib.hid hkb
            clear hb hs0 hs1 hle hlk hzA hzB hkb hq1 hq2
            go_wp2_with fail
            refine HBJ.out.mono ?_
            rintro e w1 ⟨rfl, g1⟩
            have c1 := g1.cell c1 (by simp)
            have c2 := g1.cell c2 (by simp)
            go_wp2_with fail
            refine (HKJ.out w1).mono ?_
            rintro e w2 ⟨rfl, g2'⟩
            have g2 := grownBy_trans g1 g2'
            clear g1
            have HB2 := Lib.hid (own_keep2 HB.out g2 (fun _ _ => by simp))
            have HA2 := Lib.hid (own_keep2 HA.out g2 (fun _ _ => by simp))
            have HG2 := Lib.hid (grownBy_trans HG.out g2)
            have HLE : Hid ((onS key d (M.take i)).length ≤ 1000000 ∧ w.heap.size ≤ w2.heap.size) := by
              have h1 : (onS key d (M.take i)).length ≤ (M.take i).length := List.length_filter_le _ _
              have h2 := List.length_take_le i M
              have h3 := HG2.out.size
              have h4 := HL.out.2
              have h5 := HM.out
              exact Lib.hid (by omega)
            have c1 := g2'.cell c1 (by simp)
            have c2 := g2'.cell c2 (by simp)
            clear g2 g2'
            go_wp2_with (at_builtin; refine wpList_append_own_at _ rfl _ _ 24 rfl w.heap.size 33 i0 (.agg #[.string ⟨#[]⟩, .string ⟨#[]⟩]) 2 32 Tryd.underlying24 hti hz0 hz1 hz2 rfl (by decide) _ _ _ rfl (HA2.out.alloc _) ⟨w2.heap.size, 0, none⟩ 1 1 [.string pk, .string py] rfl rfl (lit_pair _ _ _) ?qa2 ?qa3 ?qa4 ?qa5 ?_)
            case qa2 => first | rfl | (intro u hu; simp at hu; rcases hu with rfl | rfl <;> rfl) | exact ⟨rfl, rfl⟩
            case qa3 => have := HLE.out; unfold maxLen; omega
            case qa4 => have := HLE.out; omega
            case qa5 => have := HLE.out; first | (simp; omega) | omega
            intro v' w3 ho hg _ hat
            have HO3 := Lib.hid ho
            have hg3 : w2.grownBy w3 (Value.ownBlock _) := (World.grownBy_alloc w2 (.cells #[.string pk, .string py] 33) _).trans hg
            have HOT := Lib.hid (own_keep2 HB2.out hg3 (fun x e q => HAP.out x q e))
            have hap3 : ∀ x, v'.ownBlock = some x → (Value.ownBlock bv) ≠ some x := by
              intro x e q
              rcases hat with h | h
              · exact HAP.out x (h.symm.trans e) q
              · rw [h] at e
                injection e with e
                have := (HB2.out.lt x q).2
                try simp at e
                omega
            have HAP3 := Lib.hid hap3
            have HG3 := Lib.hid (grown_row (grownBy_alloc' HG2.out (.cells #[.string pk, .string py] 33)) hg (fun x e => (HA2.out.lt x e).1))
            clear ho hg hg3 hat hap3
            go_wp2_with fail
            go_roundw
            case rel =>
              refine ⟨i + 1, _, _, by omega, by go_num, rfl, rfl, ?_, ?_, ?_, HG3.out⟩
              · show World.ownsRow _ _ _ _ _ _ _; rw [HST0.out, pv_append, List.length_append]; exact HO3.out
              · show World.ownsRow _ _ _ _ _ _ _; rw [HST1.out]; exact HOT.out
              · exact HAP3.out
            case measure => simp [intOf]; omega
          · have hle1 : bitS pk d ≤ 1 := hle
            have hzA : (bitS pk d == bitS key d) = false := by simp [hb]
            have hzB : (bitS pk d == 1 - bitS key d) = true := by simp; omega
            have hzC : ((bitS pk d : Int) == (bitS key d : Int)) = false := by simp; omega
            clear hle1
            rw [hzB, if_pos rfl] at hs1
            rw [hzA, if_neg (by simp), List.append_nil] at hs0
            have HST0 := Lib.hid hs0
            have HST1 := Lib.hid hs1
            have HBJ := HBI
            obtain ⟨q1, hq1⟩ : ∃ q, bitS pk d = q := ⟨_, rfl⟩
            obtain ⟨q2, hq2⟩ : ∃ q, bitS key d = q := ⟨_, rfl⟩
            rw [hq1] at HBJ hzC
            rw [hq2] at hkb hzC
            have HKJ := Lib.hid hkb
            clear hb hs0 hs1 hle hlk hzA hzB hkb hq1 hq2
            go_wp2_with fail
            refine HBJ.out.mono ?_
            rintro e w1 ⟨rfl, g1⟩
            have c1 := g1.cell c1 (by simp)
            have c2 := g1.cell c2 (by simp)
            go_wp2_with fail
            refine (HKJ.out w1).mono ?_
            rintro e w2 ⟨rfl, g2'⟩
            have g2 := grownBy_trans g1 g2'
            clear g1
            have HA2 := Lib.hid (own_keep2 HA.out g2 (fun _ _ => by simp))
            have HB2 := Lib.hid (own_keep2 HB.out g2 (fun _ _ => by simp))
            have HG2 := Lib.hid (grownBy_trans HG.out g2)
            have HLE : Hid ((offS key d (M.take i)).length ≤ 1000000 ∧ w.heap.size ≤ w2.heap.size) := by
              have h1 : (offS key d (M.take i)).length ≤ (M.take i).length := List.length_filter_le _ _
              have h2 := List.length_take_le i M
              have h3 := HG2.out.size
              have h4 := HL.out.2
              have h5 := HM.out
              exact Lib.hid (by omega)
            have c1 := g2'.cell c1 (by simp)
            have c2 := g2'.cell c2 (by simp)
            clear g2 g2'
            go_wp2_with (at_builtin; refine wpList_append_own_at _ rfl _ _ 24 rfl w.heap.size 33 i0 (.agg #[.string ⟨#[]⟩, .string ⟨#[]⟩]) 2 32 Tryd.underlying24 hti hz0 hz1 hz2 rfl (by decide) _ _ _ rfl (HB2.out.alloc _) ⟨w2.heap.size, 0, none⟩ 1 1 [.string pk, .string py] rfl rfl (lit_pair _ _ _) ?qb2 ?qb3 ?qb4 ?qb5 ?_)
            case qb2 => first | rfl | (intro u hu; simp at hu; rcases hu with rfl | rfl <;> rfl) | exact ⟨rfl, rfl⟩
            case qb3 => have := HLE.out; unfold maxLen; omega
            case qb4 => have := HLE.out; omega
            case qb5 => have := HLE.out; first | (simp; omega) | omega
            intro v' w3 ho hg _ hat
            have HO3 := Lib.hid ho
            have hg3 : w2.grownBy w3 (Value.ownBlock _) := (World.grownBy_alloc w2 (.cells #[.string pk, .string py] 33) _).trans hg
            have HOT := Lib.hid (own_keep2 HA2.out hg3 (fun x e q => HAP.out x e q))
            have hap3 : ∀ x, v'.ownBlock = some x → (Value.ownBlock av) ≠ some x := by
              intro x e q
              rcases hat with h | h
              · exact HAP.out x q (h.symm.trans e)
              · rw [h] at e
                injection e with e
                have := (HA2.out.lt x q).2
                try simp at e
                omega
            have HAP3 := Lib.hid hap3
            have HG3 := Lib.hid (grown_row (grownBy_alloc' HG2.out (.cells #[.string pk, .string py] 33)) hg (fun x e => (HB2.out.lt x e).1))
            clear ho hg hg3 hat hap3
            go_wp2_with fail
            go_roundw
            case rel =>
              refine ⟨i + 1, _, _, by omega, by go_num, rfl, rfl, ?_, ?_, ?_, HG3.out⟩
              · show World.ownsRow _ _ _ _ _ _ _; rw [HST0.out]; exact HOT.out
              · show World.ownsRow _ _ _ _ _ _ _; rw [HST1.out, pv_append, List.length_append]; exact HO3.out
              · exact Lib.hid (fun x e q => HAP3.out x q e)
            case measure => simp [intOf]; omega
        · have d1' : ¬ (i : Int) < (n : Int) := by omega
          have hin : M.take i = M := List.take_of_length_le (by have := HL.out.2; omega)
          rw [hin] at HA HB
          have HPA := Lib.hid (pairs_own HA.out)
          have HPB := Lib.hid (pairs_own HB.out)
          obtain ⟨aa, ac, rfl, _⟩ := HPA.out
          obtain ⟨ba, bc, rfl, _⟩ := HPB.out
          have HS1 := Lib.hid (HI1.out _ wr HPB.out)
          have HS0 := Lib.hid (fun (w' : World) (q : wr.grownBy w' none) => HI0.out _ w' (HPA.out.grown q))
          obtain ⟨la, hla⟩ : ∃ la, (onS key d M).length = la := ⟨_, rfl⟩
          obtain ⟨lb, hlb⟩ : ∃ lb, (offS key d M).length = lb := ⟨_, rfl⟩
          rw [hla] at HS0 ⊢
          rw [hlb] at HS1 ⊢
          clear hin hla hlb HA HB HAP HPA HPB
          go_wp2_with fail
          refine HS1.out.mono ?_
          rintro e w2 ⟨rfl, g2⟩
          have HG2 := Lib.hid (And.intro (grownBy_trans HG.out g2) g2)
          clear g2
          have hown := own_lit1 w2 w.heap.size x1 HG2.out.1.size
          have hga : w2.grownBy (w2.alloc (.cells #[.string x1] 9)) none := World.grownBy_alloc _ _ _
          have HOW := Lib.hid (And.intro hown hga)
          clear hown hga
          go_wp2_with fail
          refine (HS0.out _ (grownBy_trans HG2.out.2 HOW.out.2)).mono ?_
          rintro e w4 ⟨v4, rfl, ho4, hnil, g4⟩
          have hg24 := grownBy_trans HG2.out.1 (grownBy_trans HOW.out.2 g4)
          have hown4 := own_keep HOW.out.1 g4 (fun _ _ e => by cases e)
          have H4 := Lib.hid (And.intro hg24 hown4)
          cases L0 with
          | nil =>
            obtain rfl := hnil rfl
            clear ho4 hnil g4 hg24 hown4
            go_wp2_with (at_builtin; refine wpList_append_own_none _ rfl _ _ 34 rfl w.heap.size 9 i1 1 Tryd.underlying34 hti1 _ 1 [.string x1] rfl H4.out.2 rfl ?_)
            go_wp2_with fail
            go_ret
            exact ⟨_, rfl, H4.out.2, (fun e => by cases e), H4.out.1⟩
          | cons y r =>
            rcases own_form' ho4 with ⟨_, e0⟩ | ⟨g, cap4, rfl, _, _⟩
            · cases e0
            · have HO4 := Lib.hid ho4
              have hm1 : 1 + (y :: r).length ≤ maxLen := by have := HLW.out; unfold maxLen; omega
              have hm2 : (1 + (y :: r).length) * 16 ≤ 140737488355328 := by have := HLW.out; omega
              have HMM := Lib.hid (And.intro hm1 hm2)
              have hlen : (strsV (y :: r)).length = (y :: r).length * 1 := by rw [strsV_length, Nat.mul_one]
              have HLEN := Lib.hid hlen
              obtain ⟨ml, hml⟩ : ∃ ml, (y :: r).length = ml := ⟨_, rfl⟩
              have hpos : 0 < ml := by rw [← hml]; exact Nat.succ_pos _
              have HPOS := Lib.hid hpos
              have HNEWS := Lib.hid (strs_news ho4)
              rw [hml] at HMM HLEN ⊢
              clear ho4 hnil g4 hg24 hown4 hm1 hm2 hlen hpos
              go_wp2_with (at_builtin; refine wpList_append_own _ rfl _ _ 34 rfl w.heap.size 9 i1 (.string ⟨#[]⟩) 1 16 Tryd.underlying34 hti1 hy0 hy1 hy2 rfl (by decide) _ _ _ rfl H4.out.2 ⟨g, 0, none⟩ ml cap4 (strsV (y :: r)) rfl HLEN.out HNEWS.out (strs_one _) HMM.out.1 HMM.out.2 H4.out.1.size ?_)
              intro v' w5 ho5 hg5 _
              have HO5 := Lib.hid (And.intro ho5 hg5)
              clear ho5 hg5
              go_wp2_with fail
              go_ret
              refine ⟨_, rfl, ?_, (fun e => by cases e), ?_⟩
              · have h := HO5.out.1
                rw [show 1 + ml = (y :: r).length + 1 from by rw [hml, Nat.add_comm]] at h
                exact h
              · exact grown_row H4.out.1 HO5.out.2 (fun g e => (H4.out.2.lt g e).1)
    · have hw0 : wayB key (f + 1) M d = [] := by
        show (if M.length < 2 then [] else _) = _
        rw [if_pos (by omega)]
      exact few (f + 1) d a cap M w (by omega) hw0
end Go.Proofs.YtheabbknflmnfaaDoor
