/- The walk of the law's made: nodes to an item and the document's nodes. -/
import Derived.Test.YtemgeelgkokpcaaDoorItmO
import Derived.Test.YtemgeelgkokpcaaDoorItmB
import Derived.Deep.RegionLaw
import Derived.Deep.DeepCutAuto
import Derived.Deep.CutBlock
import Derived.Deep.RegionHeld3
namespace Go.Proofs.YtemgeelgkokpcaaDoor
open Go.RowKit

theorem tmod4 (k : Int) : Int.tmod (Int.tmod k 4 + 4) 4 = ((kind4 k : Nat) : Int) ∧ (-4 < Int.tmod k 4 ∧ Int.tmod k 4 < 4) ∧ kind4 k < 4 := by
  unfold kind4
  have h1 := Int.emod_nonneg k (show (4 : Int) ≠ 0 by decide)
  have h2 := Int.emod_lt_of_pos k (show (0 : Int) < 4 by decide)
  have hb : -4 < Int.tmod k 4 ∧ Int.tmod k 4 < 4 := by
    have := Int.tmod_lt_of_pos k (show (0 : Int) < 4 by decide)
    have := Int.lt_tmod_of_pos k (show (0 : Int) < 4 by decide)
    omega
  refine ⟨?_, hb, by omega⟩
  rw [Int.tmod_eq_emod_of_nonneg (by omega), Int.toNat_of_nonneg h1]
  rcases Int.le_total 0 k with hk | hk
  · rw [Int.tmod_eq_emod_of_nonneg hk]; omega
  · have e := Int.tmod_eq_emod (a := k) (b := 4)
    rw [e]
    split <;> omega
theorem cells3N {w : World} {b : Nat} {t : TypeId} {a0 a1 a2 : Value} (h : w.heap[b]? = some (.cells #[a0, a1, a2] t (0, 0))) : w.cell? ⟨b, 0, none⟩ = some a0 ∧ w.cell? ⟨b, 1, none⟩ = some a1 ∧ w.cell? ⟨b, 2, none⟩ = some a2 := by
  refine ⟨?_, ?_, ?_⟩ <;> rw [cell_of h] <;> rfl
/-- what made does, with so much fuel in its plain words -/
def MadeOk (f : Nat) : Prop := ∀ (a : Option Addr) (n c : Nat) (L : List NodI) (w : World), NodsAt w (.slice a n c) L → InOk L → n ≤ 1000 → ∀ (p d : Nat), p ≤ 2000 → 1 ≤ d → d ≤ 8 → 2 * (n - p) + 1 ≤ f →
    Calls Tryd.prog 8 #[.slice a n c, .int .i64 p, .int .i64 d] w fun e w' => ∃ v nv, e = .returned (.tuple #[v, nv, .int .i64 (mkT f L p d).2]) ∧ ItemAt w' (fun i => w.heap.size ≤ i) v (mkT f L p d).1 ∧ w'.ownsRow w.heap.size 44 4 nv (nodT (mkT f L p d).1).length (nodV (nodT (mkT f L p d).1)) ∧ w.grownBy w' none
theorem own_single {w : World} {b B : Nat} (x : NodeR) (h : w.heap[b]? = some (.cells #[.int .i64 x.k, .int .i64 x.n, .string x.t, .int .i64 x.c] 44 (0, 0))) (hB : B ≤ b) : w.ownsRow B 44 4 (.slice (some ⟨b, 0, none⟩) 1 1) 1 (nodV [x]) := by
  refine ⟨by rw [nodV_len]; rfl, .inr ⟨b, 1, _, rfl, hB, h, Nat.le_refl _, by decide, rfl, ?_⟩⟩
  simp [nodV, NodeR.cells]
set_option maxRecDepth 100000 in
set_option maxHeartbeats 6400000 in
theorem made_step (f : Nat) (IH : ∀ g, g ≤ f → MadeOk g) : MadeOk (f + 1) := by
  intro a n c L w hL hI hn p d hp hd1 hd8 hf
  have hlen := hL.len
  obtain ⟨b, hb⟩ : ∃ b, w.heap.size = b := ⟨_, rfl⟩
  rcases hx : L[p]? with _ | x
  · have hpn : n ≤ p := by rw [← hlen]; exact List.getElem?_eq_none_iff.1 hx
    have q1 : (n : Int) ≤ (p : Int) := by omega
    have e1 : mkT (f + 1) L p d = (.num 0, p) := by rw [mkT, hx]
    rw [e1]
    have hg := World.grownBy_alloc w (.cells #[.int .i64 1, .int .i64 0, .string ⟨#[]⟩, .int .i64 0] 44) none
    have hbb := heap_alloc_at w (.cells #[.int .i64 1, .int .i64 0, .string ⟨#[]⟩, .int .i64 0] 44) b hb
    have HG := Lib.hid (And.intro hg hbb)
    have HB := Lib.hid hb
    clear hg hbb hL hI hf hlen hx hpn e1 IH hb
    go_enter Tryd.func8, Tryd.ntmps8
    go_wp2_with fail
    refine (inum_any 0 _).mono ?_
    rintro e w1 ⟨rfl, rfl⟩
    go_wp2_with fail
    go_returns
    exact ⟨vNum 0, .slice (some ⟨w.heap.size, 0, none⟩) 1 1, rfl, by rw [ItemAt], by rw [nodT, HB.out]; exact own_single ⟨1, 0, ⟨#[]⟩, 0⟩ HG.out.2 (Nat.le_refl _), HG.out.1⟩
  · obtain ⟨xk, xn, xt⟩ := x
    have hpL : p < L.length := (List.getElem?_eq_some_iff.1 hx).1
    have q1 : ¬ (n : Int) ≤ (p : Int) := by omega
    have q2 : (p : Int) < (n : Int) := by omega
    have q3 : (0 : Int) ≤ (p : Int) := by omega
    obtain ⟨ag, ao, rfl, c0, c1, c2⟩ := hL.at_ p _ hx
    have hxt : xt.size ≤ maxLen := (hI _ (List.mem_of_getElem? hx)).2
    unfold maxLen at hxt
    obtain ⟨r2, r3, hk4⟩ := tmod4 xk
    have r0 : IntKind.i64.wrap (Int.tmod xk 4) = Int.tmod xk 4 := IntWalk.i64_in _ (by omega)
    have r1 : IntKind.i64.wrap (Int.tmod xk 4 + 4) = Int.tmod xk 4 + 4 := IntWalk.i64_in _ (by omega)
    have rd1 : IntKind.i64.wrap ((p : Int) + 1) = ((p + 1 : Nat) : Int) := by rw [IntWalk.i64_in _ (by omega)]; rfl
    dsimp only at c0 c1 c2
    have hgW := World.grownBy_alloc w (.cells #[.int .i64 xk, .int .i64 xn, .string xt] 61) none
    have hbW := heap_alloc_at w (.cells #[.int .i64 xk, .int .i64 xn, .string xt] 61) b hb
    have hLW := hL.go hgW
    obtain ⟨y0, y1, y2⟩ := cells3N hbW
    have hmk : mkT (f + 1) L p d = if kind4 xk = 1 then (.text (cut30 xt), p + 1) else if kind4 xk = 2 ∧ 2 ≤ d then (.list (mkL f L (p + 1) (d - 1)).1, (mkL f L (p + 1) (d - 1)).2 + 1) else (.num xn, p + 1) := by rw [mkT, hx]
    rw [hmk]
    obtain ⟨R1, R2, hR⟩ : ∃ R1 R2, (if kind4 xk = 1 then (Tr.text (cut30 xt), p + 1) else if kind4 xk = 2 ∧ 2 ≤ d then (Tr.list (mkL f L (p + 1) (d - 1)).1, (mkL f L (p + 1) (d - 1)).2 + 1) else (Tr.num xn, p + 1)) = (R1, R2) := ⟨_, _, rfl⟩
    rw [hR]
    have HR := Lib.hid hR
    have HI := Lib.hid hI
    have HIH := Lib.hid IH
    have HLN := Lib.hid hlen
    have HF := Lib.hid hf
    clear hL hI hf hlen hx IH hmk hR
    go_enter Tryd.func8, Tryd.ntmps8
    go_upto_region 4 with fail
    obtain ⟨W, hW⟩ : ∃ W, w.alloc (.cells #[.int .i64 xk, .int .i64 xn, .string xt] 61) = W := ⟨_, rfl⟩
    rw [hW] at hgW hbW hLW y0 y1 y2
    rw [hW]
    have HGW := Lib.hid hgW
    have HLW := Lib.hid hLW
    clear c0 c1 c2 hgW hbW hLW hW
    go_cut [10] (fun sv wy => sv = .string (cut30 xt) ∧ W = wy)
    case first =>
      by_cases hz : xt.size ≤ 30
      · have hz2 : (xt.size : Int) ≤ 30 := by omega
        have hz5 : min (xt.size : Int) 30 = xt.size := by omega
        go_wp2_with fail
        go_meet
        case rel => exact ⟨by unfold cut30; rw [Nat.min_eq_left hz] <;> simp, rfl⟩
      · have hz2 : ¬ (xt.size : Int) ≤ 30 := by omega
        have hz3 : (30 : Int) < (xt.size : Int) := by omega
        have hz4 : (30 : Int) ≤ (xt.size : Int) := by omega
        go_wp2_with fail
        go_meet
        case rel => exact ⟨by unfold cut30; rw [Nat.min_eq_right (by omega)], rfl⟩
    case rest =>
      obtain ⟨rfl, rfl⟩ := hcut
      clear y2 hxt
      have hct := cut30_size xt
      generalize cut30 xt = ct at *
      by_cases h1 : kind4 xk = 1
      · obtain ⟨f1, f2⟩ : R1 = .text ct ∧ R2 = p + 1 := by
          have q := HR.out
          rw [if_pos h1] at q
          exact ⟨(Prod.mk.inj q).1.symm, (Prod.mk.inj q).2.symm⟩
        rw [h1] at r2
        have r2 : Int.tmod (Int.tmod xk 4 + 4) 4 = 1 := r2
        go_wp2_with fail
        refine (itext_any ct _).mono ?_
        rintro e w1 ⟨rfl, rfl⟩
        go_wp2_with fail
        go_returns
        rw [f1, f2]
        exact ⟨vText ct, .slice (some ⟨W.heap.size, 0, none⟩) 1 1, rfl, by rw [ItemAt], by rw [nodT]; exact own_single ⟨2, 0, ct, 0⟩ (heap_alloc_at W _ _ rfl) HGW.out.size, grownBy_trans HGW.out (World.grownBy_alloc W _ none)⟩
      · by_cases h2 : kind4 xk = 2
        · rw [h2] at r2
          have r2 : Int.tmod (Int.tmod xk 4 + 4) 4 = 2 := r2
          by_cases hd2 : 2 ≤ d
          · -- a list
            have qd : ¬ (d : Int) < 2 := by omega
            have qd0 : IntKind.i64.wrap ((d : Int) - 1) = ((d - 1 : Nat) : Int) := by rw [IntWalk.i64_in _ (by omega)]; omega
            obtain ⟨f1, f2⟩ : R1 = .list (mkL f L (p + 1) (d - 1)).1 ∧ R2 = (mkL f L (p + 1) (d - 1)).2 + 1 := by
              have q := HR.out
              rw [if_neg h1, if_pos ⟨h2, hd2⟩] at q
              exact ⟨(Prod.mk.inj q).1.symm, (Prod.mk.inj q).2.symm⟩
            have HMS := Lib.hid (And.intro ((mk_small L HI.out f).2 (p + 1) (d - 1) (by omega)) ((mk_step f L).2 (p + 1) (d - 1)))
            have HE := Lib.hid (And.intro f1 (And.intro f2 (And.intro hd2 hd8)))
            have HW := Lib.hid (And.intro hb (And.intro hpL (And.intro hn hd1)))
            clear f1 f2 h1 h2 hd2 hd8 hd1 hb hpL hn hk4 q1 q2 q3 HR y1 hp hct
            obtain ⟨D, hD⟩ : ∃ D, d - 1 = D := ⟨_, rfl⟩
            rw [hD] at qd0
            have HD := Lib.hid hD
            clear hD
            go_wp2_with fail
            go_loopw [1, 11, 12, 13, 14, 15] (fun pv lw nw _ _ _ wr => ∃ (p' g : Nat) (acc : List Tr) (lv nv : Value), lw = lv ∧ nw = nv ∧ pv = .int .i64 p' ∧ p + 1 ≤ p' ∧ p' ≤ 1008 ∧ Hid (2 * (n - p') + 2 ≤ g ∧ g ≤ f ∧ mkL f L (p + 1) D = (acc ++ (mkL g L p' D).1, (mkL g L p' D).2)) ∧ Hid (ML W acc lv nv wr)) (fun pv _ _ _ _ _ _ => n - (intOf pv).toNat)
            case atStart => exact ⟨p + 1, f, [], _, _, rfl, rfl, rfl, Nat.le_refl _, by have := HLN.out; have := HW.out.2.1; have := HW.out.2.2.1; omega, Lib.hid ⟨by have := HF.out; have := HLN.out; have := HW.out.2.1; omega, Nat.le_refl _, by rw [List.nil_append]⟩, Lib.hid (ML.start W)⟩
            case round =>
              obtain ⟨p', g, acc, lv, nv, rfl, rfl, rfl, hp1, hp2, HG, HM⟩ := hrel
              obtain ⟨⟨la, lc, hlv⟩, na, nc, hnv⟩ := HM.out.forms
              subst hlv
              subst hnv
              have rp1 : IntKind.i64.wrap ((p' : Int) + 1) = ((p' + 1 : Nat) : Int) := by rw [IntWalk.i64_in _ (by omega)]; rfl
              obtain ⟨g, rfl⟩ : ∃ g', g = g' + 1 := ⟨g - 1, by have := HG.out.1; omega⟩
              obtain ⟨j0, htj, hy0, hy1, hy2⟩ := info_parts infoNodR
              have HK1 : Hid (∀ a' r', mkL f L (p + 1) D = (a', r') → cntTs a' ≤ 1011 ∧ depTs a' ≤ D) := Lib.hid (fun a' r' q => by
                have h1 := HMS.out.1.2
                have h2 := HMS.out.2.2
                rw [HD.out, q] at h1 h2
                have h3 := HLN.out
                have h4 := HW.out.2.1
                have h5 := HW.out.2.2.1
                have h6 := HE.out.2.2.2
                have h7 := HD.out
                have h8 : r' ≤ max (p + 1) L.length + D := h2
                have h9 : cntTs a' + (p + 1) ≤ r' + 1 := h1.2
                exact ⟨by omega, h1.1⟩)
              have hge : ∀ (_ : L[p']? = none ∨ ∃ y, L[p']? = some y ∧ kind4 y.k = 3), mkL f L (p + 1) D = (acc, p') := fun q => by
                rw [HG.out.2.2, mkL]
                rcases q with q | ⟨y, q, q3⟩
                · rw [q, List.append_nil]
                · rw [q]; simp only; rw [if_pos q3, List.append_nil]
              have hexit : mkL f L (p + 1) D = (acc, p') → Hid (R1 = .list acc) ∧ Hid (R2 = p' + 1) ∧ Hid (∀ P : Nat → Prop, True) ∧ cntTs acc ≤ 1011 ∧ depTs acc ≤ D := fun q => ⟨Lib.hid (by rw [HE.out.1, HD.out, q]), Lib.hid (by rw [HE.out.2.1, HD.out, q]), Lib.hid (fun _ => trivial), (HK1.out _ _ q).1, (HK1.out _ _ q).2⟩
              by_cases hlt : p' < n
              · have d1 : (p' : Int) < (n : Int) := by omega
                have d0 : (0 : Int) ≤ (p' : Int) := by omega
                obtain ⟨y, hy⟩ : ∃ y, L[p']? = some y := ⟨_, List.getElem?_eq_getElem (by have := HLN.out; omega)⟩
                obtain ⟨yk, yn, yt⟩ := y
                obtain ⟨ag', ao', ea, k0, _, _⟩ := (HLW.out.go HM.out.gr).at_ p' _ hy
                cases ea
                obtain ⟨u2, u3, u4⟩ := tmod4 yk
                have v0 : IntKind.i64.wrap (Int.tmod yk 4) = Int.tmod yk 4 := IntWalk.i64_in _ (by omega)
                have v1 : IntKind.i64.wrap (Int.tmod yk 4 + 4) = Int.tmod yk 4 + 4 := IntWalk.i64_in _ (by omega)
                dsimp only at k0
                by_cases h3 : kind4 yk = 3
                · rw [h3] at u2
                  have u2 : Int.tmod (Int.tmod yk 4 + 4) 4 = 3 := u2
                  obtain ⟨e1, e2, _, hc1, hc2⟩ := hexit (hge (.inr ⟨_, hy, h3⟩))
                  obtain ⟨vs, hvs, hall⟩ := HM.out.row
                  have hal := cntTs_len acc
                  have HB2 : Hid (1 + (nodTs acc).length ≤ maxLen ∧ (1 + (nodTs acc).length) * 40 ≤ 140737488355328) := Lib.hid ⟨by rw [nodTs_len]; unfold maxLen; omega, by rw [nodTs_len]; omega⟩
                  have HLI := Lib.hid (ilist_any _ acc.length vs acc wr (own_lowI hvs (Nat.zero_le _)) hall (by omega) (by have := HE.out.2.2.2; have := HD.out; omega))
                  clear hexit hge hvs hall hc1 hc2 hal
                  go_wp2_with fail
                  refine HLI.out.mono ?_
                  rintro e w4 ⟨lb, rfl, hit, g4⟩
                  have hit4 := hit.mono (Q := fun i => W.heap.size ≤ i) (fun i q _ => by
                    rcases q with q | q
                    · exact q.1
                    · have := HM.out.gr.size; omega)
                  have gh := World.grownBy_alloc w4 (.cells #[.int .i64 3, .int .i64 0, .string ⟨#[]⟩, .int .i64 acc.length] 44) none
                  have s4 : W.heap.size ≤ w4.heap.size := by have := HM.out.gr.size; have := g4.size; omega
                  have HH := Lib.hid (And.intro (own_single (B := W.heap.size) ⟨3, 0, ⟨#[]⟩, acc.length⟩ (heap_alloc_at w4 (.cells #[.int .i64 3, .int .i64 0, .string ⟨#[]⟩, .int .i64 acc.length] 44) _ rfl) s4) (And.intro (own_kept_I (own_kept_I HM.out.nod g4) gh) (And.intro (Nat.le_trans s4 gh.size) (And.intro hit4 (And.intro g4 gh)))))
                  clear hit hit4 g4 gh s4
                  go_wp2_with (at_builtin; refine wpList_append_rowI _ rfl _ _ 25 rfl W.heap.size 44 j0 (.agg #[.int .i64 0, .int .i64 0, .string ⟨#[]⟩, .int .i64 0]) 4 40 Tryd.underlying25 htj hy0 hy1 hy2 rfl (by decide) (.slice (some ⟨w4.heap.size, 0, none⟩) 1 1) 1 _ rfl HH.out.1 W.heap.size (nodTs acc).length (.slice na (nodTs acc).length nc) _ rfl HH.out.2.1 (nodV_onecell _) HB2.out.1 HB2.out.2 HH.out.2.2.1 ?_; intro v9 w9 ho9 hg9)
                  go_returns
                  rw [e1.out, e2.out]
                  have g49 : w4.grownBy w9 none := grown_newI HH.out.2.2.2.2.2 hg9 (fun y q => by have q1 : w4.heap.size = y := (by simpa [Value.ownBlock] using q); omega)
                  refine ⟨vList lb, v9, rfl, ItemAt.keep (fun i o _ e => g49.heap e (by simp)) (fun i q _ => Nat.le_trans HGW.out.size q) _ _ HH.out.2.2.2.1, ?_, grownBy_trans HGW.out (grownBy_trans HM.out.gr (grownBy_trans HH.out.2.2.2.2.1 g49))⟩
                  rw [nodT, List.length_cons, Nat.add_comm, show nodV (⟨3, 0, ⟨#[]⟩, (acc.length : Int)⟩ :: nodTs acc) = nodV [⟨3, 0, ⟨#[]⟩, (acc.length : Int)⟩] ++ nodV (nodTs acc) from nodV_append [_] _]
                  exact own_lowI ho9 HGW.out.size
                · have s3 : ((kind4 yk : Int) != 3) = true := by simp; omega
                  obtain ⟨⟨T, P2⟩, hT⟩ : ∃ q, mkT g L p' D = q := ⟨_, rfl⟩
                  have hml : mkL (g + 1) L p' D = (T :: (mkL g L P2 D).1, (mkL g L P2 D).2) := by
                    rw [mkL, hy]
                    simp only
                    rw [if_neg h3, hT]
                  have hst := (mk_step g L).1 p' D
                  rw [hT] at hst
                  have hgg := HG.out
                  rw [hml] at hgg
                  have hnx : mkL f L (p + 1) D = ((acc ++ [T]) ++ (mkL g L P2 D).1, (mkL g L P2 D).2) := by rw [hgg.2.2, List.append_assoc]; rfl
                  have hcn := (HK1.out _ _ hnx).1
                  rw [cntTs_append, cntTs_append, cntTs, cntTs] at hcn
                  have hln := HLN.out
                  have hP1 : p' + 1 ≤ P2 := hst.2.1 (by omega) (by omega)
                  have hP2 : P2 ≤ max p' L.length + D := hst.2.2
                  have hDD : 1 ≤ D ∧ D ≤ 7 := by have := HE.out.2.2; have := HD.out; omega
                  have HCH := Lib.hid (HIH.out g (by omega) _ n c L wr (HLW.out.go HM.out.gr) HI.out (by have := HW.out.2.2.1; omega) p' D (by omega) hDD.1 (by omega) (by omega))
                  rw [hT] at HCH
                  have hn1000 : n ≤ 1000 := HW.out.2.2.1
                  have HNX : Hid (p + 1 ≤ P2 ∧ P2 ≤ 1008 ∧ P2 > p' ∧ (2 * (n - P2) + 2 ≤ g ∧ g ≤ f ∧ mkL f L (p + 1) D = ((acc ++ [T]) ++ (mkL g L P2 D).1, (mkL g L P2 D).2))) := Lib.hid ⟨by omega, by omega, by omega, by omega, by omega, hnx⟩
                  have hal := cntTs_len acc
                  have hTl := nodT_len T
                  have hTp := cntT_pos T
                  have hAl := nodTs_len acc
                  have HBB : Hid (acc.length + 1 ≤ maxLen ∧ (acc.length + 1) * 16 ≤ 140737488355328 ∧ (nodTs acc).length + (nodT T).length ≤ maxLen ∧ ((nodTs acc).length + (nodT T).length) * 40 ≤ 140737488355328 ∧ 0 < (nodT T).length) := Lib.hid ⟨by unfold maxLen; omega, by omega, by unfold maxLen; omega, by omega, by omega⟩
                  obtain ⟨vs, hvs, hall⟩ := HM.out.row
                  have HV := Lib.hid (And.intro hvs hall)
                  obtain ⟨i0, hti, hz0, hz1, hz2⟩ := info_parts infoItm
                  clear hexit hge hvs hall hal hTl hTp hAl hst hgg hnx hcn hln hP1 hP2 hDD hn1000 hml hT hy HG
                  generalize kind4 yk = K3 at *
                  go_wp2_with fail
                  refine HCH.out.mono ?_
                  rintro e w3 ⟨v, nv3, rfl, hit, hrow, g3⟩
                  obtain ⟨ty, u, rfl⟩ := item_iface hit
                  rcases own_formI hrow with ⟨_, h0⟩ | ⟨gn, cn, rfl⟩
                  · exact absurd h0 (by have := HBB.out.2.2.2.2; omega)
                  have ga := World.grownBy_alloc w3 (.cells #[.iface ty u] 24) none
                  have hba := heap_alloc_at w3 (.cells #[.iface ty u] 24) _ rfl
                  have hs3 : W.heap.size ≤ w3.heap.size := by have := HM.out.gr.size; have := g3.size; omega
                  have HA : Hid (_ ∧ _ ∧ _ ∧ _) := Lib.hid (And.intro (own_kept_I (own_kept_I HV.out.1 g3) ga) (And.intro (World.news_of_block hba) (And.intro (Nat.le_trans hs3 ga.size) (show ∀ y ∈ [Value.iface ty u], y.oneCell' = true from fun y hu => by rw [List.mem_singleton.1 hu]; exact item_one hit))))
                  have HR3 := Lib.hid (And.intro (own_kept_I hrow ga) (And.intro hit (And.intro g3 hrow)))
                  clear hit hrow g3 ga hba hs3
                  go_wp2_with (first
                    | (at_builtin; refine wpList_append_lies _ rfl _ _ 51 rfl W.heap.size 24 i0 .nilIface 1 16 Tryd.underlying51 hti hz0 hz1 hz2 rfl (by decide) (.slice la acc.length lc) acc.length vs rfl HA.out.1 ⟨w3.heap.size, 0, none⟩ 1 1 [.iface ty u] rfl rfl HA.out.2.1 HA.out.2.2.2 (by decide) HBB.out.1 HBB.out.2.1 HA.out.2.2.1 _ rfl ?_; intro g9 c9 w9 ho9 hg9 hor9 hlt9; have hn9 := HM.out.nod5 HR3.out.2.2.1 hg9; have hr9 := own_keepI HR3.out.1 hg9 (fun y q e => by have h1 := (HV.out.1.lt y e).2; have h2 := (HR3.out.2.2.2.lt y q).1; omega); have hb9 : W.heap.size ≤ w9.heap.size := Nat.le_trans HA.out.2.2.1 hg9.size)
                    | (at_builtin; refine wpList_append_lies _ rfl _ _ 25 rfl W.heap.size 44 j0 (.agg #[.int .i64 0, .int .i64 0, .string ⟨#[]⟩, .int .i64 0]) 4 40 Tryd.underlying25 htj hy0 hy1 hy2 rfl (by decide) (.slice na (nodTs acc).length nc) (nodTs acc).length (nodV (nodTs acc)) rfl hn9 ⟨gn, 0, none⟩ (nodT T).length cn (nodV (nodT T)) rfl hr9.1 (nod_news hr9) (nodV_onecell _) HBB.out.2.2.2.2 HBB.out.2.2.1 HBB.out.2.2.2.1 hb9 _ rfl ?_; intro g8 c8 w8 ho8 hg8 hor8 hlt8; have HP := Lib.hid (HM.out.push HV.out.1 HV.out.2 HR3.out.2.1 HR3.out.2.2.1 hg9 ho9 hor9 hlt9 hg8 ho8 hor8 (by rw [nodTs_append, nodTs, nodTs, List.append_nil, List.length_append])); clear ho9 hg9 hor9 hlt9 ho8 hg8 hor8 hlt8 hn9 hr9 hb9))
                  go_roundw
                  case rel => exact ⟨P2, g, acc ++ [T], _, _, rfl, rfl, rfl, HNX.out.1, HNX.out.2.1, Lib.hid HNX.out.2.2.2, HP⟩
                  case measure => have := HNX.out.2.2.1; simp [intOf]; omega
              · have d1 : ¬ (p' : Int) < (n : Int) := by omega
                obtain ⟨e1, e2, _, hc1, hc2⟩ := hexit (hge (.inl (List.getElem?_eq_none_iff.2 (by have := HLN.out; omega))))
                obtain ⟨vs, hvs, hall⟩ := HM.out.row
                have hal := cntTs_len acc
                have HB2 : Hid (1 + (nodTs acc).length ≤ maxLen ∧ (1 + (nodTs acc).length) * 40 ≤ 140737488355328) := Lib.hid ⟨by rw [nodTs_len]; unfold maxLen; omega, by rw [nodTs_len]; omega⟩
                have HLI := Lib.hid (ilist_any _ acc.length vs acc wr (own_lowI hvs (Nat.zero_le _)) hall (by omega) (by have := HE.out.2.2.2; have := HD.out; omega))
                clear hexit hge hvs hall hc1 hc2 hal
                go_wp2_with fail
                refine HLI.out.mono ?_
                rintro e w4 ⟨lb, rfl, hit, g4⟩
                have hit4 := hit.mono (Q := fun i => W.heap.size ≤ i) (fun i q _ => by
                  rcases q with q | q
                  · exact q.1
                  · have := HM.out.gr.size; omega)
                have gh := World.grownBy_alloc w4 (.cells #[.int .i64 3, .int .i64 0, .string ⟨#[]⟩, .int .i64 acc.length] 44) none
                have s4 : W.heap.size ≤ w4.heap.size := by have := HM.out.gr.size; have := g4.size; omega
                have HH := Lib.hid (And.intro (own_single (B := W.heap.size) ⟨3, 0, ⟨#[]⟩, acc.length⟩ (heap_alloc_at w4 (.cells #[.int .i64 3, .int .i64 0, .string ⟨#[]⟩, .int .i64 acc.length] 44) _ rfl) s4) (And.intro (own_kept_I (own_kept_I HM.out.nod g4) gh) (And.intro (Nat.le_trans s4 gh.size) (And.intro hit4 (And.intro g4 gh)))))
                clear hit hit4 g4 gh s4
                go_wp2_with (at_builtin; refine wpList_append_rowI _ rfl _ _ 25 rfl W.heap.size 44 j0 (.agg #[.int .i64 0, .int .i64 0, .string ⟨#[]⟩, .int .i64 0]) 4 40 Tryd.underlying25 htj hy0 hy1 hy2 rfl (by decide) (.slice (some ⟨w4.heap.size, 0, none⟩) 1 1) 1 _ rfl HH.out.1 W.heap.size (nodTs acc).length (.slice na (nodTs acc).length nc) _ rfl HH.out.2.1 (nodV_onecell _) HB2.out.1 HB2.out.2 HH.out.2.2.1 ?_; intro v9 w9 ho9 hg9)
                go_returns
                rw [e1.out, e2.out]
                have g49 : w4.grownBy w9 none := grown_newI HH.out.2.2.2.2.2 hg9 (fun y q => by have q1 : w4.heap.size = y := (by simpa [Value.ownBlock] using q); omega)
                refine ⟨vList lb, v9, rfl, ItemAt.keep (fun i o _ e => g49.heap e (by simp)) (fun i q _ => Nat.le_trans HGW.out.size q) _ _ HH.out.2.2.2.1, ?_, grownBy_trans HGW.out (grownBy_trans HM.out.gr (grownBy_trans HH.out.2.2.2.2.1 g49))⟩
                rw [nodT, List.length_cons, Nat.add_comm, show nodV (⟨3, 0, ⟨#[]⟩, (acc.length : Int)⟩ :: nodTs acc) = nodV [⟨3, 0, ⟨#[]⟩, (acc.length : Int)⟩] ++ nodV (nodTs acc) from nodV_append [_] _]
                exact own_lowI ho9 HGW.out.size
          · obtain ⟨f1, f2⟩ : R1 = .num xn ∧ R2 = p + 1 := by
              have q := HR.out
              rw [if_neg h1, if_neg (fun q => hd2 q.2)] at q
              exact ⟨(Prod.mk.inj q).1.symm, (Prod.mk.inj q).2.symm⟩
            have qd : (d : Int) < 2 := by omega
            go_upto_region 18 with fail
            go_region_held3 (fun w' => w'.cell? ⟨b, 1, none⟩ = some (.int .i64 xn)) (first | exact ck | exact y1 | exact cell_grown (World.grownBy_alloc _ _ none) y1 | exact cell_grown (grownBy_drew (World.grownBy_alloc _ _ none)) y1)
              (first
                | (go_at_call 19; (with_reducible refine (inum_any xn _).mono ?_); rintro e w6 ⟨rfl, rfl⟩; have ck := y1))
            all_goals
              go_wp2_with fail
              go_returns
              rw [f1, f2]
              exact ⟨vNum xn, .slice (some ⟨W.heap.size, 0, none⟩) 1 1, rfl, by rw [ItemAt], by rw [nodT]; exact own_single ⟨1, xn, ⟨#[]⟩, 0⟩ (show (W.alloc _).heap[W.heap.size]? = _ from heap_alloc_at W _ _ rfl) HGW.out.size, grownBy_trans HGW.out (grownBy_drew (World.grownBy_alloc W _ none))⟩
        · obtain ⟨f1, f2⟩ : R1 = .num xn ∧ R2 = p + 1 := by
            have q := HR.out
            rw [if_neg h1, if_neg (fun q => h2 q.1)] at q
            exact ⟨(Prod.mk.inj q).1.symm, (Prod.mk.inj q).2.symm⟩
          have s1 : ((kind4 xk : Int) == 1) = false := by simp; omega
          have s2 : ((kind4 xk : Int) == 2) = false := by simp; omega
          generalize kind4 xk = K at *
          go_upto_region 18 with fail
          go_region_held3 (fun w' => w'.cell? ⟨b, 1, none⟩ = some (.int .i64 xn)) (first | exact ck | exact y1 | exact cell_grown (World.grownBy_alloc _ _ none) y1 | exact cell_grown (grownBy_drew (World.grownBy_alloc _ _ none)) y1)
            (first
              | (go_at_call 19; (with_reducible refine (inum_any xn _).mono ?_); rintro e w6 ⟨rfl, rfl⟩; have ck := y1))
          all_goals
            go_wp2_with fail
            go_returns
            rw [f1, f2]
            exact ⟨vNum xn, .slice (some ⟨W.heap.size, 0, none⟩) 1 1, rfl, by rw [ItemAt], by rw [nodT]; exact own_single ⟨1, xn, ⟨#[]⟩, 0⟩ (show (W.alloc _).heap[W.heap.size]? = _ from heap_alloc_at W _ _ rfl) HGW.out.size, grownBy_trans HGW.out (grownBy_drew (World.grownBy_alloc W _ none))⟩
end Go.Proofs.YtemgeelgkokpcaaDoor
