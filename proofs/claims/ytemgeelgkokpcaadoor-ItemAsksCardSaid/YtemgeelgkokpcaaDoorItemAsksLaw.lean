/- The walk of the law ItemAsks. -/
import Derived.Test.YtemgeelgkokpcaaDoorItmG
import Derived.Test.YtemgeelgkokpcaaDoorItmC
import Derived.Test.YtemgeelgkokpcaaDoorItmY
namespace Go.Proofs.YtemgeelgkokpcaaDoor
open Go.RowKit

def kT : Tr → Int | .num _ => 1 | .text _ => 2 | .list _ => 3
theorem root_of (T : Tr) : (nodT T)[0]? = some ⟨kT T, numV T, txtV T, lenV T⟩ := by cases T <;> rw [nodT] <;> rfl
theorem kT_eq (T : Tr) : (kT T == 1) = isN T ∧ (kT T == 2) = isX T ∧ (kT T == 3) = isL T := by cases T <;> exact ⟨rfl, rfl, rfl⟩
theorem places0 (w : World) : PlacesAt w (.slice none 0 0) [] := ⟨none, 0, rfl, fun j i h => by simp at h⟩
theorem places1 (w : World) (i : Int) (t : TypeId) : PlacesAt (w.alloc (.cells #[.int .i64 i] t)) (.slice (some ⟨w.heap.size, 0, none⟩) 1 1) [i] := by
  refine ⟨_, 1, rfl, fun j x h => ⟨w.heap.size, rfl, ?_⟩⟩
  have hb := heap_alloc_at w (.cells #[.int .i64 i] t) _ rfl
  match j, h with
  | 0, h => simp at h; subst h; rw [cell_of hb]; rfl
  | j + 1, h => simp at h
theorem places2 (w : World) (i k : Int) (t : TypeId) : PlacesAt (w.alloc (.cells #[.int .i64 i, .int .i64 k] t)) (.slice (some ⟨w.heap.size, 0, none⟩) 2 2) [i, k] := by
  refine ⟨_, 2, rfl, fun j x h => ⟨w.heap.size, rfl, ?_⟩⟩
  have hb := heap_alloc_at w (.cells #[.int .i64 i, .int .i64 k] t) _ rfl
  match j, h with
  | 0, h => simp at h; subst h; rw [cell_of hb]; rfl
  | 1, h => simp at h; subst h; rw [cell_of hb]; rfl
  | j + 2, h => simp at h
theorem stepT_sm {T : Tr} (h : smT T) (hc : cntT T ≤ 200) (i : Int) (h0 : stepE T i = 0) : smT (stepT T i) ∧ cntT (stepT T i) ≤ 200 := by
  cases T with
  | num n => simp [stepE, isL] at h0
  | text s => simp [stepE, isL] at h0
  | list l =>
    rw [smT] at h
    rw [cntT] at hc
    have hi : i.toNat < l.length := by
      have h1 : (if i < 0 ∨ (l.length : Int) ≤ i then (10 : Int) else 0) = 0 := h0
      by_cases q : i < 0 ∨ (l.length : Int) ≤ i
      · rw [if_pos q] at h1; exact absurd h1 (by decide)
      · omega
    have hm : stepT (.list l) i ∈ l := by
      unfold stepT kidsT
      rw [List.getD_eq_getElem?_getD, List.getElem?_eq_getElem hi]
      exact List.getElem_mem hi
    have := cntTs_mem hm
    exact ⟨smTs_mem h hm, by omega⟩
set_option maxRecDepth 100000 in
set_option maxHeartbeats 64000000 in
theorem itemAsks_walk (aa : Option Addr) (an ac : Nat) (L : List NodI) (i k : Int) (w : World) (hL : NodsAt w (.slice aa an ac) L) (hI : InOk L) (hc : an ≤ ac) (hm : ac ≤ maxLen) (hT : IT w.heap.size w) :
    Calls Tryd.prog 4 #[.slice aa an ac, .int .i64 i, .int .i64 k] w fun e w' => e = .returned (.bool true) ∧ w.grownBy w' none := by
  have HSP := Lib.hid (itm_speaks w hT)
  obtain ⟨M, hM⟩ : ∃ M, min an 30 = M := ⟨_, rfl⟩
  have hMi : min (an : Int) 30 = (M : Int) := by omega
  have m1 : M ≤ an ∧ M ≤ 30 ∧ M ≤ ac := by omega
  have i1 : (M : Int) ≤ (ac : Int) := by omega
  have i2 : (0 : Int) ≤ (M : Int) := by omega
  have i3 : (M : Int) ≤ (an : Int) := by omega
  have hIt := hI.take M
  have hlt : (L.take M).length ≤ 100 := by rw [List.length_take]; omega
  obtain ⟨s1, s2, s3, s4, s5, s6, s7⟩ := made_small (L.take M) hIt hlt
  have s8 := made_sm (L.take M) hIt
  have HMA := Lib.hid (fun w' (k : w.grownBy w' none) => made_any aa M ac (L.take M) w' ((hL.go k).take M m1.1) hIt (by omega))
  have HT := Lib.hid hT
  unfold maxLen at hm
  clear hL hI hT hIt hlt hM
  obtain ⟨T, hTT⟩ : ∃ T, madeT (L.take M) = T := ⟨_, rfl⟩
  rw [hTT] at s1 s2 s3 s4 s5 s6 s7 s8 HMA
  have HS := Lib.hid (And.intro s8 s2)
  have hsf := sm_facts T s8 (by omega)
  have HSH : Hid (∀ (P : Nat → Prop) (u : Value) (w' : World), w.grownBy w' none → ItemAt w' P u T → Calls Tryd.prog 12 #[u] w' fun e w'' => e = .returned (.string (str (showT T))) ∧ w'.grownBy w'' none) := Lib.hid (fun P u w' g h => ishow_any u T w' h hsf.1 (by omega) (by omega) (HT.out.on g))
  clear hTT s1 s2 s3 s4 s5 s6 s7 s8 hsf
  have HRT := Lib.hid (root_of T)
  obtain ⟨r1, r2, r3⟩ := kT_eq T
  go_enter Tryd.func4, Tryd.ntmps4
  go_wp2_with fail
  refine HSP.out.mono ?_
  rintro e w1 ⟨rfl, g1⟩
  have G1 := Lib.hid g1
  clear g1 HSP
  go_wp2_with fail
  refine (HMA.out w1 G1.out).mono ?_
  rintro e w2 ⟨v, nv, k2, rfl, hit, hrow, g2⟩
  rcases own_formI hrow with ⟨_, h0⟩ | ⟨gn, cn, rfl⟩
  · exact absurd h0 (by rw [nodT_len]; have := cntT_pos T; omega)
  have hnc := nod_cell hrow 0 _ HRT.out
  simp only [Nat.zero_mul, Nat.zero_add] at hnc
  obtain ⟨n0, n1, n2, n3⟩ := hnc
  have hnl : (0 : Int) < ((nodT T).length : Int) := by rw [nodT_len]; have := cntT_pos T; omega
  have H2 := Lib.hid (And.intro hit (grownBy_trans G1.out g2))
  clear hit hrow g2 G1 HMA HRT
  generalize (nodT T).length = NL at *
  obtain ⟨b, hb⟩ : ∃ b, w2.heap.size = b := ⟨_, rfl⟩
  have HA1 := Lib.hid (asnum_any v T w2 H2.out.1)
  have HA2 := Lib.hid (astext_any v T w2 H2.out.1)
  have HA3 := Lib.hid (ilen_any v T w2 H2.out.1)
  go_wp2_with fail
  refine HA1.out.mono ?_
  rintro e w3 ⟨rfl, rfl⟩
  go_wp2_with fail
  refine HA2.out.mono ?_
  rintro e w3 ⟨rfl, rfl⟩
  go_wp2_with fail
  refine HA3.out.mono ?_
  rintro e w3 ⟨rfl, rfl⟩
  clear HA1 HA2 HA3
  go_upto_region 8 with fail
  obtain ⟨K, hK⟩ : ∃ K, kT T = K := ⟨_, rfl⟩
  obtain ⟨NV, hNV⟩ : ∃ NV, numV T = NV := ⟨_, rfl⟩
  obtain ⟨TV, hTV⟩ : ∃ TV, txtV T = TV := ⟨_, rfl⟩
  obtain ⟨C, hC⟩ : ∃ C, lenV T = C := ⟨_, rfl⟩
  rw [hK] at r1 r2 r3
  rw [hK, hNV, hTV, hC]
  have hgW := World.grownBy_alloc w2 (.cells #[.int .i64 K, .int .i64 NV, .string TV, .int .i64 C] 44) none
  have hbW := heap_alloc_at w2 (.cells #[.int .i64 K, .int .i64 NV, .string TV, .int .i64 C] 44) b hb
  obtain ⟨y0, y1, y2, y3⟩ := cells4N hbW
  obtain ⟨W, hW⟩ : ∃ W, w2.alloc (.cells #[.int .i64 K, .int .i64 NV, .string TV, .int .i64 C] 44) = W := ⟨_, rfl⟩
  rw [hW] at hgW hbW y0 y1 y2 y3
  rw [hW]
  have HW := Lib.hid (And.intro (H2.out.1.grown hgW) (grownBy_trans H2.out.2 hgW))
  have HCC := Lib.hid hC
  clear hK hNV hTV n0 n1 n2 n3 hnl hgW hbW hb H2 hW
  have HP0 := Lib.hid (fun w' (g : W.grownBy w' none) pv hp => ipath_any v T pv [] w' (HW.out.1.grown g) hp (by decide))
  have HP1 := Lib.hid (fun w' (g : W.grownBy w' none) pv hp => ipath_any v T pv [i] w' (HW.out.1.grown g) hp (show 1 ≤ 1000 by decide))
  have HP2 := Lib.hid (fun w' (g : W.grownBy w' none) pv hp => ipath_any v T pv [i, k] w' (HW.out.1.grown g) hp (show 2 ≤ 1000 by decide))
  have HAT := Lib.hid (iat_any v T i W HW.out.1)
  have p0 : pathE T [] = 0 := by rw [pathE]
  have p1 : pathE T [i] = stepE T i := by rw [pathE, pathE]; split <;> simp_all
  have t1 : pathT T [i] = stepT T i := by rw [pathT, pathT]
  have t0 : pathT T [] = T := by rw [pathT]
  rw [p0, t0] at HP0
  rw [p1, t1] at HP1
  clear p0 p1 t1 t0
  by_cases hD : isL T = false
  · have e1 : stepE T i = 6 := by unfold stepE; rw [if_pos hD]
    have p2 : pathE T [i, k] = 6 := by rw [pathE, e1]; rfl
    rw [e1] at HP1 HAT
    rw [p2] at HP2
    clear p2 e1
    go_wp2_with fail
    refine HAT.out.mono ?_
    rintro e w3 ⟨u1, rfl, rfl, _, _⟩
    go_wp2_with fail
    refine (HP1.out _ (World.grownBy_alloc W _ none) _ (places1 W i _)).mono ?_
    rintro e w3 ⟨u2, rfl, hw3, _⟩
    have G3 := Lib.hid (show W.grownBy w3 none by rw [← hw3]; exact World.grownBy_alloc W _ none)
    clear hw3
    go_wp2_with fail
    refine (HP2.out _ (grownBy_alloc' G3.out _) _ (places2 w3 i k _)).mono ?_
    rintro e w6 ⟨u3, rfl, hw6, _⟩
    have G6 := Lib.hid (show W.grownBy w6 none by rw [← hw6]; exact grownBy_alloc' G3.out _)
    clear hw6
    go_wp2_with fail
    refine (HP0.out _ G6.out _ (places0 _)).mono ?_
    rintro e w7 ⟨u7, rfl, hw7, h7⟩
    have H7 := Lib.hid (And.intro (show W.grownBy w7 none by rw [← hw7]; exact G6.out) (show ItemAt w7 _ u7 T by rw [← hw7]; exact h7.out (by first | rfl | trivial)))
    clear hw7 h7
    go_wp2_with fail
    refine (HSH.out _ u7 w7 (grownBy_trans HW.out.2 H7.out.1) H7.out.2).mono ?_
    rintro e w8 ⟨rfl, g8⟩
    have G8 := Lib.hid (grownBy_trans H7.out.1 g8)
    clear g8
    go_wp2_with fail
    refine (HSH.out _ v w8 (grownBy_trans HW.out.2 G8.out) (HW.out.1.grown G8.out)).mono ?_
    rintro e w9 ⟨rfl, g9⟩
    have G9 := Lib.hid (grownBy_trans HW.out.2 (grownBy_trans G8.out g9))
    clear g9
    go_wp2_with fail
    go_ret
    exact ⟨by first | rfl | simp, G9.out⟩
  · have hD : isL T = true := by simpa using hD
    by_cases hn : i < 0
    · have e1 : stepE T i = 10 := by unfold stepE; rw [if_neg (by rw [hD]; decide), if_pos (.inl hn)]
      have hn2 : ¬ (0 : Int) ≤ i := by omega
      have p2 : pathE T [i, k] = 10 := by rw [pathE, e1]; rfl
      rw [e1] at HP1 HAT
      rw [p2] at HP2
      clear p2 e1
      go_wp2_with fail
      refine HAT.out.mono ?_
      rintro e w3 ⟨u1, rfl, rfl, _, _⟩
      go_wp2_with fail
      refine (HP1.out _ (World.grownBy_alloc W _ none) _ (places1 W i _)).mono ?_
      rintro e w3 ⟨u2, rfl, hw3, _⟩
      have G3 := Lib.hid (show W.grownBy w3 none by rw [← hw3]; exact World.grownBy_alloc W _ none)
      clear hw3
      go_wp2_with fail
      refine (HP2.out _ (grownBy_alloc' G3.out _) _ (places2 w3 i k _)).mono ?_
      rintro e w6 ⟨u3, rfl, hw6, _⟩
      have G6 := Lib.hid (show W.grownBy w6 none by rw [← hw6]; exact grownBy_alloc' G3.out _)
      clear hw6
      go_wp2_with fail
      refine (HP0.out _ G6.out _ (places0 _)).mono ?_
      rintro e w7 ⟨u7, rfl, hw7, h7⟩
      have H7 := Lib.hid (And.intro (show W.grownBy w7 none by rw [← hw7]; exact G6.out) (show ItemAt w7 _ u7 T by rw [← hw7]; exact h7.out (by first | rfl | trivial)))
      clear hw7 h7
      go_wp2_with fail
      refine (HSH.out _ u7 w7 (grownBy_trans HW.out.2 H7.out.1) H7.out.2).mono ?_
      rintro e w8 ⟨rfl, g8⟩
      have G8 := Lib.hid (grownBy_trans H7.out.1 g8)
      clear g8
      go_wp2_with fail
      refine (HSH.out _ v w8 (grownBy_trans HW.out.2 G8.out) (HW.out.1.grown G8.out)).mono ?_
      rintro e w9 ⟨rfl, g9⟩
      have G9 := Lib.hid (grownBy_trans HW.out.2 (grownBy_trans G8.out g9))
      clear g9
      go_wp2_with fail
      go_ret
      exact ⟨by first | rfl | simp, G9.out⟩
    · have hn2 : (0 : Int) ≤ i := by omega
      by_cases hg : (C : Int) ≤ i
      · have e1 : stepE T i = 10 := by unfold stepE; rw [if_neg (by rw [hD]; decide), if_pos (.inr (by rw [HCC.out]; exact hg))]
        have hg2 : ¬ i < (C : Int) := by omega
        have p2 : pathE T [i, k] = 10 := by rw [pathE, e1]; rfl
        rw [e1] at HP1 HAT
        rw [p2] at HP2
        clear p2 e1
        go_wp2_with fail
        refine HAT.out.mono ?_
        rintro e w3 ⟨u1, rfl, rfl, _, _⟩
        go_wp2_with fail
        refine (HP1.out _ (World.grownBy_alloc W _ none) _ (places1 W i _)).mono ?_
        rintro e w3 ⟨u2, rfl, hw3, _⟩
        have G3 := Lib.hid (show W.grownBy w3 none by rw [← hw3]; exact World.grownBy_alloc W _ none)
        clear hw3
        go_wp2_with fail
        refine (HP2.out _ (grownBy_alloc' G3.out _) _ (places2 w3 i k _)).mono ?_
        rintro e w6 ⟨u3, rfl, hw6, _⟩
        have G6 := Lib.hid (show W.grownBy w6 none by rw [← hw6]; exact grownBy_alloc' G3.out _)
        clear hw6
        go_wp2_with fail
        refine (HP0.out _ G6.out _ (places0 _)).mono ?_
        rintro e w7 ⟨u7, rfl, hw7, h7⟩
        have H7 := Lib.hid (And.intro (show W.grownBy w7 none by rw [← hw7]; exact G6.out) (show ItemAt w7 _ u7 T by rw [← hw7]; exact h7.out (by first | rfl | trivial)))
        clear hw7 h7
        go_wp2_with fail
        refine (HSH.out _ u7 w7 (grownBy_trans HW.out.2 H7.out.1) H7.out.2).mono ?_
        rintro e w8 ⟨rfl, g8⟩
        have G8 := Lib.hid (grownBy_trans H7.out.1 g8)
        clear g8
        go_wp2_with fail
        refine (HSH.out _ v w8 (grownBy_trans HW.out.2 G8.out) (HW.out.1.grown G8.out)).mono ?_
        rintro e w9 ⟨rfl, g9⟩
        have G9 := Lib.hid (grownBy_trans HW.out.2 (grownBy_trans G8.out g9))
        clear g9
        go_wp2_with fail
        go_ret
        exact ⟨by first | rfl | simp, G9.out⟩
      · have hg2 : i < (C : Int) := by omega
        have e1 : stepE T i = 0 := by unfold stepE; rw [if_neg (by rw [hD]; decide), if_neg (by rw [HCC.out]; omega)]
        have hx := stepT_sm HS.out.1 (by have := HS.out.2; omega) i e1
        obtain ⟨X, hX⟩ : ∃ X, stepT T i = X := ⟨_, rfl⟩
        rw [hX] at hx HP1 HAT
        have hxf := sm_facts X hx.1 (by omega)
        have HSX : Hid (∀ (P : Nat → Prop) (u : Value) (w' : World), w.grownBy w' none → ItemAt w' P u X → Calls Tryd.prog 12 #[u] w' fun e w'' => e = .returned (.string (str (showT X))) ∧ w'.grownBy w'' none) := Lib.hid (fun P u w' g h => ishow_any u X w' h hxf.1 (by omega) (by omega) (HT.out.on g))
        clear hx hxf
        obtain ⟨CX, hCX⟩ : ∃ CX, lenV X = CX := ⟨_, rfl⟩
        by_cases hDX : isL X = false
        · have e2 : stepE (stepT T i) k = 6 := by rw [hX]; unfold stepE; rw [if_pos hDX]
          have p2 : pathE T [i, k] = 6 := by rw [pathE, if_pos e1, pathE, pathE]; rw [e2]; rfl
          rw [p2] at HP2
          rw [e1] at HP1 HAT
          clear p2 e1 e2
          go_wp2_with fail
          refine HAT.out.mono ?_
          rintro e w3 ⟨u1, rfl, rfl, hu1, _⟩
          have HU1 := Lib.hid (hu1.out (by first | rfl | trivial))
          clear hu1
          go_wp2_with fail
          refine (HP1.out _ (World.grownBy_alloc W _ none) _ (places1 W i _)).mono ?_
          rintro e w3 ⟨u2, rfl, hw3, hu2⟩
          have H3 := Lib.hid (And.intro (show W.grownBy w3 none by rw [← hw3]; exact World.grownBy_alloc W _ none) (show ItemAt w3 _ u2 X by rw [← hw3]; exact hu2.out (by first | rfl | trivial)))
          clear hw3 hu2
          go_wp2_with fail
          refine (HSX.out _ u1 w3 (grownBy_trans HW.out.2 H3.out.1) (HU1.out.grown H3.out.1)).mono ?_
          rintro e w4 ⟨rfl, g4⟩
          have H4 := Lib.hid (And.intro (grownBy_trans H3.out.1 g4) (H3.out.2.grown g4))
          clear g4 H3
          go_wp2_with fail
          refine (HSX.out _ u2 w4 (grownBy_trans HW.out.2 H4.out.1) H4.out.2).mono ?_
          rintro e w5 ⟨rfl, g5⟩
          have G5 := Lib.hid (grownBy_trans H4.out.1 g5)
          clear g5 H4
          go_wp2_with fail
          refine (HP2.out _ (grownBy_alloc' G5.out _) _ (places2 w5 i k _)).mono ?_
          rintro e w6 ⟨u3, rfl, hw6, _⟩
          have G6 := Lib.hid (show W.grownBy w6 none by rw [← hw6]; exact grownBy_alloc' G5.out _)
          clear hw6
          have HLN := Lib.hid (ilen_any u1 X w6 (HU1.out.grown G6.out))
          go_wp2_with fail
          refine HLN.out.mono ?_
          rintro e w66 ⟨rfl, rfl⟩
          go_wp2_with fail
          refine (HP0.out _ G6.out _ (places0 _)).mono ?_
          rintro e w7 ⟨u7, rfl, hw7, h7⟩
          have H7 := Lib.hid (And.intro (show W.grownBy w7 none by rw [← hw7]; exact G6.out) (show ItemAt w7 _ u7 T by rw [← hw7]; exact h7.out (by first | rfl | trivial)))
          clear hw7 h7
          go_wp2_with fail
          refine (HSH.out _ u7 w7 (grownBy_trans HW.out.2 H7.out.1) H7.out.2).mono ?_
          rintro e w8 ⟨rfl, g8⟩
          have G8 := Lib.hid (grownBy_trans H7.out.1 g8)
          clear g8
          go_wp2_with fail
          refine (HSH.out _ v w8 (grownBy_trans HW.out.2 G8.out) (HW.out.1.grown G8.out)).mono ?_
          rintro e w9 ⟨rfl, g9⟩
          have G9 := Lib.hid (grownBy_trans HW.out.2 (grownBy_trans G8.out g9))
          clear g9
          go_wp2_with fail
          go_ret
          exact ⟨by first | rfl | simp, G9.out⟩
        · have hDX : isL X = true := by simpa using hDX
          by_cases hkn : k < 0
          · have e2 : stepE (stepT T i) k = 10 := by rw [hX]; unfold stepE; rw [if_neg (by rw [hDX]; decide), if_pos (.inl hkn)]
            have p2 : pathE T [i, k] = 10 := by rw [pathE, if_pos e1, pathE, pathE]; rw [e2]; rfl
            rw [p2] at HP2
            rw [e1] at HP1 HAT
            clear p2 e1 e2
            go_wp2_with fail
            refine HAT.out.mono ?_
            rintro e w3 ⟨u1, rfl, rfl, hu1, _⟩
            have HU1 := Lib.hid (hu1.out (by first | rfl | trivial))
            clear hu1
            go_wp2_with fail
            refine (HP1.out _ (World.grownBy_alloc W _ none) _ (places1 W i _)).mono ?_
            rintro e w3 ⟨u2, rfl, hw3, hu2⟩
            have H3 := Lib.hid (And.intro (show W.grownBy w3 none by rw [← hw3]; exact World.grownBy_alloc W _ none) (show ItemAt w3 _ u2 X by rw [← hw3]; exact hu2.out (by first | rfl | trivial)))
            clear hw3 hu2
            go_wp2_with fail
            refine (HSX.out _ u1 w3 (grownBy_trans HW.out.2 H3.out.1) (HU1.out.grown H3.out.1)).mono ?_
            rintro e w4 ⟨rfl, g4⟩
            have H4 := Lib.hid (And.intro (grownBy_trans H3.out.1 g4) (H3.out.2.grown g4))
            clear g4 H3
            go_wp2_with fail
            refine (HSX.out _ u2 w4 (grownBy_trans HW.out.2 H4.out.1) H4.out.2).mono ?_
            rintro e w5 ⟨rfl, g5⟩
            have G5 := Lib.hid (grownBy_trans H4.out.1 g5)
            clear g5 H4
            go_wp2_with fail
            refine (HP2.out _ (grownBy_alloc' G5.out _) _ (places2 w5 i k _)).mono ?_
            rintro e w6 ⟨u3, rfl, hw6, _⟩
            have G6 := Lib.hid (show W.grownBy w6 none by rw [← hw6]; exact grownBy_alloc' G5.out _)
            clear hw6
            have HLN := Lib.hid (ilen_any u1 X w6 (HU1.out.grown G6.out))
            go_wp2_with fail
            refine HLN.out.mono ?_
            rintro e w66 ⟨rfl, rfl⟩
            go_wp2_with fail
            refine (HP0.out _ G6.out _ (places0 _)).mono ?_
            rintro e w7 ⟨u7, rfl, hw7, h7⟩
            have H7 := Lib.hid (And.intro (show W.grownBy w7 none by rw [← hw7]; exact G6.out) (show ItemAt w7 _ u7 T by rw [← hw7]; exact h7.out (by first | rfl | trivial)))
            clear hw7 h7
            go_wp2_with fail
            refine (HSH.out _ u7 w7 (grownBy_trans HW.out.2 H7.out.1) H7.out.2).mono ?_
            rintro e w8 ⟨rfl, g8⟩
            have G8 := Lib.hid (grownBy_trans H7.out.1 g8)
            clear g8
            go_wp2_with fail
            refine (HSH.out _ v w8 (grownBy_trans HW.out.2 G8.out) (HW.out.1.grown G8.out)).mono ?_
            rintro e w9 ⟨rfl, g9⟩
            have G9 := Lib.hid (grownBy_trans HW.out.2 (grownBy_trans G8.out g9))
            clear g9
            go_wp2_with fail
            go_ret
            exact ⟨by first | rfl | simp, G9.out⟩
          · by_cases hkg : (CX : Int) ≤ k
            · have e2 : stepE (stepT T i) k = 10 := by rw [hX]; unfold stepE; rw [if_neg (by rw [hDX]; decide), if_pos (.inr (by rw [hCX]; exact hkg))]
              have p2 : pathE T [i, k] = 10 := by rw [pathE, if_pos e1, pathE, pathE]; rw [e2]; rfl
              rw [p2] at HP2
              rw [e1] at HP1 HAT
              clear p2 e1 e2
              go_wp2_with fail
              refine HAT.out.mono ?_
              rintro e w3 ⟨u1, rfl, rfl, hu1, _⟩
              have HU1 := Lib.hid (hu1.out (by first | rfl | trivial))
              clear hu1
              go_wp2_with fail
              refine (HP1.out _ (World.grownBy_alloc W _ none) _ (places1 W i _)).mono ?_
              rintro e w3 ⟨u2, rfl, hw3, hu2⟩
              have H3 := Lib.hid (And.intro (show W.grownBy w3 none by rw [← hw3]; exact World.grownBy_alloc W _ none) (show ItemAt w3 _ u2 X by rw [← hw3]; exact hu2.out (by first | rfl | trivial)))
              clear hw3 hu2
              go_wp2_with fail
              refine (HSX.out _ u1 w3 (grownBy_trans HW.out.2 H3.out.1) (HU1.out.grown H3.out.1)).mono ?_
              rintro e w4 ⟨rfl, g4⟩
              have H4 := Lib.hid (And.intro (grownBy_trans H3.out.1 g4) (H3.out.2.grown g4))
              clear g4 H3
              go_wp2_with fail
              refine (HSX.out _ u2 w4 (grownBy_trans HW.out.2 H4.out.1) H4.out.2).mono ?_
              rintro e w5 ⟨rfl, g5⟩
              have G5 := Lib.hid (grownBy_trans H4.out.1 g5)
              clear g5 H4
              go_wp2_with fail
              refine (HP2.out _ (grownBy_alloc' G5.out _) _ (places2 w5 i k _)).mono ?_
              rintro e w6 ⟨u3, rfl, hw6, _⟩
              have G6 := Lib.hid (show W.grownBy w6 none by rw [← hw6]; exact grownBy_alloc' G5.out _)
              clear hw6
              have HLN := Lib.hid (ilen_any u1 X w6 (HU1.out.grown G6.out))
              go_wp2_with fail
              refine HLN.out.mono ?_
              rintro e w66 ⟨rfl, rfl⟩
              go_wp2_with fail
              refine (HP0.out _ G6.out _ (places0 _)).mono ?_
              rintro e w7 ⟨u7, rfl, hw7, h7⟩
              have H7 := Lib.hid (And.intro (show W.grownBy w7 none by rw [← hw7]; exact G6.out) (show ItemAt w7 _ u7 T by rw [← hw7]; exact h7.out (by first | rfl | trivial)))
              clear hw7 h7
              go_wp2_with fail
              refine (HSH.out _ u7 w7 (grownBy_trans HW.out.2 H7.out.1) H7.out.2).mono ?_
              rintro e w8 ⟨rfl, g8⟩
              have G8 := Lib.hid (grownBy_trans H7.out.1 g8)
              clear g8
              go_wp2_with fail
              refine (HSH.out _ v w8 (grownBy_trans HW.out.2 G8.out) (HW.out.1.grown G8.out)).mono ?_
              rintro e w9 ⟨rfl, g9⟩
              have G9 := Lib.hid (grownBy_trans HW.out.2 (grownBy_trans G8.out g9))
              clear g9
              go_wp2_with fail
              go_ret
              exact ⟨by first | rfl | simp, G9.out⟩
            · have e2 : stepE (stepT T i) k = 0 := by rw [hX]; unfold stepE; rw [if_neg (by rw [hDX]; decide), if_neg (by rw [hCX]; omega)]
              have hkg2 : k < (CX : Int) := by omega
              have p2 : pathE T [i, k] = 0 := by rw [pathE, if_pos e1, pathE, pathE]; rw [e2]; rfl
              rw [p2] at HP2
              rw [e1] at HP1 HAT
              clear p2 e1 e2
              go_wp2_with fail
              refine HAT.out.mono ?_
              rintro e w3 ⟨u1, rfl, rfl, hu1, _⟩
              have HU1 := Lib.hid (hu1.out (by first | rfl | trivial))
              clear hu1
              go_wp2_with fail
              refine (HP1.out _ (World.grownBy_alloc W _ none) _ (places1 W i _)).mono ?_
              rintro e w3 ⟨u2, rfl, hw3, hu2⟩
              have H3 := Lib.hid (And.intro (show W.grownBy w3 none by rw [← hw3]; exact World.grownBy_alloc W _ none) (show ItemAt w3 _ u2 X by rw [← hw3]; exact hu2.out (by first | rfl | trivial)))
              clear hw3 hu2
              go_wp2_with fail
              refine (HSX.out _ u1 w3 (grownBy_trans HW.out.2 H3.out.1) (HU1.out.grown H3.out.1)).mono ?_
              rintro e w4 ⟨rfl, g4⟩
              have H4 := Lib.hid (And.intro (grownBy_trans H3.out.1 g4) (H3.out.2.grown g4))
              clear g4 H3
              go_wp2_with fail
              refine (HSX.out _ u2 w4 (grownBy_trans HW.out.2 H4.out.1) H4.out.2).mono ?_
              rintro e w5 ⟨rfl, g5⟩
              have G5 := Lib.hid (grownBy_trans H4.out.1 g5)
              clear g5 H4
              go_wp2_with fail
              refine (HP2.out _ (grownBy_alloc' G5.out _) _ (places2 w5 i k _)).mono ?_
              rintro e w6 ⟨u3, rfl, hw6, _⟩
              have G6 := Lib.hid (show W.grownBy w6 none by rw [← hw6]; exact grownBy_alloc' G5.out _)
              clear hw6
              have HLN := Lib.hid (ilen_any u1 X w6 (HU1.out.grown G6.out))
              go_wp2_with fail
              refine HLN.out.mono ?_
              rintro e w66 ⟨rfl, rfl⟩
              go_wp2_with fail
              refine (HP0.out _ G6.out _ (places0 _)).mono ?_
              rintro e w7 ⟨u7, rfl, hw7, h7⟩
              have H7 := Lib.hid (And.intro (show W.grownBy w7 none by rw [← hw7]; exact G6.out) (show ItemAt w7 _ u7 T by rw [← hw7]; exact h7.out (by first | rfl | trivial)))
              clear hw7 h7
              go_wp2_with fail
              refine (HSH.out _ u7 w7 (grownBy_trans HW.out.2 H7.out.1) H7.out.2).mono ?_
              rintro e w8 ⟨rfl, g8⟩
              have G8 := Lib.hid (grownBy_trans H7.out.1 g8)
              clear g8
              go_wp2_with fail
              refine (HSH.out _ v w8 (grownBy_trans HW.out.2 G8.out) (HW.out.1.grown G8.out)).mono ?_
              rintro e w9 ⟨rfl, g9⟩
              have G9 := Lib.hid (grownBy_trans HW.out.2 (grownBy_trans G8.out g9))
              clear g9
              go_wp2_with fail
              go_ret
              exact ⟨by first | rfl | simp, G9.out⟩
end Go.Proofs.YtemgeelgkokpcaaDoor
