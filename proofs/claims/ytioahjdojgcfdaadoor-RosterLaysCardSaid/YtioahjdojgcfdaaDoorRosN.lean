/- The walk of the document's answer whether a text is its own normal form. -/
import Derived.Test.YtioahjdojgcfdaaDoorRosterLaysB5
import Derived.Test.YtioahjdojgcfdaaDoorRosterLaysB3
import Derived.Test.YtioahjdojgcfdaaDoorLabelWhy
namespace Go.Proofs.YtioahjdojgcfdaaDoor
open Go.RowKit Go.Lib

theorem smallR_at {A : List Nat} {i : Nat} (hi : i < A.length) (hA : VRs A) (h : smallR A = A) : smallI (A[i]'hi : Nat) = ((A[i]'hi : Nat) : Int) := by
  have h1 : (smallR A)[i]? = A[i]? := by rw [h]
  unfold smallR at h1
  rw [List.getElem?_map, List.getElem?_eq_getElem hi] at h1
  have h2 : (smallI (A[i]'hi : Nat)).toNat = A[i]'hi := Option.some.inj h1
  have h3 := (small_VR (hA _ (List.getElem_mem hi))).2.2
  rw [h2] at h3
  exact h3.symm
theorem smallR_all {A : List Nat} (h : ∀ i (hi : i < A.length), smallI (A[i]'hi : Nat) = ((A[i]'hi : Nat) : Int)) : smallR A = A := by
  unfold smallR
  apply List.ext_getElem (by simp)
  intro i h1 h2
  rw [List.getElem_map, h i h2]
  rfl
set_option maxRecDepth 100000 in
set_option maxHeartbeats 1600000 in
theorem ref18norm_any (s : ByteArray) (w : World) (hs : s.size ≤ 1000000) :
    Calls Tryd.prog 32 #[.string s] w fun e w' => e = .returned (.int .i64 (nameE s.data.toList)) ∧ w.grownBy w' none := by
  have HWHY := Lib.hid (fun w' => why_any s w' (by omega))
  by_cases h0 : (normalI s.data.toList).2 = 0
  · obtain ⟨A, hA, htA, hAl, hAE⟩ := nameE_runes h0
    have vA : validD s.data.toList = true := by rw [htA]; exact valid_enc A hA
    have rA : runes s.data.toList = A := by rw [htA]; exact runes_enc A hA
    have HRU := Lib.hid (fun w' => refRunes_good s w' (by omega) vA)
    rw [rA] at HRU
    rw [h0] at HWHY
    have hAr : ∀ i, (hi : i < A.length) → A[i]'hi ≤ 1114111 := fun i hi => by
      have := hA _ (List.getElem_mem hi)
      unfold VR at this
      omega
    obtain ⟨N, hN⟩ : ∃ N, nameE s.data.toList = N := ⟨_, rfl⟩
    rw [hN] at hAE ⊢
    have HA := Lib.hid (And.intro hA (And.intro hAE hAr))
    clear vA rA htA hA hAE hAr h0 hN
    go_enter Tryd.func32, Tryd.ntmps32
    go_wp2_with fail
    refine (HWHY.out _).mono ?_
    rintro e w1 ⟨rfl, hb1⟩
    have HB1 := Lib.hid (grownBy_below hb1)
    clear hb1
    go_wp2_with fail
    refine (HRU.out _).mono ?_
    rintro e w2 ⟨⟨v, rfl, hown⟩, hb2⟩
    have HB2 := Lib.hid (grownBy_trans HB1.out (grownBy_below hb2))
    have HC : Hid ((v = .slice none 0 0 ∧ A = []) ∨ ∃ g cap, v = .slice (some ⟨g, 0, none⟩) A.length cap ∧ g < w2.heap.size ∧ ∀ i, (hi : i < A.length) → w2.cell? ⟨g, i, none⟩ = some (.int .i64 (A[i]'hi : Nat))) := Lib.hid (int_row hown)
    clear hown hb2
    obtain ⟨av, cv, hv, HCC⟩ : ∃ av cv, v = .slice av A.length cv ∧ Hid (∀ i, (hi : i < A.length) → ∃ g, av = some ⟨g, 0, none⟩ ∧ w2.cell? ⟨g, i, none⟩ = some (.int .i64 (A[i]'hi : Nat))) := by
      rcases HC.out with ⟨rfl, rfl⟩ | ⟨g, cap, rfl, _, hc⟩
      · exact ⟨none, 0, rfl, Lib.hid (fun i hi => absurd hi (Nat.not_lt_zero i))⟩
      · exact ⟨_, _, rfl, Lib.hid (fun i hi => ⟨g, rfl, hc i hi⟩)⟩
    subst hv
    clear HC
    go_wp2_with fail
    go_loopw [6] (fun iv wr => ∃ i : Nat, i ≤ A.length ∧ iv = .int .i64 i ∧ Hid (∀ j (hj : j < A.length), j < i → smallI (A[j]'hj : Nat) = ((A[j]'hj : Nat) : Int)) ∧ Hid (w2.grownBy wr none)) (fun iv _ => A.length - (intOf iv).toNat)
    case atStart => exact ⟨0, Nat.zero_le _, rfl, Lib.hid (fun j _ h => absurd h (Nat.not_lt_zero j)), World.grownBy.refl _ _⟩
    case round =>
      obtain ⟨i, hi, rfl, HK, HG⟩ := hrel
      by_cases hlt : i < A.length
      · obtain ⟨g, rfl, hc⟩ := HCC.out i hlt
        have c1 : wr.cell? ⟨g, i, none⟩ = some (.int .i64 (A[i]'hlt : Nat)) := HG.out.cell hc (by simp)
        have hri := HA.out.2.2 i hlt
        obtain ⟨x, hx⟩ : ∃ x, A[i]'hlt = x := ⟨_, rfl⟩
        rw [hx] at c1 hri
        have HX := Lib.hid hx
        have c2 : wr.drew.cell? ⟨g, i, none⟩ = some (.int .i64 (x : Nat)) := c1
        have hsr := refSmall_any (x : Int) ⟨by omega, by omega⟩
        have b1 : (i : Int) < (A.length : Int) := by omega
        have b0 : (0 : Int) ≤ (i : Int) := by omega
        clear hc hx
        by_cases hq : smallI (x : Int) = (x : Int)
        · have HQ := Lib.hid hq
          have q1 : (smallI (x : Int) != (x : Int)) = false := by simp [hq]
          clear hq
          go_wp2_with fail
          go_region_with ((go_at_call 79; refine (hsr _).mono ?_; rintro e w6 ⟨rfl, rfl⟩))
          all_goals go_wp2_with fail
          all_goals go_roundw
          all_goals first
            | (case measure => simp [intOf]; omega)
            | (case rel =>
                refine ⟨i + 1, by omega, by go_num, Lib.hid (fun j hj hji => ?_), Lib.hid (grownBy_drew HG.out)⟩
                by_cases e : j = i
                · subst e; rw [HX.out]; exact HQ.out
                · exact HK.out j hj (by omega))
        · have hNn : N = 4 := by
            rw [HA.out.2.1, if_neg (fun h => hq (by have := smallR_at hlt HA.out.1 h; rwa [HX.out] at this))]
          have HNN := Lib.hid hNn
          have q1 : (smallI (x : Int) != (x : Int)) = true := by simp [hq]
          clear hq hNn
          go_wp2_with fail
          go_region_with ((go_at_call 79; refine (hsr _).mono ?_; rintro e w6 ⟨rfl, rfl⟩))
          all_goals go_wp2_with fail
          all_goals go_ret
          all_goals exact ⟨by rw [HNN.out]; rfl, grownBy_drew (grownBy_trans HB2.out HG.out)⟩
      · have hNn : N = 0 := by
          rw [HA.out.2.1, if_pos (smallR_all fun j hj => HK.out j hj (by omega))]
        have HNN := Lib.hid hNn
        have b1 : ¬ (i : Int) < (A.length : Int) := by omega
        clear hNn
        go_wp2_with fail
        go_ret
        exact ⟨by rw [HNN.out]; rfl, grownBy_trans HB2.out HG.out⟩
  · have hN : nameE s.data.toList = (normalI s.data.toList).2 := by unfold nameE; rw [if_pos h0]
    rw [hN]
    obtain ⟨E, hE⟩ : ∃ E, (normalI s.data.toList).2 = E := ⟨_, rfl⟩
    rw [hE] at HWHY h0 ⊢
    have q1 : (E != 0) = true := by simp [h0]
    clear hN hE h0
    go_enter Tryd.func32, Tryd.ntmps32
    go_wp2_with fail
    refine (HWHY.out _).mono ?_
    rintro e w1 ⟨rfl, hb1⟩
    have HB1 := Lib.hid (grownBy_below hb1)
    clear hb1
    go_wp2_with fail
    go_ret
    exact ⟨rfl, HB1.out⟩
end Go.Proofs.YtioahjdojgcfdaaDoor
