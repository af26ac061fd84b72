/- The walk of the law WindowMeets. -/
import Derived.Test.YtioahjdojgcfdaaDoorWindowMeetsB3
namespace Go.Proofs.YtioahjdojgcfdaaDoor
open Go.RowKit
attribute [local irreducible] shaL

set_option maxRecDepth 100000 in
set_option maxHeartbeats 3200000 in
theorem windowMeets_walk (s f a b : Nat) (hs : s ≤ 255) (hf : f ≤ 255) (ha : a ≤ 18446744073709551615) (hb : b ≤ 18446744073709551615) (w : World) (hr : ShaReady w) :
    Calls Tryd.prog 4 #[.int .u8 s, .int .u8 f, .agg #[.int .u64 a, .int .u64 b]] w fun e w' => e = .returned (.bool true) ∧ w.grownBy w' none := by
  obtain ⟨n, hn⟩ : ∃ n, w.heap.size = n := ⟨_, rfl⟩
  have hb0 := heap_alloc_at w (.cells #[.int .u64 a, .int .u64 b] 33) n hn
  have hg0 : w.grownBy (w.alloc (.cells #[.int .u64 a, .int .u64 b] 33)) none := World.grownBy_alloc _ _ _
  obtain ⟨W0, hW0⟩ : ∃ W0, w.alloc (.cells #[.int .u64 a, .int .u64 b] 33) = W0 := ⟨_, rfl⟩
  rw [hW0] at hb0 hg0
  have HW := Lib.hid (And.intro hW0 hn)
  have HSP := Lib.hid (win_speaks W0 (hr.grown hg0))
  have H0 := Lib.hid (And.intro hb0 hg0)
  obtain ⟨m', hm'⟩ : ∃ m', s % 12 = m' := ⟨_, rfl⟩
  have hm12 : m' ≤ 11 := by omega
  have em : (s : Int).tmod 12 = (m' : Int) := by rw [Int.tmod_eq_emod_of_nonneg (by omega)]; omega
  have em2 : (s : Int) % 12 = (m' : Int) := by omega
  obtain ⟨m, hm⟩ : ∃ m, 1 + m' = m := ⟨_, rfl⟩
  have em3 : 1 + (m' : Int) = (m : Int) := by omega
  obtain ⟨f', hf'⟩ : ∃ f', f % (m + 1) = f' := ⟨_, rfl⟩
  have hfm : f' ≤ m := by rw [← hf']; exact Nat.le_of_lt_succ (Nat.mod_lt _ (by omega))
  obtain ⟨M, hM⟩ : ∃ M, m + 1 = M := ⟨_, rfl⟩
  rw [hM] at hf'
  have em4 : (m : Int) + 1 = (M : Int) := by omega
  have hM0 : 0 < M ∧ M ≤ 13 := by omega
  have ef : (f : Int).tmod (M : Int) = (f' : Int) := by rw [Int.tmod_eq_emod_of_nonneg (by omega), ← hf']; exact (Int.natCast_emod f M).symm
  have ef2 : (f : Int) % (M : Int) = (f' : Int) := by rw [← hf']; exact (Int.natCast_emod f M).symm
  have eM : (M : Int) ≠ 0 := by omega
  obtain ⟨q, hq⟩ : ∃ q, (m + f') / 2 + 1 = q := ⟨_, rfl⟩
  have HND := Lib.hid (fun w' => needed_any m f' (by omega) (by omega) w')
  rw [hq] at HND
  have hm1 : 1 ≤ m ∧ m ≤ 12 := by omega
  have HQ := Lib.hid hq
  have hq20 : q ≤ 20 := by omega
  have c1 : ¬ (2 * (q : Int) ≤ (m : Int) + (f' : Int)) := by omega
  have c2 : ¬ ((m : Int) + (f' : Int) < 2 * ((q : Int) - 1)) := by omega
  clear hb0 hg0 hW0 hn hr hm' hm hf' hq hM
  go_enter Tryd.func4, Tryd.ntmps4
  go_wp2_with (rw [HW.out.1, HW.out.2])
  refine HSP.out.mono ?_
  rintro e w1 ⟨rfl, g1⟩
  have hb1 := g1.heap H0.out.1 (by simp)
  have d0 : w1.cell? ⟨n, 0, none⟩ = some (.int .u64 a) := by rw [cell_of hb1]; rfl
  have d1 : w1.cell? ⟨n, 1, none⟩ = some (.int .u64 b) := by rw [cell_of hb1]; rfl
  have HG1 := Lib.hid (grownBy_trans H0.out.2 g1)
  clear g1 hb1
  go_wp2_with fail
  go_region
  go_wp2_with fail
  refine (HND.out _).mono ?_
  rintro e w2 ⟨rfl, rfl⟩
  have HG2 := Lib.hid (grownBy_drew HG1.out)
  by_cases hqm : q ≤ m
  · have c3 : ¬ ((m : Int) < (q : Int)) := by omega
    have HC := Lib.hid (fun x hx w' => choose_any m q x hm1.2 hqm hx w')
    go_wp2_with fail
    refine (HC.out a ha _).mono ?_
    rintro e w3 ⟨rfl, ⟨X, hX, hyX, oX⟩, g3⟩
    generalize w1.drew = w2 at *
    obtain ⟨xb, hxb⟩ : ∃ xb, w2.heap.size = xb := ⟨_, rfl⟩
    rw [hxb] at oX ⊢
    have HX := Lib.hid (And.intro hX (And.intro hyX (And.intro oX (grownBy_trans HG2.out g3))))
    clear oX g3 hX hyX
    go_wp2_with fail
    refine (HC.out b hb _).mono ?_
    rintro e w4 ⟨rfl, ⟨Y, hY, hyY, oY⟩, g4⟩
    obtain ⟨yb, hyb⟩ : ∃ yb, w3.heap.size = yb := ⟨_, rfl⟩
    rw [hyb] at oY ⊢
    have HY := Lib.hid (And.intro hY (And.intro hyY (And.intro oY (And.intro (own_kept HX.out.2.2.1 g4) (grownBy_trans HX.out.2.2.2 g4)))))
    clear oY g4 hY hyY
    go_wp2_with fail
    go_loopw [14, 15] (fun bv iv wr => ∃ k : Nat, k ≤ m ∧ iv = .int .i64 k ∧ bv = .int .i64 (bothL (X.take k) (Y.take k) : Nat) ∧ Hid (w4.grownBy wr none)) (fun _ iv _ => m - (intOf iv).toNat)
    case atStart => exact ⟨0, Nat.zero_le _, rfl, rfl, World.grownBy.refl _ _⟩
    case round =>
      obtain ⟨k, hk, rfl, rfl, HG⟩ := hrel
      have hXl := HX.out.1
      have hYl := HY.out.1
      by_cases hlt : k < m
      · obtain ⟨x, hx⟩ : ∃ x, X[k]? = some x := ⟨_, List.getElem?_eq_getElem (by omega)⟩
        obtain ⟨y, hy⟩ : ∃ y, Y[k]? = some y := ⟨_, List.getElem?_eq_getElem (by omega)⟩
        have hbt := both_take X Y k x y hx hy
        have cx : wr.cell? ⟨xb, k, none⟩ = some (.bool x) := HG.out.cell (by rw [HY.out.2.2.2.1.cellAt k (by omega)]; simp [bools, hx]) (by simp)
        have cy : wr.cell? ⟨yb, k, none⟩ = some (.bool y) := HG.out.cell (by rw [HY.out.2.2.1.cellAt k (by omega)]; simp [bools, hy]) (by simp)
        have hle : bothL (X.take k) (Y.take k) ≤ 12 := Nat.le_trans (bothL_le _ _) (by rw [List.length_take]; omega)
        obtain ⟨z, hz⟩ : ∃ z, bothL (X.take k) (Y.take k) = z := ⟨_, rfl⟩
        rw [hz] at hbt hle ⊢
        have HB := Lib.hid hbt
        have b1 : (0 : Int) ≤ (k : Int) := by omega
        have b2 : (k : Int) < (m : Int) := by omega
        clear hbt hx hy hz hXl hYl
        cases x
        · go_wp2_with fail
          go_roundw
          case rel => exact ⟨k + 1, by omega, by go_num, by rw [HB.out]; simp, HG⟩
          case measure => simp [intOf]; omega
        · cases y
          · go_wp2_with fail
            go_roundw
            case rel => exact ⟨k + 1, by omega, by go_num, by rw [HB.out]; simp, HG⟩
            case measure => simp [intOf]; omega
          · go_wp2_with fail
            go_roundw
            case rel => exact ⟨k + 1, by omega, by go_num, by rw [HB.out]; simp, HG⟩
            case measure => simp [intOf]; omega
      · have hkm : k = m := by omega
        have b2 : ¬ (k : Int) < (m : Int) := by omega
        have hge := both_ge X Y (by omega)
        rw [List.take_of_length_le (by omega), List.take_of_length_le (by omega)]
        have hq := HQ.out
        have h1 := HX.out.2.1
        have h2 := HY.out.2.1
        have b5 : (f' : Int) < (bothL X Y : Nat) := by omega
        generalize bothL X Y = z at b5 ⊢
        clear hge hq h1 h2 hkm hXl hYl
        go_wp2_with fail
        go_ret
        exact ⟨rfl, grownBy_trans HY.out.2.2.2.2 HG.out⟩
  · have c3 : (m : Int) < (q : Int) := by omega
    have c4 : (m : Int) - 1 ≤ (f' : Int) := by have := HQ.out; omega
    go_wp2_with fail
    go_ret
    exact ⟨rfl, HG2.out⟩
theorem windowMeets_below (s f : Int) (hs : 0 ≤ s ∧ s ≤ 255) (hf : 0 ≤ f ∧ f ≤ 255) (l : List Int) (hl : l.length = 2) (hz : ∀ x ∈ l, (Lit.int .u64 x).wf = true) (w : World) (hr : ShaReady w) :
    Calls Tryd.prog 4 #[.int .u8 s, .int .u8 f, .agg (l.map (Value.int .u64)).toArray] w fun e w' => e = .returned (.bool true) ∧ Below w.heap.size w w' := by
  obtain ⟨s, rfl⟩ := Int.eq_ofNat_of_zero_le hs.1
  obtain ⟨f, rfl⟩ := Int.eq_ofNat_of_zero_le hf.1
  match l, hl with
  | [a, b], _ =>
    have ha : 0 ≤ a ∧ a ≤ 18446744073709551615 := by simpa [Lit.wf, IntKind.min, IntKind.max, IntKind.signed, IntKind.bits] using hz a (by simp)
    have hb : 0 ≤ b ∧ b ≤ 18446744073709551615 := by simpa [Lit.wf, IntKind.min, IntKind.max, IntKind.signed, IntKind.bits] using hz b (by simp)
    obtain ⟨a, rfl⟩ := Int.eq_ofNat_of_zero_le ha.1
    obtain ⟨b, rfl⟩ := Int.eq_ofNat_of_zero_le hb.1
    exact (windowMeets_walk s f a b (by omega) (by omega) (by omega) (by omega) w hr).mono fun _ _ h => ⟨h.1, below_grownBy h.2⟩
end Go.Proofs.YtioahjdojgcfdaaDoor
