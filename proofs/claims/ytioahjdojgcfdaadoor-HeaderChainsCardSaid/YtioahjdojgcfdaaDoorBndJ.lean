/- slices.Chunk over texts, by two. -/
import Derived.Test.YtioahjdojgcfdaaDoorHeaderChainsB6
import Derived.Test.YtioahjdojgcfdaaDoorHeaderChainsB4
namespace Go.Proofs.YtioahjdojgcfdaaDoor
open Go.RowKit Go.Shelf
attribute [local irreducible] shaL
attribute [local go_sem] Oper.semAt_some

theorem chunk_any (a : Option Addr) (n c : Nat) (w : World) : Calls Tryd.prog 146 #[.slice a n c, .int .i64 2] w fun e w' => e = .returned (.func (.func 162) #[] #[.pointer (some ⟨w.heap.size, 0, none⟩), .pointer (some ⟨w.heap.size + 1, 0, none⟩)]) ∧ (w.alloc (.cells #[.slice a n c] 44)).alloc (.cells #[.int .i64 2] 3) = w' := by
  have hb2 := heap_alloc_at (w.alloc (.cells #[.slice a n c] 44)) (.cells #[.int .i64 2] 3) _ rfl
  have hsz : (w.alloc (.cells #[.slice a n c] 44)).heap.size = w.heap.size + 1 := by simp
  rw [hsz] at hb2
  have c2 : ((w.alloc (.cells #[.slice a n c] 44)).alloc (.cells #[.int .i64 2] 3)).cell? ⟨w.heap.size + 1, 0, none⟩ = some (.int .i64 2) := by rw [cell_of hb2]; rfl
  clear hb2 hsz
  go_enter Tryd.func146, Tryd.ntmps146
  go_wp2_with fail
  go_ret
  exact ⟨rfl, rfl⟩
/-- the x-th chunk of a row at g, o (beyond the last one: the last one) -/
def chunkV (g o m x : Nat) : Value := .slice (some ⟨g, o + 2 * min x (m - 1), none⟩) 2 2
set_option maxRecDepth 100000 in
set_option maxHeartbeats 2000000 in
theorem chunk1_in (F : Fence) (n : Nat) (h27 : F.fn 162) (hro : F.round = none) (hn : 1 ≤ n) (l Bs n₀ nb m cw g o : Nat) (hm0 : 0 < m) (hlen : m ≤ 1000000) (hcw : 2 * m ≤ cw) (hBs : Bs + 1 < n₀) (hBn : Bs ≠ nb ∧ Bs + 1 ≠ nb) (J Jx : List Nat → World → Prop) (hJd : ∀ s X, J s X → J s X.drew)
    (hY : ∀ pre x W, J pre W → pre.length < m → YieldAt F (n - 1) Tryd.prog l #[chunkV g o m x] W fun e W' =>
      (e = .returned (.bool true) ∧ J (pre ++ [x]) W' ∧ Turn (butOne n₀ nb) W W') ∨ (e = .returned (.bool false) ∧ Jx (pre ++ [x]) W'))
    (W : World) (hnW : n₀ ≤ W.heap.size) (hBc : W.cell? ⟨Bs, 0, none⟩ = some (.slice (some ⟨g, o, none⟩) (2 * m) cw)) (hBd : W.cell? ⟨Bs + 1, 0, none⟩ = some (.int .i64 2)) (h0 : J [] W) :
    CallsIn F n Tryd.prog 162 #[.func (.yield l) #[] #[], .pointer (some ⟨Bs, 0, none⟩), .pointer (some ⟨Bs + 1, 0, none⟩)] W fun e W' => (∃ v, e = .returned v) ∧
      ((∃ ys, ys = List.range m ∧ J ys W') ∨ (∃ pre, (∃ k, k < m ∧ pre = List.range (k + 1)) ∧ Jx pre W')) := by
  refine callsIn_of_wp Tryd.func162 rfl h27 ?_ hro
  simp only [Tryd.ntmps162, List.size_toArray, List.length_cons, List.length_nil, Nat.reduceAdd, Nat.reduceSub, Array.replicate_succ, Array.replicate_zero, List.push_toArray, List.append_toArray, List.nil_append, List.cons_append]
  obtain ⟨M2, hM2⟩ : ∃ k, 2 * m = k := ⟨_, rfl⟩
  rw [hM2] at hBc hcw
  gi_wp2
  gi_loopw [4, 5] (fun i _ wr => ∃ r : Nat, i = .int .i64 (2 * r : Nat) ∧ r ≤ m ∧ J (List.range r) wr ∧ Turn (butOne n₀ nb) W wr)
    (fun i _ _ => M2 - (intOf i).toNat)
  case atStart => exact ⟨0, rfl, Nat.zero_le _, h0, Turn.refl _ _⟩
  case round =>
    obtain ⟨r, rfl, hr, hJs, hnx⟩ := hrel
    have hBc' : wr.cell? ⟨Bs, 0, none⟩ = some (.slice (some ⟨g, o, none⟩) M2 cw) := (hnx.cell (by omega) (fun q => by rcases q with q | q <;> omega) 0).trans hBc
    have hBd' : wr.cell? ⟨Bs + 1, 0, none⟩ = some (.int .i64 2) := (hnx.cell (by omega) (fun q => by rcases q with q | q <;> omega) 0).trans hBd
    obtain ⟨R, hR⟩ : ∃ k, 2 * r = k := ⟨_, rfl⟩
    rw [hR]
    by_cases hlt : r < m
    · have e1 : (R : Int) < (M2 : Int) := by omega
      have e0 : (0 : Int) ≤ (R : Int) := by omega
      have e2 : (R : Int) ≤ (M2 : Int) := by omega
      have e3 : min (2 : Int) ((M2 - R : Nat) : Int) = 2 := by omega
      have e8 : ¬ cw = R := by omega
      have e4 : IntKind.i64.wrap ((R : Int) + 2) = (R : Int) + 2 := IntWalk.i64_in _ (by omega)
      have e5 : (0 : Int) ≤ (R : Int) + 2 := by omega
      have e6 : (R : Int) + 2 ≤ (cw : Int) := by omega
      have e7 : (R : Int) ≤ (R : Int) + 2 := by omega
      have hYr := hY (List.range r) r wr.drew (hJd _ _ hJs) (by rw [List.length_range]; exact hlt)
      have hcv : chunkV g o m r = .slice (some ⟨g, o + R, none⟩) 2 2 := by unfold chunkV; rw [Nat.min_eq_left (by omega), hR]
      rw [hcv] at hYr
      obtain ⟨fn, tmps, assign, body, hy, hRR⟩ := hYr
      have hsub1 : ((R : Int) + 2 - (R : Int)) = 2 := by omega
      have hsub2 : (((R : Int) + 2).toNat - R) = 2 := by omega
      gi_wp2
      gi_region
      all_goals
        gi_wp2
        refine hRR.mono ?_
        rintro e W3 (⟨rfl, hJ3, hk3⟩ | ⟨rfl, hJx3⟩)
        · have hJ3' : J (List.range (r + 1)) W3 := by rw [List.range_succ]; exact hJ3
          have hk3' : Turn (butOne n₀ nb) wr W3 := Turn.trans (Turn.of_grown (grownBy_drew (World.grownBy.refl wr none))) hk3 (fun _ _ q => q)
          have hb3 : W3.cell? ⟨Bs + 1, 0, none⟩ = some (.int .i64 2) := ((hnx.then hk3').cell (by omega) (fun q => by rcases q with q | q <;> omega) 0).trans hBd
          gi_wp2
          go_roundw
          case rel => exact ⟨r + 1, by first | (congr 1; omega) | go_num, by omega, hJ3', hnx.then hk3'⟩
          case measure => simp [intOf]; omega
        · gi_wp2
          refine bodyPost_ret (results_none rfl _ _ _) rfl ?_
          exact ⟨⟨_, rfl⟩, .inr ⟨_, ⟨r, hlt, rfl⟩, by rw [List.range_succ]; exact hJx3⟩⟩
    · have e1 : ¬ (R : Int) < (M2 : Int) := by omega
      have hrm : r = m := by omega
      subst hrm
      gi_wp2
      go_end0
      exact ⟨⟨_, rfl⟩, .inl hJs⟩
end Go.Proofs.YtioahjdojgcfdaaDoor
