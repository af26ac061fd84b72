/- The walk of band's Root. · band's Root where it answers with an error. -/
import Derived.Test.YtgaenpbdfelhhaaDoorBndR
namespace Go.Proofs.YtgaenpbdfelhhaaDoor
open Go.RowKit Go.Shelf
attribute [local irreducible] shaL

theorem nodesB_few (M : List PairS) (d : Nat) : ∀ s ∈ nodesB M d, s.size ≤ 1000 := by
  intro s hs
  obtain ⟨b, _, rfl⟩ := List.mem_map.1 hs
  have := (nodeN_node (128 - d) (bandS M d b) d).size
  omega
theorem pow_succ2 (k : Nat) : 2 ^ (k + 1) = 2 * 2 ^ k := by rw [Nat.pow_succ, Nat.mul_comm]
def lenV : Value → Nat
  | .slice _ n _ => n
  | _ => 0
set_option maxRecDepth 100000 in
set_option maxHeartbeats 2000000 in
theorem broot_any (B : Nat) (v : Value) (M : List PairS) (d : Nat) (w : World) (hr : ShaReady w) (hO : w.ownsRow B 9 1 v (2 ^ d) (strsV (nodesB M d))) (hd : d ≤ 4) :
    Calls Tryd.prog 15 #[v, .int .i64 d] w fun e w' => e = .returned (.tuple #[.string (nodeN 128 M 0), .int .i64 0]) ∧ Below w.heap.size w w' := by
  have HC := Lib.hid (fun w' => bcount_in d hd w')
  have hpos : ∀ k, 0 < 2 ^ k := fun k => Nat.pow_pos (by decide)
  have hle : 2 ^ d ≤ 2 ^ 4 := Nat.pow_le_pow_right (by decide) hd
  have HP := Lib.hid (hpos d)
  have HJ : Hid (∀ (k Bk g cap : Nat) (wr : World), k + 1 ≤ d → Below w.heap.size w wr → wr.ownsRow Bk 9 1 (.slice (some ⟨g, 0, none⟩) (2 ^ (k + 1)) cap) (2 ^ (k + 1)) (strsV (nodesB M (k + 1))) →
      Calls Tryd.prog 33 #[.slice (some ⟨g, 0, none⟩) (2 ^ (k + 1) : Nat) cap] wr fun e w' => ∃ u, e = .returned u ∧ w'.ownsRow (wr.heap.size + 3) 9 1 u (2 ^ k) (strsV (nodesB M k)) ∧ Below wr.heap.size wr w') := by
    intro k Bk g cap wr hk hB hO
    have hst := strs_own hO
    have hcap : 2 ^ (k + 1) ≤ cap ∧ g < wr.heap.size := by
      rcases hO.2 with ⟨_, h0⟩ | ⟨g', cap', cur, e, _, hgb, h1, _⟩
      · have := hpos (k + 1); omega
      · injection e with e1 e2 e3
        injection e1 with e1
        injection e1 with e4 e5
        subst e4; subst e3
        exact ⟨h1, (Array.getElem?_eq_some_iff.1 hgb).1⟩
    have hk4 : 2 ^ k ≤ 2 ^ 4 := Nat.pow_le_pow_right (by decide) (by omega)
    have hj := joined_any g 0 (2 ^ k) cap (nodesB M (k + 1)) wr (hr.grown (grownBy_below hB)) (hpos k) (by omega) (by rw [← pow_succ2]; exact hcap.1) (by rw [nodesB_len, pow_succ2]) (by rw [← pow_succ2]; exact hst) (nodesB_few M (k + 1)) hcap.2
    rw [nodes_join M k (by omega), ← pow_succ2] at hj
    exact hj
  obtain ⟨N, hN⟩ : ∃ N, 2 ^ d = N := ⟨_, rfl⟩
  have hlv : ∃ a c, v = .slice a N c := by
    rw [← hN]
    obtain ⟨a, c, e⟩ := slice_own' hO
    exact ⟨a, c, e⟩
  obtain ⟨va, vc, rfl⟩ := hlv
  have HO := Lib.hid hO
  rw [hN] at HC HP
  have hp0 : ((N : Int) == 0) = false := beq_eq_false_iff_ne.2 (by have := HP.out; omega)
  have HN := Lib.hid hN
  clear hO hN hle hpos hr
  go_enter Tryd.func15, Tryd.ntmps15
  go_wp2_with fail
  refine (HC.out _).mono ?_
  rintro e w1 ⟨rfl, rfl⟩
  go_wp2_with fail
  refine (HC.out _).mono ?_
  rintro e w1 ⟨rfl, rfl⟩
  go_wp2_with fail
  go_loopw [0] (fun lv wr => ∃ k Bk : Nat, k ≤ d ∧ Hid (wr.ownsRow Bk 9 1 lv (2 ^ k) (strsV (nodesB M k))) ∧ Hid (Below w.heap.size w wr)) (fun lv _ => lenV lv)
  case atStart => exact ⟨d, B, Nat.le_refl _, HO.out, Below.refl _ _⟩
  case round =>
    obtain ⟨k, Bk, hk, HO1, HB⟩ := hrel
    have hkp : 0 < 2 ^ k := Nat.pow_pos (by decide)
    have hk4 : 2 ^ k ≤ 2 ^ 4 := Nat.pow_le_pow_right (by decide) (by omega)
    obtain ⟨a, cap, rfl⟩ := slice_own' HO1.out
    obtain ⟨g, rfl⟩ : ∃ g, a = some ⟨g, 0, none⟩ := by
      rcases HO1.out.2 with ⟨_, h0⟩ | ⟨g', cap', cur, e, _⟩
      · omega
      · injection e with e1
        exact ⟨g', e1⟩
    cases k with
    | zero =>
      have c0 : wr.cell? ⟨g, 0, none⟩ = some (.string (nodeN 128 M 0)) := by
        have hO := HO1.out
        rw [nodes_root] at hO
        obtain ⟨a', c', e, hh⟩ := strs_own (L := [nodeN 128 M 0]) hO
        obtain ⟨g', o', rfl, h1⟩ := hh 0 (by simp)
        injection e with e1 e2 e3
        injection e1 with e1
        injection e1 with e4 e5
        subst e4; subst e5
        exact h1
      clear HJ HC
      go_wp2_with fail
      go_returns
      exact ⟨rfl, HB.out⟩
    | succ k =>
      have HJ2 := HJ.out k Bk g cap wr hk HB.out HO1.out
      have hlt : 2 ^ k < 2 ^ (k + 1) := by have := pow_succ2 k; have : 0 < 2 ^ k := Nat.pow_pos (by decide); omega
      have hN1 : 1 < 2 ^ (k + 1) := by have : 0 < 2 ^ k := Nat.pow_pos (by decide); omega
      obtain ⟨N2, hN2⟩ : ∃ N2, 2 ^ (k + 1) = N2 := ⟨_, rfl⟩
      rw [hN2] at HJ2 hN1 hlt hk4 ⊢
      have HJ3 := Lib.hid HJ2
      have e1 : (1 : Int) < (N2 : Int) := by omega
      have e2 : (N2 : Int) > 1 := by omega
      clear HJ HC HJ2
      go_wp2_with fail
      refine HJ3.out.mono ?_
      rintro e w2 ⟨u, rfl, hO2, hB2⟩
      have HO2 := Lib.hid hO2
      have HB2 := Lib.hid (HB.out.trans (hB2.mono HB.out.size))
      obtain ⟨a2, c2, rfl⟩ := slice_own' hO2
      clear hO2 hB2
      go_wp2_with fail
      go_roundw
      case rel => exact ⟨k, _, by omega, HO2.out, HB2.out⟩
      case measure => simp [lenV]; omega
end Go.Proofs.YtgaenpbdfelhhaaDoor

namespace Go.Proofs.YtgaenpbdfelhhaaDoor
open Go.RowKit Go.Shelf
attribute [local irreducible] shaL

theorem broot_out (v : Value) (d : Int) (hd : d < 0 ∨ 4 < d) (w : World) :
    Calls Tryd.prog 15 #[v, .int .i64 d] w fun e w' => e = .returned (.tuple #[.string ⟨#[]⟩, .int .i64 1]) ∧ w = w' := by
  have HC := Lib.hid (fun w' => bcount_out d hd w')
  go_enter Tryd.func15, Tryd.ntmps15
  go_wp2_with fail
  refine (HC.out _).mono ?_
  rintro e w1 ⟨rfl, rfl⟩
  go_wp2_with fail
  go_returns
  exact ⟨rfl, rfl⟩
theorem broot_many (a : Option Addr) (n c : Nat) (d : Nat) (hd : d ≤ 4) (hn : n ≠ 2 ^ d) (w : World) :
    Calls Tryd.prog 15 #[.slice a n c, .int .i64 d] w fun e w' => e = .returned (.tuple #[.string ⟨#[]⟩, .int .i64 22]) ∧ w = w' := by
  have HC := Lib.hid (fun w' => bcount_in d hd w')
  have hpos : 0 < 2 ^ d := Nat.pow_pos (by decide)
  obtain ⟨N, hN⟩ : ∃ N, 2 ^ d = N := ⟨_, rfl⟩
  rw [hN] at HC hn hpos
  have hp0 : ((N : Int) == 0) = false := beq_eq_false_iff_ne.2 (by omega)
  have hne : ((n : Int) == (N : Int)) = false := beq_eq_false_iff_ne.2 (by omega)
  clear hN
  go_enter Tryd.func15, Tryd.ntmps15
  go_wp2_with fail
  refine (HC.out _).mono ?_
  rintro e w1 ⟨rfl, rfl⟩
  go_wp2_with fail
  refine (HC.out _).mono ?_
  rintro e w1 ⟨rfl, rfl⟩
  go_wp2_with fail
  go_returns
  exact ⟨rfl, rfl⟩
end Go.Proofs.YtgaenpbdfelhhaaDoor
