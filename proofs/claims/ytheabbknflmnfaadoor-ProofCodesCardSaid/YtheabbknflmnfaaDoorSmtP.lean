/- Pairs in memory; the walk of the document's Set, Leaf. -/
import Derived.Test.YtheabbknflmnfaaDoorSmtMem
import Derived.Test.YtheabbknflmnfaaDoorStrs
import Derived.Test.YtheabbknflmnfaaDoorRefTag
import Derived.Maps.AppendAt
import Derived.Deep.RegionWith
namespace Go.Proofs.YtheabbknflmnfaaDoor
open Go.RowKit Go.Maps
attribute [local irreducible] shaL

def pv (M : List PairS) : List Value := M.flatMap fun x => [.string x.1, .string x.2]
theorem pv_length : ∀ M : List PairS, (pv M).length = M.length * 2
  | [] => rfl
  | x :: r => by
    have := pv_length r
    simp only [pv, List.flatMap_cons, List.length_append, List.length_cons, List.length_nil] at this ⊢
    omega
theorem pv_append (M N : List PairS) : pv (M ++ N) = pv M ++ pv N := by simp [pv]
theorem pv_at : ∀ (M : List PairS) (i : Nat) (h : i < M.length), (pv M)[i * 2]? = some (.string M[i].1) ∧ (pv M)[i * 2 + 1]? = some (.string M[i].2)
  | x :: r, 0, _ => ⟨rfl, rfl⟩
  | x :: r, i + 1, h => by
    have ih := pv_at r i (by simpa using h)
    have e : pv (x :: r) = .string x.1 :: .string x.2 :: pv r := rfl
    rw [e, show (i + 1) * 2 = i * 2 + 1 + 1 by omega]
    simp only [List.getElem?_cons_succ, List.getElem_cons_succ]
    exact ih
def PairsAt (w : World) (v : Value) (M : List PairS) : Prop :=
  ∃ a cap, v = .slice a M.length cap ∧ M.length ≤ cap ∧ cap ≤ maxLen ∧ ∀ i (h : i < M.length), ∃ g o, a = some ⟨g, o, none⟩ ∧ w.cell? ⟨g, o + i * 2, none⟩ = some (.string M[i].1) ∧ w.cell? ⟨g, o + i * 2 + 1, none⟩ = some (.string M[i].2)
theorem PairsAt.grown {w w' : World} {v : Value} {M : List PairS} (h : PairsAt w v M) (k : w.grownBy w' none) : PairsAt w' v M := by
  obtain ⟨a, cap, e, h1, h2, hc⟩ := h
  refine ⟨a, cap, e, h1, h2, fun i hi => ?_⟩
  obtain ⟨g, o, e2, h3, h4⟩ := hc i hi
  exact ⟨g, o, e2, k.cell h3 (by simp), k.cell h4 (by simp)⟩
theorem pairs_own {w : World} {B : Nat} {v : Value} {M : List PairS} (h : w.ownsRow B 33 2 v M.length (pv M)) : PairsAt w v M := by
  rcases h.2 with ⟨rfl, h0⟩ | ⟨g, cap, cur, rfl, hB, hg, h1, h2, h3, h4⟩
  · exact ⟨none, 0, by rw [h0], by omega, by unfold maxLen; omega, fun i hi => by omega⟩
  · refine ⟨some ⟨g, 0, none⟩, cap, rfl, h1, h2, fun i hi => ⟨g, 0, rfl, ?_, ?_⟩⟩
    · have := (pv_at M i hi).1
      rw [← h4, List.getElem?_take, if_pos (by omega)] at this
      rw [Nat.zero_add, cell_of hg]
      simpa using this
    · have := (pv_at M i hi).2
      rw [← h4, List.getElem?_take, if_pos (by omega)] at this
      rw [Nat.zero_add, cell_of hg]
      simpa using this
theorem own_low2 {w : World} {B B' n s : Nat} {t : TypeId} {v : Value} {xs : List Value} (h : w.ownsRow B t s v n xs) (hb : B' ≤ B) : w.ownsRow B' t s v n xs := by
  refine ⟨h.1, ?_⟩
  rcases h.2 with h' | ⟨g, cap, cur, rfl, hB, r⟩
  · exact .inl h'
  · exact .inr ⟨g, cap, cur, rfl, Nat.le_trans hb hB, r⟩
theorem infoPair : (Tryd.prog.info? 33).map (fun i => (i.zero, i.size, i.bytes)) = some (some (.agg #[.string ⟨#[]⟩, .string ⟨#[]⟩]), 2, 32) := by kernel_rfl
theorem lit_pair (w : World) (x y : Value) : ∀ j u, [x, y][j]? = some u → (w.alloc (.cells #[x, y] 33)).cell? ((⟨w.heap.size, 0, none⟩ : Addr).add j) = some u := by
  intro j u hj
  match j, hj with
  | 0, hj => simp at hj; subst hj; simp [Addr.add]
  | 1, hj => simp at hj; subst hj; simp [Addr.add]
theorem eq_str (a b : ByteArray) : (a.toList == b.toList) = decide (a = b) := by
  rw [ByteArray.toList_eq, ByteArray.toList_eq, Bool.eq_iff_iff, beq_iff_eq, decide_eq_true_iff]
  exact ⟨fun h => ByteArray.ext (Array.toList_inj.1 h), fun h => by rw [h]⟩
theorem filter_step (M : List PairS) (P : PairS → Bool) (i : Nat) (h : i < M.length) : (M.take (i + 1)).filter P = (M.take i).filter P ++ (if P M[i] then [M[i]] else []) := by
  rw [List.take_succ_eq_append_getElem h, List.filter_append]
  congr 1
  by_cases hp : P M[i] = true
  · simp [hp]
  · simp [hp]
set_option maxRecDepth 100000 in
set_option maxHeartbeats 3200000 in
theorem refSet_any (w : World) (v : Value) (M : List PairS) (x : PairS) (hv : PairsAt w v M) (hM : M.length ≤ 1000000) :
    Calls Tryd.prog 12 #[v, .agg #[.string x.1, .string x.2]] w fun e w' => ∃ v', e = .returned v' ∧ w'.ownsRow w.heap.size 33 2 v' (setM M x).length (pv (setM M x)) ∧ w.grownBy w' none := by
  obtain ⟨i0, hti, hz0, hz1, hz2⟩ := info_parts infoPair
  obtain ⟨k, y⟩ := x
  obtain ⟨a, cap, rfl, hcap, _, hc⟩ := hv
  have HC := Lib.hid hc
  have HM := Lib.hid hM
  obtain ⟨n, hn⟩ : ∃ n, M.length = n := ⟨_, rfl⟩
  rw [hn] at hcap ⊢
  have HN := Lib.hid hn
  have hn0 : n ≤ 1000000 := by omega
  clear hc hM hn
  have hg1 : w.grownBy (w.alloc (.cells #[.string k, .string y] 33)) none := World.grownBy_alloc _ _ _
  have hb1 := heap_alloc_at w (.cells #[.string k, .string y] 33) _ rfl
  go_enter Tryd.func12, Tryd.ntmps12
  have hws : (w.alloc (.cells #[.string k, .string y] 33)).heap.size = w.heap.size + 1 := by simp
  go_wp2_with fail
  generalize w.alloc (.cells #[.string k, .string y] 33) = w1 at *
  have HG1 := Lib.hid (And.intro hg1 hb1)
  have hlt : w.heap.size + 1 = w1.heap.size := by simpa using hws.symm
  have HLT := Lib.hid hlt
  obtain ⟨XB, hXB⟩ : ∃ XB, w.heap.size = XB := ⟨_, rfl⟩
  rw [hXB] at HG1 HLT ⊢
  have HXB := Lib.hid hXB
  clear hg1 hb1 hlt hXB hws
  go_loopw [5, 6] (fun v iv wr => ∃ (i : Nat), i ≤ n ∧ iv = .int .i64 i ∧ Hid (wr.ownsRow (XB + 1) 33 2 v ((M.take i).filter fun p => !decide (p.1 = k)).length (pv ((M.take i).filter fun p => !decide (p.1 = k)))) ∧ Hid (w1.grownBy wr none)) (fun _ iv _ => n - (intOf iv).toNat)
  case atStart => exact ⟨0, Nat.zero_le _, rfl, World.ownsRow_nil _ _ _ _, World.grownBy.refl _ _⟩
  case round =>
    obtain ⟨i, hi, rfl, HO, HG⟩ := hrel
    have hb2 := HG.out.heap HG1.out.2 (by simp)
    have x0 := cell_of hb2 0
    have x1 := cell_of hb2 1
    simp at x0 x1
    clear hb2
    by_cases hlt : i < n
    · have d1 : (i : Int) < (n : Int) := by omega
      have d0 : (0 : Int) ≤ (i : Int) := by omega
      have hil : i < M.length := by have := HN.out; omega
      obtain ⟨p, hp⟩ : ∃ p, M[i] = p := ⟨_, rfl⟩
      obtain ⟨pk, py⟩ := p
      obtain ⟨g, o, rfl, h1, h2⟩ := HC.out i hil
      rw [hp] at h1 h2
      have c1 := HG1.out.1.cell h1 (by simp)
      have c2 := HG1.out.1.cell h2 (by simp)
      have c1 := HG.out.cell c1 (by simp)
      have c2 := HG.out.cell c2 (by simp)
      have hst := filter_step M (fun p => !decide (p.1 = k)) i hil
      rw [hp] at hst
      have HST := Lib.hid hst
      clear h1 h2 hp hst
      have heq := eq_str pk k
      by_cases hk : pk = k
      · have e1 : (pk.toList == k.toList) = true := by rw [heq]; simpa using hk
        have HK := Lib.hid hk
        clear heq hk
        go_wp2_with fail
        go_region
        all_goals
          go_wp2_with fail
          go_roundw
          case rel =>
            refine ⟨i + 1, by omega, by go_num, ?_, grownBy_drewN HG.out 1⟩
            have := HST.out
            simp [HK.out] at this
            show World.ownsRow _ _ _ _ _ _ _
            rw [this]
            exact HO.out
          case measure => simp [intOf]; omega
      · have e1 : (pk.toList == k.toList) = false := by rw [heq]; simpa using hk
        have HK := Lib.hid hk
        clear heq hk
        have hfl : ((M.take i).filter fun p => !decide (p.1 = k)).length ≤ 1000000 := by
          have h1 := List.length_filter_le (fun p : PairS => !decide (p.1 = k)) (M.take i)
          have h2 := List.length_take_le i M
          omega
        have HFL := Lib.hid hfl
        have HSZ : Hid (XB + 1 ≤ wr.heap.size) := Lib.hid (by have := HLT.out; have := HG.out.size; omega)
        clear hfl
        go_wp2_with fail
        go_region
        all_goals
          go_wp2_with (at_builtin; refine wpList_append_own _ rfl _ _ 24 rfl (XB + 1) 33 i0 (.agg #[.string ⟨#[]⟩, .string ⟨#[]⟩]) 2 32 Tryd.underlying24 hti hz0 hz1 hz2 rfl (by decide) _ _ _ rfl (HO.out.alloc _) ⟨wr.heap.size, 0, none⟩ 1 1 [.string pk, .string py] rfl rfl (lit_pair _ _ _) ?q2 ?q3 ?q4 ?q5 ?_)
          case q2 => first | rfl | (intro u hu; simp at hu; rcases hu with rfl | rfl <;> rfl) | exact ⟨rfl, rfl⟩
          case q3 => have := HFL.out; unfold maxLen; omega
          case q4 => have := HFL.out; omega
          case q5 => have := HSZ.out; first | (simp; omega) | omega
          intro v' w' ho hg _
          have HO2 := Lib.hid ho
          have HG2 : Hid (w1.grownBy w' none) := by
            refine Lib.hid (grown_row (grownBy_alloc' (grownBy_drew HG.out) (.cells #[.string pk, .string py] 33)) hg (fun x e => ?_))
            have := (HO.out.lt x e).1
            have := HLT.out
            omega
          clear ho hg
          go_wp2_with fail
          go_roundw
          case rel =>
            refine ⟨i + 1, by omega, by go_num, ?_, HG2.out⟩
            have := HST.out
            simp [HK.out] at this
            show World.ownsRow _ _ _ _ _ _ _
            rw [this, pv_append, List.length_append]
            exact HO2.out
          case measure => simp [intOf]; omega
    · have d1 : ¬ (i : Int) < (n : Int) := by omega
      have hin : M.take i = M := List.take_of_length_le (by have := HN.out; omega)
      rw [hin] at HO
      have hfl : (M.filter fun p => !decide (p.1 = k)).length ≤ 1000000 := by
        have h1 := List.length_filter_le (fun p : PairS => !decide (p.1 = k)) M
        have := HM.out
        omega
      have HFL := Lib.hid hfl
      have HSZ : Hid (XB + 1 ≤ wr.heap.size) := Lib.hid (by have := HLT.out; have := HG.out.size; omega)
      clear hfl hin
      go_wp2_with (at_builtin; refine wpList_append_own _ rfl _ _ 24 rfl (XB + 1) 33 i0 (.agg #[.string ⟨#[]⟩, .string ⟨#[]⟩]) 2 32 Tryd.underlying24 hti hz0 hz1 hz2 rfl (by decide) _ _ _ rfl (HO.out.alloc _) ⟨wr.heap.size, 0, none⟩ 1 1 [.string k, .string y] rfl rfl (lit_pair _ _ _) ?r2 ?r3 ?r4 ?r5 ?_)
      case r2 => first | rfl | (intro u hu; simp at hu; rcases hu with rfl | rfl <;> rfl) | exact ⟨rfl, rfl⟩
      case r3 => have := HFL.out; unfold maxLen; omega
      case r4 => have := HFL.out; omega
      case r5 => have := HSZ.out; first | (simp; omega) | omega
      intro v' w' ho hg _
      have HO2 := Lib.hid ho
      have HG2 : Hid (w.grownBy w' none) := Lib.hid (grown_row (grownBy_trans HG1.out.1 (grownBy_alloc' HG.out (.cells #[.string k, .string y] 33))) hg (fun x e => by have := (HO.out.lt x e).1; have := HXB.out; omega))
      clear ho hg
      go_wp2_with fail
      go_ret
      refine ⟨v', rfl, ?_, HG2.out⟩
      rw [HXB.out]
      unfold setM
      rw [pv_append, List.length_append]
      exact own_low2 HO2.out (Nat.le_succ _)
end Go.Proofs.YtheabbknflmnfaaDoor
