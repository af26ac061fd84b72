/- Plain words for the law ProofTells: what a search through pairs has found so far. No walk. -/
import Derived.Test.YtheabbknflmnfaaDoorPrfVX
namespace Go.Proofs.YtheabbknflmnfaaDoor
attribute [local irreducible] shaL

theorem hasM_snoc (l : List PairS) (x : PairS) (k : ByteArray) : hasM (l ++ [x]) k = (hasM l k || decide (x.1 = k)) := by
  unfold hasM
  rw [List.any_append]
  simp
theorem valM_hit {l : List PairS} {x : PairS} {k : ByteArray} (hno : hasM l k = false) (hx : x.1 = k) : valM (l ++ [x]) k = x.2 := by
  unfold valM hasM at *
  have h1 : l.find? (fun p => decide (p.1 = k)) = none := by
    rw [List.find?_eq_none]
    intro y hy
    have := List.any_eq_false.1 hno y hy
    simpa using this
  rw [List.find?_append, h1]
  simp [hx]
theorem valM_miss {l : List PairS} {x : PairS} {k : ByteArray} (hx : x.1 ≠ k) : valM (l ++ [x]) k = valM l k := by
  unfold valM
  rw [List.find?_append]
  cases h : l.find? (fun p => decide (p.1 = k)) <;> simp [hx]
theorem has_fresh {l : List PairS} (hone : l.Pairwise (fun p q => p.1 ≠ q.1)) (i : Nat) (hi : i < l.length) : hasM (l.take i) l[i].1 = false := by
  unfold hasM
  rw [List.any_eq_false]
  intro y hy
  obtain ⟨j, hj, rfl⟩ := List.getElem_of_mem hy
  simp at hj
  have := List.pairwise_iff_getElem.1 hone j i (by omega) hi (by omega)
  rw [List.getElem_take]
  simpa using this
theorem start_has (M : List PairS) (K : ByteArray) (d : Nat) : hasM (startM M K d) K = hasM M K := by
  unfold hasM startM
  rw [List.any_filter, Bool.eq_iff_iff, List.any_eq_true, List.any_eq_true]
  constructor
  · rintro ⟨x, hx, h⟩
    rw [Bool.and_eq_true] at h
    exact ⟨x, hx, h.2⟩
  · rintro ⟨x, hx, h⟩
    refine ⟨x, hx, ?_⟩
    rw [h, Bool.and_true]
    have : x.1 = K := by simpa using h
    rw [this]
    exact belowB_self _ _
theorem start_val {M : List PairS} (hone : M.Pairwise (fun p q => p.1 ≠ q.1)) (K : ByteArray) (d : Nat) : valM (startM M K d) K = valM M K := by
  have hh := start_has M K d
  cases h : hasM M K
  · rw [h] at hh
    rw [valM_none hh, valM_none h]
  · rw [h] at hh
    obtain ⟨x, hx, hk⟩ := List.any_eq_true.1 hh
    have hk' : x.1 = K := by simpa using hk
    have h1 := valM_mem (hone.filter _) x hx
    have h2 := valM_mem hone x (List.mem_filter.1 hx).1
    rw [hk'] at h1 h2
    rw [h2]
    exact h1
theorem start_start (M : List PairS) (K : ByteArray) (d n : Nat) : startM (startM M K d) K (d + n) = startM M K (d + n) := by
  unfold startM
  rw [List.filter_filter]
  refine List.filter_congr fun x _ => ?_
  rw [Bool.eq_iff_iff, Bool.and_eq_true]
  refine ⟨fun h => h.1, fun h => ⟨h, ?_⟩⟩
  exact (belowB_iff x.1 K d).2 (fun i hi => (belowB_iff x.1 K (d + n)).1 h i (by omega))
theorem val_more (s : ByteArray) : s ≠ s ++ ⟨#[120]⟩ := by
  intro h
  have : s.size = (s ++ ⟨#[120]⟩).size := by rw [← h]
  rw [ByteArray.size_append] at this
  have h2 : (⟨#[120]⟩ : ByteArray).size = 1 := rfl
  omega
end Go.Proofs.YtheabbknflmnfaaDoor
