/- Keys that rise, parted at a bit. No walk. -/
import Derived.Test.YtheabbknflmnfaaDoorSmtD
import Derived.Sort.Walk0
namespace Go.Proofs.YtheabbknflmnfaaDoor
open Go.RowKit Go.Maps Go.Sort
attribute [local irreducible] shaL

def Rises (L : List ByteArray) : Prop := L.Pairwise fun x y => Op.bytesLess y.data.toList x.data.toList = false
theorem rises_sortK (M : List PairS) (P : ByteArray → Bool) : Rises (sortK M P) := by
  unfold Rises sortK
  rw [List.pairwise_map]
  refine (List.pairwise_mergeSort (fun a b c h1 h2 => ?_) (fun a b => ?_) _).imp fun {a b} h => ?_
  · simp only [decide_eq_true_eq] at h1 h2 ⊢
    exact List.le_trans h1 h2
  · simp only [Bool.or_eq_true, decide_eq_true_eq]
    exact List.le_total a b
  · show Op.bytesLess b a = false
    rw [bytesLess_eq]
    simp only [decide_eq_true_eq] at h
    simp
    exact h
def sideK (b d : Nat) (L : List ByteArray) : List ByteArray := L.filter fun k => bitS k d == b
theorem side_pairs (M : List PairS) (b d : Nat) (L : List ByteArray) : side b d (pairsM M L) = pairsM M (sideK b d L) := by
  unfold side pairsM sideK
  rw [List.filter_map]
  rfl
/-- where the ones begin -/
def cutK (L : List ByteArray) (d : Nat) : Nat := match L.findIdx? (fun k => bitS k d == 1) with
  | some i => i
  | none => L.length
theorem cutK_le (L : List ByteArray) (d : Nat) : cutK L d ≤ L.length := by
  unfold cutK
  split
  · rename_i i h
    have := (List.findIdx?_eq_some_iff_getElem.1 h).1
    omega
  · exact Nat.le_refl _
theorem firstI_cut (L : List ByteArray) (d : Nat) : (cutK L d = L.length ∧ firstI L (fun k => bitS k d == 1) = -1) ∨ (cutK L d < L.length ∧ firstI L (fun k => bitS k d == 1) = (cutK L d : Nat)) := by
  unfold cutK firstI
  cases h : L.findIdx? (fun k => bitS k d == 1) with
  | none => exact .inl ⟨rfl, rfl⟩
  | some i => exact .inr ⟨(List.findIdx?_eq_some_iff_getElem.1 h).1, rfl⟩
theorem cut_sides (L : List ByteArray) (d : Nat) (hd : d < 128) (hR : Rises L) (hl : ∀ k ∈ L, k.size = 16) (ha : ∀ x ∈ L, ∀ y ∈ L, ∀ i, i < d → bitS x i = bitS y i) : L.take (cutK L d) = sideK 0 d L ∧ L.drop (cutK L d) = sideK 1 d L := by
  have hz : ∀ j, (h : j < L.length) → j < cutK L d → bitS L[j] d = 0 := by
    intro j hj hc
    unfold cutK at hc
    have hb := bitS_le L[j] d
    cases h : L.findIdx? (fun k => bitS k d == 1) with
    | none =>
      have := List.findIdx?_eq_none_iff.1 h L[j] (List.getElem_mem _)
      simp at this
      omega
    | some i =>
      rw [h] at hc
      have := (List.findIdx?_eq_some_iff_getElem.1 h).2.2 j hc
      simp at this
      omega
  have ho : ∀ j, (h : j < L.length) → cutK L d ≤ j → bitS L[j] d = 1 := by
    intro j hj hc
    unfold cutK at hc
    have hb := bitS_le L[j] d
    cases h : L.findIdx? (fun k => bitS k d == 1) with
    | none => rw [h] at hc; simp at hc; omega
    | some i =>
      rw [h] at hc
      simp at hc
      obtain ⟨hi, h1, _⟩ := List.findIdx?_eq_some_iff_getElem.1 h
      have h1' : bitS L[i] d = 1 := by simpa using h1
      by_cases e : i = j
      · subst e; exact h1'
      · have hr := List.pairwise_iff_getElem.1 hR i j hi hj (by omega)
        by_cases h0 : bitS L[j] d = 1
        · exact h0
        · exfalso
          have := order_bit L[i].data.toList L[j].data.toList d (by rw [Array.length_toList]; exact hl _ (List.getElem_mem _)) (by rw [Array.length_toList]; exact hl _ (List.getElem_mem _)) hd (fun q hq => ha _ (List.getElem_mem _) _ (List.getElem_mem _) q hq) (fun e => h0 (e.symm.trans h1')) hr
          have h2 : bitS L[i] d = 0 := this.1
          omega
  have h0 : ∀ x ∈ L.take (cutK L d), bitS x d = 0 := by
    intro x hx
    obtain ⟨j, hj, rfl⟩ := List.getElem_of_mem hx
    rw [List.getElem_take]
    rw [List.length_take] at hj
    exact hz j (by omega) (by omega)
  have h1 : ∀ x ∈ L.drop (cutK L d), bitS x d = 1 := by
    intro x hx
    obtain ⟨j, hj, rfl⟩ := List.getElem_of_mem hx
    rw [List.getElem_drop]
    rw [List.length_drop] at hj
    exact ho _ (by omega) (by omega)
  have e : ∀ b, sideK b d L = (L.take (cutK L d)).filter (fun k => bitS k d == b) ++ (L.drop (cutK L d)).filter (fun k => bitS k d == b) := by
    intro b
    unfold sideK
    rw [← List.filter_append, List.take_append_drop]
  constructor
  · rw [e, List.filter_eq_self.2 (fun x hx => by simp [h0 x hx]), List.filter_eq_nil_iff.2 (fun x hx => by simp [h1 x hx]), List.append_nil]
  · rw [e, List.filter_eq_nil_iff.2 (fun x hx => by simp [h0 x hx]), List.filter_eq_self.2 (fun x hx => by simp [h1 x hx]), List.nil_append]
theorem Rises.sub {L N : List ByteArray} (h : Rises L) (hs : N.Sublist L) : Rises N := List.Pairwise.sublist hs h
end Go.Proofs.YtheabbknflmnfaaDoor
