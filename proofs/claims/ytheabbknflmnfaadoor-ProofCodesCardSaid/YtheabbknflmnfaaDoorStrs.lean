/- Lists of texts in memory. No walk. -/
import Derived.Test.YtheabbknflmnfaaDoorShaCalls
namespace Go.Proofs.YtheabbknflmnfaaDoor
open Go.RowKit

def strsV (L : List ByteArray) : List Value := L.map Value.string
theorem strsV_length (L : List ByteArray) : (strsV L).length = L.length := by simp [strsV]
theorem infoStrW : (Tryd.prog.info? 9).map (fun i => (i.zero, i.size, i.bytes)) = some (some (.string ⟨#[]⟩), 1, 16) := by kernel_rfl
theorem strs_own {w : World} {B n : Nat} {a : Option Addr} {cap : Nat} {L : List ByteArray} (h : w.ownsRow B 9 1 (.slice a n cap) n (strsV L)) : StrsAt w (.slice a n cap) L := by
  have hl := h.1
  simp [strsV] at hl
  subst hl
  refine ⟨a, cap, rfl, fun i hi => ?_⟩
  rcases h.2 with ⟨_, h0⟩ | ⟨g, cap', cur, he, hB, hg, hnc, hm, hcs, htake⟩
  · omega
  · cases he
    refine ⟨g, 0, rfl, ?_⟩
    rw [Nat.zero_add, cell_of hg]
    have : (strsV L)[i]? = some (.string L[i]) := by simp [strsV, List.getElem?_eq_getElem hi]
    rw [← htake, List.getElem?_take, if_pos (by omega)] at this
    simpa using this
theorem StrsAt.grown {w w' : World} {v : Value} {L : List ByteArray} (h : StrsAt w v L) (hg : w.grownBy w' none) : StrsAt w' v L := h.kept (below_grownBy hg)
theorem StrsAt.form {w : World} {v : Value} {L : List ByteArray} (h : StrsAt w v L) : ∃ a cap, v = .slice a L.length cap := by
  obtain ⟨a, cap, rfl, _⟩ := h
  exact ⟨a, cap, rfl⟩
theorem StrsAt.at_ {w : World} {a : Option Addr} {n cap : Nat} {L : List ByteArray} (h : StrsAt w (.slice a n cap) L) (i : Nat) (x : ByteArray) (hx : L[i]? = some x) : ∃ g o, a = some ⟨g, o, none⟩ ∧ w.cell? ⟨g, o + i, none⟩ = some (.string x) := by
  obtain ⟨a', cap', he, hc⟩ := h
  cases he
  obtain ⟨hi, rfl⟩ := List.getElem?_eq_some_iff.1 hx
  exact hc i hi
theorem made_strs (n : Nat) : (madeCells #[Value.string ⟨#[]⟩] n).toList = strsV (List.replicate n ⟨#[]⟩) := by
  apply List.ext_getElem?
  intro i
  simp [madeCells, strsV, List.getElem?_replicate]
  by_cases h : i < n <;> simp [h, Nat.mod_one]
/-- a list being filled: what is done, then empty texts -/
def fillS (L : List ByteArray) (n : Nat) : List ByteArray := L ++ List.replicate (n - L.length) ⟨#[]⟩
theorem fillS_put (L : List ByteArray) (n : Nat) (x : ByteArray) (h : L.length < n) : (strsV (fillS L n)).set L.length (.string x) = strsV (fillS (L ++ [x]) n) := by
  have e : strsV (fillS L n) = strsV L ++ (.string ⟨#[]⟩) :: strsV (List.replicate (n - (L.length + 1)) ⟨#[]⟩) := by
    rw [fillS, show n - L.length = (n - (L.length + 1)) + 1 from by omega, List.replicate_succ]
    simp [strsV]
  have hl := strsV_length L
  rw [e, List.set_append_right _ _ (by omega), hl, Nat.sub_self, List.set_cons_zero]
  simp [strsV, fillS]
theorem fillS_at (L : List ByteArray) (n : Nat) (h : L.length < n) : (strsV (fillS L n))[L.length]? = some (.string ⟨#[]⟩) := by
  have hl := strsV_length L
  rw [fillS, show n - L.length = (n - (L.length + 1)) + 1 from by omega, List.replicate_succ]
  simp only [strsV, List.map_append, List.map_cons]
  rw [List.getElem?_append_right (by simp), List.length_map, Nat.sub_self]
  rfl
theorem fillS_full (L : List ByteArray) (n : Nat) (h : L.length = n) : fillS L n = L := by
  rw [fillS, h, Nat.sub_self]
  simp

theorem StrsAt.news {w : World} {g o n cap : Nat} {L : List ByteArray} (h : StrsAt w (.slice (some ⟨g, o, none⟩) n cap) L) : ∀ j u, (strsV L)[j]? = some u → w.cell? ((⟨g, o, none⟩ : Addr).add j) = some u := by
  intro j u hj
  have hj' : j < L.length := by have := (List.getElem?_eq_some_iff.1 hj).1; rwa [strsV_length] at this
  obtain ⟨g', o', he, hc⟩ := h.at_ j _ (List.getElem?_eq_getElem hj')
  cases he
  rw [show Addr.add ⟨g, o, none⟩ j = (⟨g, o + j, none⟩ : Addr) from by simp [Addr.add], hc, ← hj]
  simp [strsV, List.getElem?_eq_getElem hj']
theorem strsV_one (L : List ByteArray) : ∀ u ∈ strsV L, u.oneCell' = true := by
  intro u hu
  obtain ⟨x, _, rfl⟩ := List.mem_map.1 hu
  rfl
theorem slice_own' {w : World} {B n : Nat} {t : TypeId} {v : Value} {xs : List Value} (h : w.ownsRow B t 1 v n xs) : ∃ a cap, v = .slice a n cap := by
  rcases h.2 with ⟨rfl, rfl⟩ | ⟨g, cap, cur, rfl, _⟩
  · exact ⟨none, 0, rfl⟩
  · exact ⟨_, _, rfl⟩

theorem StrsAt.lt {w : World} {g o n c : Nat} {L : List ByteArray} (h : StrsAt w (.slice (some ⟨g, o, none⟩) n c) L) (h0 : 0 < L.length) : g < w.heap.size := by
  obtain ⟨g', o', e, hc⟩ := h.at_ 0 _ (List.getElem?_eq_getElem h0)
  cases e
  exact cell_lt hc

theorem push_strs (P : List ByteArray) (x : ByteArray) : strsV P ++ [.string x] = strsV (P ++ [x]) := by simp [strsV]
theorem lit_one (w : World) (x : ByteArray) : ∀ j u, [Value.string x][j]? = some u → (w.alloc (.cells #[.string x] 9)).cell? ((⟨w.heap.size, 0, none⟩ : Addr).add j) = some u := by
  intro j u hj
  cases j with
  | zero =>
    simp at hj
    subst hj
    exact cell_of (heap_alloc_at _ _ _ rfl) 0
  | succ j => simp at hj
end Go.Proofs.YtheabbknflmnfaaDoor
