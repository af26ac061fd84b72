/- What made makes is small: bounds. The law's made, whole. No walk. -/
import Derived.Test.YtemgeelgkokpcaaDoorItmJ
import Derived.Test.YtemgeelgkokpcaaDoorItmX
import Derived.Lib.ItoaLen
namespace Go.Proofs.YtemgeelgkokpcaaDoor
open Go.RowKit

theorem quoteL_len (s : List UInt8) : (quoteL s).length ≤ 4 * s.length + 2 := by
  unfold quoteL
  rw [List.length_cons, List.length_append]
  have h : (s.flatMap quoteB).length ≤ 4 * s.length := by
    induction s with
    | nil => simp
    | cons c r ih =>
      have := quoteB_len c
      rw [List.flatMap_cons, List.length_append, List.length_cons]
      omega
  rw [List.length_singleton]
  omega
mutual
theorem sm_facts : ∀ t : Tr, smT t → cntT t ≤ 256 → okT t ∧ errT t = 0 ∧ (encT t).length ≤ 40 * cntT t ∧ wkT t ≤ 2 * cntT t ∧ (showT t).length + 1 ≤ 130 * cntT t
  | .num n, h, _ => by
    rw [smT] at h
    have h2 := Lib.itoa_length_le n h.1 h.2
    refine ⟨by rw [okT]; exact h, by rw [errT], by rw [encT, cntT, List.length_cons, be_length]; omega, by rw [wkT, cntT]; omega, by rw [showT, cntT]; omega⟩
  | .text s, h, _ => by
    rw [smT] at h
    have hz : s.data.toList.length = s.size := by rw [Array.length_toList]; rfl
    have h2 := quoteL_len s.data.toList
    rw [hz] at h2
    exact ⟨by rw [okT]; omega, by rw [errT, if_neg (by omega)], by rw [encT, cntT, List.length_cons, List.length_append, be_length, hz]; omega, by rw [wkT, cntT]; omega, by rw [showT, cntT]; omega⟩
  | .list l, h, hc => by
    rw [smT] at h
    rw [cntT] at hc
    obtain ⟨h1, h2, h3, h4, h5⟩ := sms_facts l h (by omega)
    have h6 := cntTs_len l
    have h7 := h5 0
    exact ⟨by rw [okT]; exact ⟨by omega, h1⟩, by rw [errT, if_neg (by omega)]; exact h2, by rw [encT, cntT, List.length_cons, List.length_append, be_length]; omega, by rw [wkT, cntT]; omega, by rw [showT, cntT, List.length_cons]; omega⟩
theorem sms_facts : ∀ l : List Tr, smTs l → cntTs l ≤ 256 → okTs l ∧ errTs l = 0 ∧ (encTs l).length ≤ 40 * cntTs l ∧ wkTs l ≤ 2 * cntTs l ∧ ∀ k, (showTs k l).length ≤ 130 * cntTs l + 1
  | [], _, _ => ⟨by rw [okTs]; trivial, by rw [errTs], by rw [encTs, cntTs]; exact Nat.le_refl _, by rw [wkTs, cntTs]; exact Nat.le_refl _, fun k => by rw [showTs, cntTs]; exact Nat.le_refl _⟩
  | t :: r, h, hc => by
    rw [smTs] at h
    rw [cntTs] at hc
    obtain ⟨h1, h2, h3, h4, h5⟩ := sm_facts t h.1 (by omega)
    obtain ⟨g1, g2, g3, g4, g5⟩ := sms_facts r h.2 (by omega)
    refine ⟨by rw [okTs]; exact ⟨h1, g1⟩, by rw [errTs, if_neg (by rw [h2]; simp)]; exact g2, by rw [encTs, cntTs, List.length_append]; omega, by rw [wkTs, cntTs]; omega, fun k => ?_⟩
    have := g5 (k + 1)
    rw [showTs, cntTs, List.length_append, List.length_append]
    split <;> simp <;> omega
end
theorem made_ok : ∀ f, ∀ g, g ≤ f → MadeOk g
  | 0, g, h => by
    obtain rfl : g = 0 := by omega
    intro a n c L w _ _ _ p d _ _ _ hf
    omega
  | f + 1, g, h => by
    by_cases hg : g ≤ f
    · exact made_ok f g hg
    · obtain rfl : g = f + 1 := by omega
      exact made_step f (made_ok f)
/-- the item of so many nodes, from the first on -/
def madeT (L : List NodI) : Tr := (mkT (2 * L.length + 1) L 0 8).1
theorem made_any (a : Option Addr) (n c : Nat) (L : List NodI) (w : World) (hL : NodsAt w (.slice a n c) L) (hI : InOk L) (hn : n ≤ 1000) :
    Calls Tryd.prog 8 #[.slice a n c, .int .i64 0, .int .i64 8] w fun e w' => ∃ (v nv : Value) (k : Nat), e = .returned (.tuple #[v, nv, .int .i64 k]) ∧ ItemAt w' (fun i => w.heap.size ≤ i) v (madeT L) ∧ w'.ownsRow w.heap.size 44 4 nv (nodT (madeT L)).length (nodV (nodT (madeT L))) ∧ w.grownBy w' none := by
  refine (made_ok (2 * L.length + 1) _ (Nat.le_refl _) a n c L w hL hI hn 0 8 (by decide) (by decide) (by decide) (by rw [hL.len]; omega)).mono ?_
  rintro e w' ⟨v, nv, rfl, h1, h2, h3⟩
  exact ⟨v, nv, _, rfl, h1, h2, h3⟩
theorem made_small (L : List NodI) (hI : InOk L) (hn : L.length ≤ 100) : depT (madeT L) ≤ 8 ∧ cntT (madeT L) ≤ 108 ∧ okT (madeT L) ∧ errT (madeT L) = 0 ∧ (encT (madeT L)).length ≤ 4320 ∧ wkT (madeT L) ≤ 216 ∧ (showT (madeT L)).length ≤ 14040 := by
  have h1 := (mk_small L hI (2 * L.length + 1)).1 0 8 (by decide)
  have h2 := (mk_step (2 * L.length + 1) L).1 0 8
  have h3 : cntT (madeT L) ≤ 108 := by
    have a1 := h1.2.2
    have a2 := h2.2.2
    show cntT (mkT (2 * L.length + 1) L 0 8).1 ≤ 108
    omega
  obtain ⟨g1, g2, g3, g4, g5⟩ := sm_facts (madeT L) h1.1 (by omega)
  exact ⟨h1.2.1, h3, g1, g2, by omega, by omega, by omega⟩
theorem made_sm (L : List NodI) (hI : InOk L) : smT (madeT L) := ((mk_small L hI (2 * L.length + 1)).1 0 8 (by decide)).1
theorem IT.on {w w' : World} (h : IT w.heap.size w) (g : w.grownBy w' none) : IT w'.heap.size w' := fun w'' k2 => h w'' ((below_grownBy g).trans (k2.mono g.size))
theorem NodsAt.take {w : World} {a : Option Addr} {n c : Nat} {L : List NodI} (h : NodsAt w (.slice a n c) L) (m : Nat) (hm : m ≤ n) : NodsAt w (.slice a m c) (L.take m) := by
  have hl := h.len
  have hlt : (L.take m).length = m := by rw [List.length_take]; omega
  refine ⟨a, c, by rw [hlt], fun i hi => ?_⟩
  rw [hlt] at hi
  obtain ⟨g, o, e, c0, c1, c2⟩ := h.at_ i L[i] (List.getElem?_eq_getElem (by omega))
  rw [List.getElem_take]
  exact ⟨g, o, e, c0, c1, c2⟩
theorem InOk.take {L : List NodI} (h : InOk L) (m : Nat) : InOk (L.take m) := fun x hx => h x (List.mem_of_mem_take hx)
end Go.Proofs.YtemgeelgkokpcaaDoor
