/- The walks of a bag's New, Len, modulo, Put; of layer 27's document's Place. -/
import Derived.Test.YtemgeelgkokpcaaBagP
import Derived.Deep.AppendLies
import Derived.Handy
import Derived.RegionTactic
import Derived.Deep.DeepCutAuto
import Derived.Deep.RegionHeld3
import Derived.Deep.RegionLaw
namespace Go.Proofs.Ytemgeelgkokpcaa
open Go.RowKit

theorem infoLet : (Try.prog.info? 30).map (fun i => (i.zero, i.size, i.bytes)) = some (some (.agg #[.int .i64 0, .int .i64 0, .int .i64 0, .string ⟨#[]⟩]), 4, 40) := by kernel_rfl
/-- a bag in memory, its row among the blocks from n0 on -/
structure BagAt (n0 bb : Nat) (L : List LetS) (v : Value) (w : World) : Prop where
  h : w.heap[bb]? = some (.cells #[v] 42 (0, 0))
  o : w.ownsRow n0 30 4 v L.length (letsV L)
  ne : v.ownBlock ≠ some bb
  l : n0 ≤ bb
theorem BagAt.form {n0 bb : Nat} {L : List LetS} {v : Value} {w : World} (h : BagAt n0 bb L v w) : ∃ a c, v = .slice a L.length c := by
  rcases h.o.2 with ⟨rfl, h0⟩ | ⟨g, cap, cur, rfl, _⟩
  · exact ⟨none, 0, by rw [h0]⟩
  · exact ⟨_, cap, rfl⟩
theorem own_keepB {w w' : World} {B n s : Nat} {t : TypeId} {v : Value} {xs : List Value} {row : Option Nat} (h : w.ownsRow B t s v n xs) (k : w.grownBy w' row) (hne : ∀ x, v.ownBlock = some x → row ≠ some x) : w'.ownsRow B t s v n xs := by
  refine ⟨h.1, ?_⟩
  rcases h.2 with h' | ⟨g, cap, cur, rfl, hB, hg, r⟩
  · exact .inl h'
  · exact .inr ⟨g, cap, cur, rfl, hB, (k.block g (Array.getElem?_eq_some_iff.1 hg).1 (fun e => hne g rfl e.symm)).trans hg, r⟩
theorem BagAt.go {n0 bb : Nat} {L : List LetS} {v : Value} {w w' : World} (h : BagAt n0 bb L v w) (g : w.grownBy w' none) : BagAt n0 bb L v w' :=
  ⟨g.heap h.h (by simp), own_keepB h.o g (fun _ _ e => by cases e), h.ne, h.l⟩
theorem BagAt.lt {n0 bb : Nat} {L : List LetS} {v : Value} {w : World} (h : BagAt n0 bb L v w) : bb < w.heap.size := (Array.getElem?_eq_some_iff.1 h.h).1
/-- a bag none of whose blocks is one of X -/
def KBag (n0 : Nat) (X : List Nat) (w : World) (bb : Nat) (L : List LetS) : Prop := ∃ v, BagAt n0 bb L v w ∧ bb ∉ X ∧ ∀ y, v.ownBlock = some y → y ∉ X
theorem KBag.go {n0 bb : Nat} {X : List Nat} {L : List LetS} {w w' : World} (h : KBag n0 X w bb L) (g : w.grownBy w' none) : KBag n0 X w' bb L := by
  obtain ⟨v, h1, h2, h3⟩ := h
  exact ⟨v, h1.go g, h2, h3⟩
theorem KBag.turn {n0 bb : Nat} {X : List Nat} {L : List LetS} {S : Nat → Prop} {w w' : World} (h : KBag n0 X w bb L) (k : Turn S w w') (hS : ∀ i, i < w.heap.size → S i → i ∈ X) : KBag n0 X w' bb L := by
  obtain ⟨v, h1, h2, h3⟩ := h
  refine ⟨v, ⟨k.heap h1.h (fun q => h2 (hS _ h1.lt q)), own_turn h1.o k (fun g e q => h3 g e (hS g (h1.o.lt g e).2 q)), h1.ne, h1.l⟩, h2, h3⟩
theorem KBag.more {n0 bb : Nat} {X Y : List Nat} {L : List LetS} {w w' : World} (h : KBag n0 X w bb L) (k : w.grownBy w' none) (hY : ∀ i ∈ Y, i ∈ X ∨ w.heap.size ≤ i) : KBag n0 Y w' bb L := by
  obtain ⟨v, h1, h2, h3⟩ := h
  refine ⟨v, h1.go k, fun q => ?_, fun y e q => ?_⟩
  · rcases hY _ q with h | h
    · exact h2 h
    · have := h1.lt; omega
  · rcases hY _ q with h | h
    · exact h3 y e h
    · have := (h1.o.lt y e).2; omega
theorem KBag.lt {n0 bb : Nat} {X : List Nat} {L : List LetS} {w : World} (h : KBag n0 X w bb L) : bb < w.heap.size := by obtain ⟨v, h1, _⟩ := h; exact h1.lt

set_option maxRecDepth 100000 in
set_option maxHeartbeats 800000 in
theorem bnew_any (w : World) :
    Calls Try.prog 5 #[] w fun e w' => e = .returned (.pointer (some ⟨w.heap.size, 0, none⟩)) ∧ w'.heap[w.heap.size]? = some (.cells #[.slice none 0 0] 42 (0, 0)) ∧ w.grownBy w' none := by
  have H := Lib.hid (And.intro (heap_alloc_at w (.cells #[.slice none 0 0] 42) _ rfl) (World.grownBy_alloc w (.cells #[.slice none 0 0] 42) none))
  go_enter Try.func5, Try.ntmps5
  go_wp2_with fail
  go_ret
  exact ⟨rfl, H.out⟩
set_option maxRecDepth 100000 in
set_option maxHeartbeats 800000 in
theorem blen_any (bb : Nat) (a : Option Addr) (n c : Nat) (w : World) (h : w.heap[bb]? = some (.cells #[.slice a n c] 42 (0, 0))) :
    Calls Try.prog 12 #[.pointer (some ⟨bb, 0, none⟩)] w fun e w' => e = .returned (.int .i64 n) ∧ w = w' := by
  have c0 : w.cell? ⟨bb, 0, none⟩ = some (.slice a n c) := by rw [cell_of h]; rfl
  clear h
  go_enter Try.func12, Try.ntmps12
  go_wp2_with fail
  go_ret
  exact ⟨rfl, rfl⟩
theorem blen_k {n0 bb : Nat} {X : List Nat} {L : List LetS} {w : World} (h : KBag n0 X w bb L) :
    Calls Try.prog 12 #[.pointer (some ⟨bb, 0, none⟩)] w fun e w' => e = .returned (.int .i64 L.length) ∧ w = w' := by
  obtain ⟨v, h1, _⟩ := h
  obtain ⟨a, c, rfl⟩ := h1.form
  exact blen_any bb a L.length c w h1.h
set_option maxRecDepth 100000 in
set_option maxHeartbeats 800000 in
theorem bmodulo_any (i : Int) (n : Nat) (hn : 0 < n) (hn2 : n ≤ 1000000) (w : World) :
    Calls Try.prog 13 #[.int .i64 i, .int .i64 n] w fun e w' => e = .returned (.int .i64 (placeI i n)) ∧ w = w' := by
  have hb := tmod_bounds i n hn
  have h1 := tmod_place i n hn
  have h2 := placeI_lt i n hn
  have q0 : ((n : Int) == 0) = false := beq_eq_false_iff_ne.2 (by omega)
  have r0 : IntKind.i64.wrap (Int.tmod i n) = Int.tmod i n := IntWalk.i64_in _ (by omega)
  have r1 : IntKind.i64.wrap (Int.tmod i n + n) = Int.tmod i n + n := IntWalk.i64_in _ (by omega)
  have r2 : IntKind.i64.wrap ((placeI i n : Nat) : Int) = ((placeI i n : Nat) : Int) := IntWalk.i64_in _ (by omega)
  go_enter Try.func13, Try.ntmps13
  go_wp2_with fail
  go_ret
  refine ⟨?_, rfl⟩
  first | rfl | (rw [h1]) | simp only [r0, r1, h1, r2]
set_option maxRecDepth 100000 in
set_option maxHeartbeats 800000 in
theorem refPlace27_any (i : Int) (n : Nat) (hn : 0 < n) (hn2 : n ≤ 1000000) (w : World) :
    Calls Try.prog 7 #[.int .i64 i, .int .i64 n] w fun e w' => e = .returned (.int .i64 (placeI i n)) ∧ w = w' := by
  have hb := tmod_bounds i n hn
  have h1 := place_ref i n hn
  have h2 := placeI_lt i n hn
  have q0 : ((n : Int) == 0) = false := beq_eq_false_iff_ne.2 (by omega)
  have r0 : IntKind.i64.wrap (Int.tmod i n) = Int.tmod i n := IntWalk.i64_in _ (by omega)
  have r1 : IntKind.i64.wrap (Int.tmod i n + n) = Int.tmod i n + n := IntWalk.i64_in _ (by omega)
  by_cases hlt : Int.tmod i n < 0
  · rw [if_pos hlt] at h1
    go_enter Try.func7, Try.ntmps7
    go_wp2_with fail
    go_ret
    exact ⟨by first | rfl | rw [h1], rfl⟩
  · rw [if_neg hlt] at h1
    go_enter Try.func7, Try.ntmps7
    go_wp2_with fail
    go_ret
    exact ⟨by first | rfl | rw [h1], rfl⟩
theorem cells4B {w : World} {b : Nat} {t : TypeId} {v0 v1 v2 v3 : Value} (h : w.heap[b]? = some (.cells #[v0, v1, v2, v3] t (0, 0))) :
    w.cell? ⟨b, 0, none⟩ = some v0 ∧ w.cell? ⟨b, 1, none⟩ = some v1 ∧ w.cell? ⟨b, 2, none⟩ = some v2 ∧ w.cell? ⟨b, 3, none⟩ = some v3 := by
  refine ⟨?_, ?_, ?_, ?_⟩ <;> rw [cell_of h] <;> rfl
set_option maxRecDepth 100000 in
set_option maxHeartbeats 3200000 in
theorem bput_k (x : LetS) (n0 bb : Nat) (X : List Nat) (L : List LetS) (w : World) (hB : KBag n0 X w bb L) (hl : L.length < 256) (hX : ∀ y ∈ X, y < w.heap.size) (hn0 : n0 ≤ w.heap.size) :
    Calls Try.prog 11 #[.pointer (some ⟨bb, 0, none⟩), x.val] w fun e w' => e = .returned (.bool true) ∧ KBag n0 X w' bb (L ++ [x]) ∧ Turn (rest n0 X) w w' := by
  obtain ⟨i0, hti, hz0, hz1, hz2⟩ := info_parts infoLet
  obtain ⟨v, hA, hbX, hvX⟩ := hB
  obtain ⟨a, c, rfl⟩ := hA.form
  obtain ⟨xt, xf, xk, xb⟩ := x
  have hg0 := World.grownBy_alloc w (.cells #[.int .i64 xt, .int .i64 xf, .int .i64 xk, .string xb] 30) none
  have hb0 := heap_alloc_at w (.cells #[.int .i64 xt, .int .i64 xf, .int .i64 xk, .string xb] 30) _ rfl
  obtain ⟨XB, hXB⟩ : ∃ XB, w.heap.size = XB := ⟨_, rfl⟩
  obtain ⟨W0, hW0⟩ : ∃ W0, w.alloc (.cells #[.int .i64 xt, .int .i64 xf, .int .i64 xk, .string xb] 30) = W0 := ⟨_, rfl⟩
  rw [hW0] at hg0 hb0
  rw [hXB] at hb0
  obtain ⟨y0, y1, y2, y3⟩ := cells4B hb0
  have hA0 := hA.go hg0
  have r0 : W0.cell? ⟨bb, 0, none⟩ = some (.slice a L.length c) := by rw [cell_of hA0.h]; rfl
  have q1 : ¬ ((256 : Int) ≤ (L.length : Int)) := by omega
  have ga := World.grownBy_alloc W0 (.cells #[.int .i64 xt, .int .i64 xf, .int .i64 xk, .string xb] 30) none
  have hba := heap_alloc_at W0 (.cells #[.int .i64 xt, .int .i64 xf, .int .i64 xk, .string xb] 30) _ rfl
  have HRA := Lib.hid ((hA0.go ga).go (grownBy_drew (World.grownBy.refl _ none)))
  have HBA := Lib.hid hba
  have HGA := Lib.hid (grownBy_trans hg0 ga)
  have hbs : n0 ≤ (W0.alloc (.cells #[.int .i64 xt, .int .i64 xf, .int .i64 xk, .string xb] 30)).drew.heap.size := by
    have h1 := HRA.out.l
    have h2 := HRA.out.lt
    omega
  have HBS := Lib.hid hbs
  have hl1 : L.length + 1 ≤ maxLen := by unfold maxLen; omega
  have hl2 : (L.length + 1) * 40 ≤ 140737488355328 := by omega
  have HL2 := Lib.hid (And.intro hl1 hl2)
  have r1 : (W0.alloc (.cells #[.int .i64 xt, .int .i64 xf, .int .i64 xk, .string xb] 30)).cell? ⟨bb, 0, none⟩ = some (.slice a L.length c) := ga.cell r0 (by simp)
  have r2 : (W0.alloc (.cells #[.int .i64 xt, .int .i64 xf, .int .i64 xk, .string xb] 30)).drew.cell? ⟨bb, 0, none⟩ = some (.slice a L.length c) := r1
  have r3 : W0.drew.cell? ⟨bb, 0, none⟩ = some (.slice a L.length c) := r0
  obtain ⟨z0, z1, z2, z3⟩ : W0.drew.cell? ⟨XB, 0, none⟩ = some (.int .i64 xt) ∧ W0.drew.cell? ⟨XB, 1, none⟩ = some (.int .i64 xf) ∧ W0.drew.cell? ⟨XB, 2, none⟩ = some (.int .i64 xk) ∧ W0.drew.cell? ⟨XB, 3, none⟩ = some (.string xb) := ⟨y0, y1, y2, y3⟩
  have HW := Lib.hid (And.intro hW0 hXB)
  have HX := Lib.hid (And.intro hX (And.intro hbX (And.intro hvX hn0)))
  have hfr : ∀ j, W0.drew.frozen? ⟨bb, j, none⟩ = false := fun j => free_of hA0.h j
  unfold LetS.val LetS.cells at *
  clear ga hba hbs hl1 hl2 hb0 hg0 hA hA0 hW0 hXB hX hbX hvX hl hn0
  go_enter Try.func11, Try.ntmps11
  go_wp2_with (rw [HW.out.1, HW.out.2])
  go_region_law (refine step_append_lies _ rfl (.tmp 19) (.tmp 21) 26 rfl n0 30 i0 (.agg #[.int .i64 0, .int .i64 0, .int .i64 0, .string ⟨#[]⟩]) 4 40 Try.underlying26 hti hz0 hz1 hz2 rfl (by decide) (.slice a L.length c) L.length (letsV L) rfl HRA.out.o ⟨W0.heap.size, 0, none⟩ 1 1 [.int .i64 xt, .int .i64 xf, .int .i64 xk, .string xb] rfl rfl (World.news_of_block HBA.out) (letsV_onecell [⟨xt, xf, xk, xb⟩]) Nat.zero_lt_one HL2.out.1 HL2.out.2 HBS.out _ rfl ?_; intro g8 c8 w8 ho8 hg8 hor hlt8; have hrb8 := hg8.heap HRA.out.h HRA.out.ne; have r8 := cell_of hrb8 0; have rf8 := free_of hrb8 0)
  all_goals
    have hg9 : w8.grownBy (w8.setCell ⟨bb, 0, none⟩ (.slice (some ⟨g8, 0, none⟩) (L.length + 1 : Nat) c8)) (some bb) := grownBy_setCell (World.grownBy.refl w8 _) 0 _
    have hgr : g8 ≠ bb := by
      rcases hor with q | q
      · exact fun e => HRA.out.ne (q.trans (congrArg some e))
      · have := HRA.out.lt
        omega
    have hh9 : (w8.setCell ⟨bb, 0, none⟩ (.slice (some ⟨g8, 0, none⟩) (L.length + 1 : Nat) c8)).heap[bb]? = some (.cells #[.slice (some ⟨g8, 0, none⟩) (L.length + 1 : Nat) c8] 42 (0, 0)) := (heap_setCell hrb8 0 _).trans rfl
    have HK : Hid (KBag n0 X (w8.setCell ⟨bb, 0, none⟩ (.slice (some ⟨g8, 0, none⟩) (L.length + 1 : Nat) c8)) bb (L ++ [⟨xt, xf, xk, xb⟩])) := Lib.hid ⟨_, ⟨hh9, by
      rw [List.length_append, List.length_singleton, letsV_append, letsV_one]
      exact own_keepB ho8 hg9 (fun y q e => hgr (by have h1 : g8 = y := by simpa [Value.ownBlock] using q
                                                    rw [h1]; exact (Option.some.inj e).symm)), fun q => hgr (by simpa [Value.ownBlock] using q), HRA.out.l⟩, HX.out.2.1, fun y q => by
      have h1 : g8 = y := by simpa [Value.ownBlock] using q
      subst h1
      rcases hor with q | q
      · exact HX.out.2.2.1 _ q
      · intro hq
        have h2 := HX.out.1 _ hq
        have h3 := HGA.out.size
        simp only [World.size_drew] at q
        omega⟩
    have HT : Hid (Turn (rest n0 X) w (w8.setCell ⟨bb, 0, none⟩ (.slice (some ⟨g8, 0, none⟩) (L.length + 1 : Nat) c8))) := Lib.hid (by
      refine ((Turn.of_grown (grownBy_drew HGA.out)).row hg8 (fun i hi e => ?_)).row hg9 (fun i hi e => ?_)
      · have := (HRA.out.o.lt i e).1
        exact ⟨this, HX.out.2.2.1 i e⟩
      · cases e
        exact ⟨HRA.out.l, HX.out.2.1⟩)
    clear hh9 hg9 hgr r8 rf8 hrb8 hg8 ho8 hor hlt8 r0 r1 r2 r3 y0 y1 y2 y3 z0 z1 z2 z3 hfr
    go_wp2_with fail
    go_ret
    exact ⟨rfl, HK.out, HT.out⟩
end Go.Proofs.Ytemgeelgkokpcaa
