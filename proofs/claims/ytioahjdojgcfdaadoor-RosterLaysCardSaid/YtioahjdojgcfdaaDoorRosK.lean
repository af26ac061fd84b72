/- RosterLays: a roster and a tree; an Add that is fine. No walk. -/
import Derived.Test.YtioahjdojgcfdaaDoorRosterLaysB9
namespace Go.Proofs.YtioahjdojgcfdaaDoor
open Go.RowKit
attribute [local irreducible] shaL

def ownR (v : Value) : List Nat := v.ownBlock.toList
theorem ownR_mem {v : Value} {x : Nat} : x ∈ ownR v ↔ v.ownBlock = some x := by unfold ownR; simp
/-- a roster and a tree, nothing else turns -/
structure RL (w : World) (rb tb : Nat) (L : List AudS) (v : Value) (wr : World) : Prop where
  gr : w.grownBy wr none
  ros : RosAt w.heap.size rb L v wr
  tree : TreeK w.heap.size (rb :: ownR v) wr tb []
theorem RL.go {w : World} {rb tb : Nat} {L : List AudS} {v : Value} {wr wr' : World} (h : RL w rb tb L v wr) (g : wr.grownBy wr' none) : RL w rb tb L v wr' :=
  ⟨grownBy_trans h.gr g, h.ros.go g, h.tree.grown g⟩
theorem RL.lt {w : World} {rb tb : Nat} {L : List AudS} {v : Value} {wr : World} (h : RL w rb tb L v wr) : ∀ x ∈ rb :: ownR v, x < wr.heap.size := by
  intro x hx
  rcases List.mem_cons.1 hx with rfl | hx
  · exact h.ros.lt
  · exact (h.ros.o.lt x (ownR_mem.1 hx)).2
theorem radd_RL {w : World} {rb tb : Nat} {L : List AudS} {v : Value} {wr : World} (hN : NormAt w) (x : AudS) (hx : x.small) (he : addE L x = 0) (h : RL w rb tb L v wr) :
    Calls Tryd.prog 30 #[.pointer (some ⟨rb, 0, none⟩), x.val] wr fun e w' => e = .returned (.tuple #[.int .i64 L.length, .int .i64 0]) ∧ ∃ v', RL w rb tb (L ++ [x]) v' w' := by
  refine (radd_fine x hx w.heap.size rb L v he wr (hN.grown h.gr) h.ros).mono ?_
  rintro e w' ⟨rfl, v', w1, hR, g1, g2, hv⟩
  refine ⟨rfl, v', grown_row (grown_row h.gr g1 (fun y q => (h.ros.o.lt y q).1)) g2 (fun y q => by cases q; exact h.ros.l), hR, ?_⟩
  have t1 : Turn (fun i => i ∈ rb :: ownR v) wr w' := ((Turn.refl (fun i => i ∈ rb :: ownR v) wr).row g1 (fun i _ q => List.mem_cons_of_mem _ (ownR_mem.2 q))).row g2 (fun i _ q => by cases q; exact List.mem_cons_self ..)
  refine h.tree.turn t1 (fun i _ q => q) (fun i hi => ?_)
  rcases List.mem_cons.1 hi with rfl | hi
  · exact .inl (List.mem_cons_self ..)
  · rcases hv with hv | hv
    · exact .inl (List.mem_cons_of_mem _ (ownR_mem.2 (hv ▸ ownR_mem.1 hi)))
    · exact .inr (hv i (ownR_mem.1 hi))
/-- the copy's own Add: nothing of the caller's turns -/
theorem radd_copy {w wc wd : World} {cb : Nat} {L : List AudS} {v : Value} (hN : NormAt w) (g : w.grownBy wc none) (gd : wc.grownBy wd none) (x : AudS) (hx : x.small) (he : addE L x = 0) (h : RosAt wc.heap.size cb L v wd) :
    Calls Tryd.prog 30 #[.pointer (some ⟨cb, 0, none⟩), x.val] wd fun e w' => e = .returned (.tuple #[.int .i64 L.length, .int .i64 0]) ∧ wc.grownBy w' none ∧ ∃ a k, w'.heap[cb]? = some (.cells #[.slice a (L.length + 1) k] 125 (0, 0)) := by
  refine (radd_fine x hx wc.heap.size cb L v he wd (hN.grown (grownBy_trans g gd)) h).mono ?_
  rintro e w' ⟨rfl, v', w1, hR, g1, g2, hv⟩
  refine ⟨rfl, grown_row (grown_row gd g1 (fun y q => (h.o.lt y q).1)) g2 (fun y q => by cases q; exact h.l), ?_⟩
  obtain ⟨a, k, hf⟩ := hR.form
  refine ⟨a, k, ?_⟩
  have := hR.h
  rw [hf, List.length_append, List.length_singleton] at this
  exact this
end Go.Proofs.YtioahjdojgcfdaaDoor
