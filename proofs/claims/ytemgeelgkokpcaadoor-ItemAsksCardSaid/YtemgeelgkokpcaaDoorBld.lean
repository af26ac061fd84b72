/- The walks of strings.Builder's methods (but WriteByte; names of its own), at a builder at the head of a block of the call's own (the block may hold more behind it). -/
import Derived.Test.YtemgeelgkokpcaaDoorMem
import Derived.WalkSpells
import Derived.WalkLawsBesides
import Derived.OwnWalk
import Derived.Lib.Builder
import Derived.Lib.Strings
import Derived.Lib.OthersKept
import Derived.Lib.UnsafeStr
import Derived.Lib.AppendStr
import Derived.RegionTactic
namespace Go.Proofs.YtemgeelgkokpcaaDoor
open Go.RowKit

/-- a block of this type may have a builder at its head, and so many cells behind it -/
structure Houses (T : TypeId) (n : Nat) : Prop where
  ne : T ≠ 5
  lies : liesAt Tryd.prog Tryd.prog.depth T ((n + 2) / Tryd.prog.cellsOf T) 0 77 1 = true
theorem houses_builder : Houses 77 0 := ⟨by decide, by kernel_rfl⟩

/-- a builder at the head of block b, that holds these cells -/
def BuilderIn (T : TypeId) (rest : List Value) (B b : Nat) (bs : List Value) (w : World) : Prop :=
  B ≤ b ∧ ∃ p v, (p = none ∨ p = some ⟨b, 0, none⟩) ∧ w.heap[b]? = some (.cells (.pointer p :: v :: rest).toArray T (0, 0)) ∧ w.ownsRow B 5 1 v bs.length bs

theorem BuilderIn.lt {T : TypeId} {rest bs : List Value} {B b : Nat} {w : World} (h : BuilderIn T rest B b bs w) : b < w.heap.size := by
  obtain ⟨_, _, _, _, hb, _⟩ := h
  exact (Array.getElem?_eq_some_iff.1 hb).1
theorem own_ne_b {w : World} {B : Nat} {v : Value} {n : Nat} {xs : List Value} {b : Nat} {cs : Array Value} {T : TypeId} {fr : Nat × Nat} (hown : w.ownsRow B 5 1 v n xs) (hb : w.heap[b]? = some (.cells cs T fr)) (hT : T ≠ 5) : v.ownBlock ≠ some b :=
  Lib.ownBlock_ne hown hb hT
theorem own_kind_b {w : World} {B : Nat} {v : Value} {n : Nat} {xs : List Value} (h : w.ownsRow B 5 1 v n xs) : ∀ g, v.ownBlock = some g → ∃ c fz, w.heap[g]? = some (.cells c 5 fz) := by
  intro g hg
  rcases h.2 with ⟨rfl, _⟩ | ⟨g', cap, cur, rfl, _, hgg, _⟩
  · simp [Value.ownBlock] at hg
  · simp [Value.ownBlock] at hg
    subst hg
    exact ⟨cur, _, hgg⟩
theorem own_kept_b {w w' : World} {B : Nat} {v : Value} {n : Nat} {xs : List Value} (h : w.ownsRow B 5 1 v n xs) (hk : ∀ g, v.ownBlock = some g → w'.heap[g]? = w.heap[g]?) : w'.ownsRow B 5 1 v n xs := by
  refine ⟨h.1, ?_⟩
  rcases h.2 with h' | ⟨g, cap, cur, rfl, a, hg, r⟩
  · exact .inl h'
  · exact .inr ⟨g, cap, cur, rfl, a, (hk g rfl).trans hg, r⟩

/-- what one of its calls leaves -/
structure BLeft (T : TypeId) (rest : List Value) (B b : Nat) (bs : List Value) (w w' : World) : Prop where
  at_ : BuilderIn T rest B b bs w'
  below : Below B w w'
  others : Lib.OthersKept 5 (some b) w w'

theorem run_noescape (x : Value) (w : World) : (callFunc 62 #[x]).run Tryd.prog w = .ok (.value x) w := by
  rw [run_callFunc_extern Tryd.func62 (by kernel_rfl) (by kernel_rfl) (by kernel_rfl) (e := Extern.AbiNoEscape.same) (by kernel_rfl), Lib.run_noEscape]
  rfl

set_option maxRecDepth 100000 in
set_option maxHeartbeats 400000 in
theorem copyCheck_in (T : TypeId) (rest : List Value) (hT : Houses T rest.length) (B b : Nat) (bs : List Value) (w : World) (h : BuilderIn T rest B b bs w) :
    Calls Tryd.prog 59 #[.pointer (some ⟨b, 0, none⟩)] w fun e w' => e = .returned (.tuple #[]) ∧ BLeft T rest B b bs w w' := by
  obtain ⟨j, hj, hjs⟩ := Option.map_eq_some_iff.1 (show (Tryd.prog.info? 77).map (·.size) = some 2 by kernel_rfl)
  have h' := h
  obtain ⟨hB, p, v, hp, hb, hown⟩ := h
  have c0 : w.cell? ⟨b, 0, none⟩ = some (.pointer p) := by rw [cell_of hb]; rfl
  have f0 := free_of hb 0
  have hsh : w.shape? b = some (T, rest.length + 2) := by simp [World.shape?, hb]
  rcases hp with rfl | rfl
  · have hg : w.grownBy (w.setCell ⟨b, 0, none⟩ (.pointer (some ⟨b, 0, none⟩))) (some b) := grownBy_setCell (World.grownBy.refl _ _) _ _
    have hL : BLeft T rest B b bs w (w.setCell ⟨b, 0, none⟩ (.pointer (some ⟨b, 0, none⟩))) := by
      refine ⟨⟨hB, _, v, .inr rfl, ?_, ?_⟩, (Below.refl B w).setCell hB _, (Lib.OthersKept.refl _ _ _).setCell (b := b) ⟨b, 0, none⟩ rfl _⟩
      · rw [heap_setCell hb, List.setIfInBounds_toArray]
        rfl
      · exact own_kept_b hown fun g hg => heap_setCell_ne _ _ _ _ (by rintro rfl; exact own_ne_b hown hb hT.ne hg)
    have H := Lib.hid hL
    have e1 := Lib.run_to_unsafe (P := Tryd.prog) w ⟨b, 0, none⟩ Tryd.underlying75 Tryd.underlying129 hj (by rw [hjs]; decide) hsh (Nat.zero_lt_succ _)
    have e2 := run_noescape (.pointer (some ⟨b, 0, none⟩)) w
    have e3 := Lib.run_from_unsafe (P := Tryd.prog) w ⟨b, 0, none⟩ Tryd.underlying129 Tryd.underlying75 hj hsh hT.lies
    clear hb hown h' hg hL hT
    go_enter Tryd.func59, Tryd.ntmps59
    go_wp2_with fail
    go_end0
    exact ⟨rfl, H.out⟩
  · have H := Lib.hid h'
    have e1 := Lib.run_neq_ptr_same (P := Tryd.prog) w ⟨b, 0, none⟩ Tryd.underlying75 hj
    clear hb hown h' hT
    go_enter Tryd.func59, Tryd.ntmps59
    go_wp2_with fail
    go_end0
    exact ⟨rfl, H.out, Below.refl _ _, Lib.OthersKept.refl _ _ _⟩

theorem infoBB : (Tryd.prog.info? 5).map (fun i => (i.zero, i.size, i.bytes)) = some (some (.int .u8 0), 1, 1) := by kernel_rfl

theorem bleft_put {T : TypeId} {rest bs bs' : List Value} (hT : T ≠ 5) {B b : Nat} {w w1 w2 : World} {p : Option Addr} {v v' : Value} (hp : p = none ∨ p = some ⟨b, 0, none⟩) (h1 : Below B w w1) (h2 : Lib.OthersKept 5 (some b) w w1) (hB : B ≤ b)
    (hb : w1.heap[b]? = some (.cells (.pointer p :: v :: rest).toArray T (0, 0))) (hown : w1.ownsRow B 5 1 v bs.length bs) (hown' : w2.ownsRow B 5 1 v' bs'.length bs') (hg : w1.grownBy w2 v.ownBlock) :
    BLeft T rest B b bs' w (w2.setCell ⟨b, 1, none⟩ v') := by
  have hne := own_ne_b hown hb hT
  have hlt := (Array.getElem?_eq_some_iff.1 hb).1
  have hb2 : w2.heap[b]? = some (.cells (.pointer p :: v :: rest).toArray T (0, 0)) := by
    rw [hg.block b hlt (fun e => hne e.symm)]; exact hb
  have hne' := own_ne_b hown' hb2 hT
  refine ⟨⟨hB, p, v', hp, ?_, ?_⟩, ?_, ?_⟩
  · rw [heap_setCell hb2, List.setIfInBounds_toArray]
    rfl
  · exact own_kept_b hown' fun g hg => heap_setCell_ne _ _ _ _ (by rintro rfl; exact hne' hg)
  · exact (h1.grown hg (by omega) (fun k hk => (hown.lt k hk).1)).setCell (p := ⟨b, 1, none⟩) hB _
  · exact (h2.grown hg (own_kind_b hown)).setCell (b := b) ⟨b, 1, none⟩ rfl _

set_option maxRecDepth 100000 in
set_option maxHeartbeats 800000 in
theorem writeString_in (T : TypeId) (rest : List Value) (hT : Houses T rest.length) (B b : Nat) (bs : List Value) (s : ByteArray) (w : World) (h : BuilderIn T rest B b bs w) (hlen : bs.length + s.size ≤ 140737488355328) :
    Calls Tryd.prog 49 #[.pointer (some ⟨b, 0, none⟩), .string s] w fun e w' => e = .returned (.tuple #[.int .i64 s.size, .nilIface]) ∧ BLeft T rest B b (bs ++ Lib.strCells s) w w' := by
  obtain ⟨i0, hi, hz0, hz1, hz2⟩ := info_parts infoBB
  have HN := Lib.hid hT.ne
  go_enter Tryd.func49, Tryd.ntmps49
  go_wp2_with fail
  refine (copyCheck_in T rest hT B b bs _ h).mono ?_
  rintro e w1 ⟨rfl, hL⟩
  obtain ⟨⟨hB, p, v, hp, hb, hown⟩, hb1, ho1⟩ := hL
  have hlt := (Array.getElem?_eq_some_iff.1 hb).1
  have c1 : w1.cell? ⟨b, 1, none⟩ = some v := by rw [cell_of hb]; rfl
  clear hT h
  have HW := Lib.hid (And.intro hB (And.intro hp (And.intro hb1 (And.intro ho1 (And.intro hb hown)))))
  clear hp hb1 ho1
  go_wp2_with (at_builtin; refine Lib.wpList_append_own_string _ rfl _ _ 50 9 rfl B 5 i0 Tryd.underlying50 Tryd.underlying9 hi hz0 hz1 hz2 _ _ _ rfl hown s rfl ?c3 ?c4 ?c5 ?_)
  case c3 => unfold maxLen; omega
  case c4 => omega
  case c5 => omega
  intro v' w2 hown' hg _
  obtain ⟨hB, hp, hb1, ho1, hb, hown⟩ := HW.out
  have hL := bleft_put (bs' := bs ++ Lib.strCells s) HN.out hp hb1 ho1 hB hb hown (by simpa [Lib.strCells_length] using hown') hg
  have hb2 : w2.heap[b]? = some (.cells (.pointer p :: v :: rest).toArray T (0, 0)) := by
    rw [hg.block b hlt (fun e => own_ne_b hown hb HN.out e.symm)]; exact hb
  have d1 : w2.cell? ⟨b, 1, none⟩ = some v := by rw [cell_of hb2]; rfl
  have f1 : w2.frozen? ⟨b, 1, none⟩ = false := free_of hb2 1
  have HL := Lib.hid hL
  obtain ⟨ao, n', cap, rfl⟩ : ∃ ao n' cap, v' = .slice ao n' cap := by
    rcases hown'.2 with ⟨hv, _⟩ | ⟨g, cap, cur, hv, _⟩
    · exact ⟨_, _, _, hv⟩
    · exact ⟨_, _, _, hv⟩
  clear hL hb2 hown' hg hb1 ho1 hb hown hp
  go_wp2_with fail
  go_ret2
  exact ⟨rfl, HL.out⟩

theorem usNone (W : World) (q : Option Addr) : (Builtin.unsafeString_ #[122, 3] 9 #[.pointer q, .int .i64 0]).run Tryd.prog W = .ok (.string .empty) W := Lib.run_unsafeString_none W _ _ _ q

set_option maxRecDepth 100000 in
set_option maxHeartbeats 800000 in
theorem string_in (T : TypeId) (rest : List Value) (B b : Nat) (l : List UInt8) (w : World) (h : BuilderIn T rest B b (Lib.byteCells l) w) :
    Calls Tryd.prog 32 #[.pointer (some ⟨b, 0, none⟩)] w fun e w' => e = .returned (.string ⟨l.toArray⟩) ∧ Below B w w' := by
  have hlt := h.lt
  obtain ⟨hB, p, v, -, hb, hown⟩ := h
  have cv : ∀ W : World, W.heap[b]? = some (.cells (.pointer p :: v :: rest).toArray T (0, 0)) → W.cell? ⟨b, 1, none⟩ = some v := fun W hW => by rw [cell_of hW]; rfl
  have cd : w.drew.cell? ⟨b, 1, none⟩ = some v := cv _ hb
  have c0 : w.cell? ⟨b, 1, none⟩ = some v := cv _ hb
  rw [Lib.byteCells_length] at hown
  rcases hown.2 with ⟨rfl, hn0⟩ | ⟨g, cap, cur, rfl, hbg, hg, hnc, hcm, hcs, htake⟩
  · obtain rfl := List.eq_nil_of_length_eq_zero hn0
    have hUS := usNone
    have hSD : (Builtin.unsafeSliceData_ #[50] 122 #[.slice none 0 0]).run Tryd.prog w.drew = .ok (.pointer none) w.drew := rfl
    clear hown hb cv
    go_enter Tryd.func32, Tryd.ntmps32
    go_wp2_with fail
    go_region
    all_goals (go_wp2_with fail; go_ret; exact ⟨rfl, Below.drew (Below.refl B w)⟩)
  · by_cases hl0 : l = []
    · subst hl0
      by_cases hc0 : cap = 0
      · subst hc0
        have hUS := usNone
        have hSD : (Builtin.unsafeSliceData_ #[50] 122 #[.slice (some ⟨g, 0, none⟩) 0 0]).run Tryd.prog w.drew = .ok (.pointer (some ⟨w.drew.heap.size, 0, none⟩)) (w.drew.alloc (.view ⟨g, 0, none⟩ 5)) :=
          Lib.run_unsafeSliceData_zero w.drew _ _ 5 Tryd.underlying122 ⟨g, 0, none⟩ 0 (5, cur.size) (by have hg' : w.drew.heap[g]? = some (.cells cur 5 (0, 0)) := hg; simp [World.shape?, hg'])
        have c2 : (w.drew.alloc (.view ⟨g, 0, none⟩ 5)).cell? ⟨b, 1, none⟩ = some (.slice (some ⟨g, 0, none⟩) 0 0) := cv _ ((Lib.alloc_old w.drew _ b hlt).trans hb)
        have c3 : (w.alloc (.view ⟨g, 0, none⟩ 5)).drew.cell? ⟨b, 1, none⟩ = some (.slice (some ⟨g, 0, none⟩) 0 0) := c2
        have hBw : B ≤ w.heap.size := by omega
        clear hown hb cv hnc
        simp only [List.length_nil] at cd c0
        go_enter Tryd.func32, Tryd.ntmps32
        go_wp2_with fail
        go_region
        all_goals (go_wp2_with fail; go_ret; exact ⟨rfl, (Below.drew (Below.refl B w)).alloc hBw _⟩)
      · have hUS := usNone
        have hSD : (Builtin.unsafeSliceData_ #[50] 122 #[.slice (some ⟨g, 0, none⟩) 0 cap]).run Tryd.prog w.drew = .ok (.pointer (some ⟨g, 0, none⟩)) w.drew :=
          Lib.run_unsafeSliceData_row _ _ _ _ _ _ hc0
        clear hown hb cv hnc hc0
        simp only [List.length_nil] at cd c0
        go_enter Tryd.func32, Tryd.ntmps32
        go_wp2_with fail
        go_region
        all_goals (go_wp2_with fail; go_ret; exact ⟨rfl, Below.drew (Below.refl B w)⟩)
    · have hl0' : l.length ≠ 0 := by simpa using hl0
      have hSD : (Builtin.unsafeSliceData_ #[50] 122 #[.slice (some ⟨g, 0, none⟩) l.length cap]).run Tryd.prog w.drew = .ok (.pointer (some ⟨g, 0, none⟩)) w.drew :=
        Lib.run_unsafeSliceData_row _ _ _ _ _ _ (by omega)
      have hUS : (Builtin.unsafeString_ #[122, 3] 9 #[.pointer (some ⟨g, 0, none⟩), .int .i64 l.length]).run Tryd.prog w.drew = .ok (.string ⟨l.toArray⟩) (w.drew.freeze ⟨g, 0, none⟩ l.length) := by
        refine Lib.run_unsafeString_row w.drew 122 3 9 5 Tryd.underlying122 (by kernel_rfl) g cur.size (by have hg' : w.drew.heap[g]? = some (.cells cur 5 (0, 0)) := hg; simp [World.shape?, hg']) l hl0 (by omega) (by unfold maxLen at hcm; omega) ?_
        intro j x hx
        have := hown.cells (g := g) rfl j (.int .u8 x.toNat) (by simp [Lib.byteCells, hx])
        exact this
      clear hown hb cv hl0 hl0' hnc hg htake
      go_enter Tryd.func32, Tryd.ntmps32
      go_wp2_with fail
      go_region
      all_goals (go_wp2_with fail; go_ret; exact ⟨rfl, Lib.below_freeze (Below.drew (Below.refl B w)) (p := ⟨g, 0, none⟩) hbg _⟩)

theorem builder_fresh (w : World) : BuilderIn 77 [] w.heap.size w.heap.size [] (w.alloc (.cells #[.pointer none, .slice none 0 0] 77)) :=
  ⟨Nat.le_refl _, none, .slice none 0 0, .inl rfl, heap_alloc_at _ _ _ rfl, rfl, .inl ⟨rfl, rfl⟩⟩
end Go.Proofs.YtemgeelgkokpcaaDoor
