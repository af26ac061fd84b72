/- The walks of strings.Builder's methods (but WriteByte; names of its own), at a builder at the head of a block of the call's own (the block may hold more behind it). · The walk of a half's read. · The walk of halfOf. · The walk of logbook.Open. · 'append(s, l...)' of a row that may be nil, at a step of a region that draws its order. No walk of the program. -/
import Derived.Test.YtbhoeiopckmfhaaGreatDoorTopBandsB1
import Derived.WalkSpells
import Derived.WalkLawsBesides
import Derived.OwnWalk
import Derived.Lib.Builder
import Derived.Lib.Strings
import Derived.Lib.OthersKept
import Derived.Lib.UnsafeStr
import Derived.Lib.AppendStr
import Derived.RegionTactic
import Derived.Test.YtbhoeiopckmfhaaGreatDoorTopBandsB5
import Derived.Test.YtbhoeiopckmfhaaGreatDoorTopBandsB2
import Derived.Maps.AppendAt
namespace Go.Proofs.YtbhoeiopckmfhaaGreatDoor
open Go.RowKit

/-- a block of this type may have a builder at its head, and so many cells behind it -/
structure Houses (T : TypeId) (n : Nat) : Prop where
  ne : T ≠ 5
  lies : liesAt Tryz.prog Tryz.prog.depth T ((n + 2) / Tryz.prog.cellsOf T) 0 244 1 = true
theorem houses_builder : Houses 244 0 := ⟨by decide, by kernel_rfl⟩

/-- a builder at the head of block b, that holds these cells -/
def BuilderIn (T : TypeId) (rest : List Value) (B b : Nat) (bs : List Value) (w : World) : Prop :=
  B ≤ b ∧ ∃ p v, (p = none ∨ p = some ⟨b, 0, none⟩) ∧ w.heap[b]? = some (.cells (.pointer p :: v :: rest).toArray T (0, 0)) ∧ w.ownsRow B 5 1 v bs.length bs

theorem BuilderIn.lt {T : TypeId} {rest bs : List Value} {B b : Nat} {w : World} (h : BuilderIn T rest B b bs w) : b < w.heap.size := by
  obtain ⟨_, _, _, _, hb, _⟩ := h
  exact (Array.getElem?_eq_some_iff.1 hb).1
theorem own_ne_b {w : World} {B : Nat} {v : Value} {n : Nat} {xs : List Value} {b : Nat} {cs : Array Value} {T : TypeId} {fr : Nat × Nat} (hown : w.ownsRow B 5 1 v n xs) (hb : w.heap[b]? = some (.cells cs T fr)) (hT : T ≠ 5) : v.ownBlock ≠ some b :=
  Lib.ownBlock_ne hown hb hT
theorem own_kind_b {w : World} {B : Nat} {v : Value} {n : Nat} {xs : List Value} (h : w.ownsRow B 5 1 v n xs) : ∀ g, v.ownBlock = some g → ∃ c fz, w.heap[g]? = some (.cells c 5 fz) := by
  intro g hg
  rcases h.2 with ⟨rfl, _⟩ | ⟨g', cap, cur, rfl, _, hgg, _⟩
  · simp [Value.ownBlock] at hg
  · simp [Value.ownBlock] at hg
    subst hg
    exact ⟨cur, _, hgg⟩
theorem own_kept_b {w w' : World} {B : Nat} {v : Value} {n : Nat} {xs : List Value} (h : w.ownsRow B 5 1 v n xs) (hk : ∀ g, v.ownBlock = some g → w'.heap[g]? = w.heap[g]?) : w'.ownsRow B 5 1 v n xs := by
  refine ⟨h.1, ?_⟩
  rcases h.2 with h' | ⟨g, cap, cur, rfl, a, hg, r⟩
  · exact .inl h'
  · exact .inr ⟨g, cap, cur, rfl, a, (hk g rfl).trans hg, r⟩

/-- what one of its calls leaves -/
structure BLeft (T : TypeId) (rest : List Value) (B b : Nat) (bs : List Value) (w w' : World) : Prop where
  at_ : BuilderIn T rest B b bs w'
  below : Below B w w'
  others : Lib.OthersKept 5 (some b) w w'

theorem run_noescape (x : Value) (w : World) : (callFunc 199 #[x]).run Tryz.prog w = .ok (.value x) w := by
  rw [run_callFunc_extern Tryz.func199 (by kernel_rfl) (by kernel_rfl) (by kernel_rfl) (e := Extern.AbiNoEscape.same) (by kernel_rfl), Lib.run_noEscape]
  rfl

set_option maxRecDepth 100000 in
set_option maxHeartbeats 400000 in
theorem copyCheck_in (T : TypeId) (rest : List Value) (hT : Houses T rest.length) (B b : Nat) (bs : List Value) (w : World) (h : BuilderIn T rest B b bs w) :
    Calls Tryz.prog 183 #[.pointer (some ⟨b, 0, none⟩)] w fun e w' => e = .returned (.tuple #[]) ∧ BLeft T rest B b bs w w' := by
  obtain ⟨j, hj, hjs⟩ := Option.map_eq_some_iff.1 (show (Tryz.prog.info? 244).map (·.size) = some 2 by kernel_rfl)
  have h' := h
  obtain ⟨hB, p, v, hp, hb, hown⟩ := h
  have c0 : w.cell? ⟨b, 0, none⟩ = some (.pointer p) := by rw [cell_of hb]; rfl
  have f0 := free_of hb 0
  have hsh : w.shape? b = some (T, rest.length + 2) := by simp [World.shape?, hb]
  rcases hp with rfl | rfl
  · have hg : w.grownBy (w.setCell ⟨b, 0, none⟩ (.pointer (some ⟨b, 0, none⟩))) (some b) := grownBy_setCell (World.grownBy.refl _ _) _ _
    have hL : BLeft T rest B b bs w (w.setCell ⟨b, 0, none⟩ (.pointer (some ⟨b, 0, none⟩))) := by
      refine ⟨⟨hB, _, v, .inr rfl, ?_, ?_⟩, (Below.refl B w).setCell hB _, (Lib.OthersKept.refl _ _ _).setCell (b := b) ⟨b, 0, none⟩ rfl _⟩
      · rw [heap_setCell hb, List.setIfInBounds_toArray]
        rfl
      · exact own_kept_b hown fun g hg => heap_setCell_ne _ _ _ _ (by rintro rfl; exact own_ne_b hown hb hT.ne hg)
    have H := Lib.hid hL
    have e1 := Lib.run_to_unsafe (P := Tryz.prog) w ⟨b, 0, none⟩ Tryz.underlying242 Tryz.underlying278 hj (by rw [hjs]; decide) hsh (Nat.zero_lt_succ _)
    have e2 := run_noescape (.pointer (some ⟨b, 0, none⟩)) w
    have e3 := Lib.run_from_unsafe (P := Tryz.prog) w ⟨b, 0, none⟩ Tryz.underlying278 Tryz.underlying242 hj hsh hT.lies
    clear hb hown h' hg hL hT
    go_enter Tryz.func183, Tryz.ntmps183
    go_wp2_with fail
    go_end0
    exact ⟨rfl, H.out⟩
  · have H := Lib.hid h'
    have e1 := Lib.run_neq_ptr_same (P := Tryz.prog) w ⟨b, 0, none⟩ Tryz.underlying242 hj
    clear hb hown h' hT
    go_enter Tryz.func183, Tryz.ntmps183
    go_wp2_with fail
    go_end0
    exact ⟨rfl, H.out, Below.refl _ _, Lib.OthersKept.refl _ _ _⟩

theorem infoBB : (Tryz.prog.info? 5).map (fun i => (i.zero, i.size, i.bytes)) = some (some (.int .u8 0), 1, 1) := by kernel_rfl

theorem bleft_put {T : TypeId} {rest bs bs' : List Value} (hT : T ≠ 5) {B b : Nat} {w w1 w2 : World} {p : Option Addr} {v v' : Value} (hp : p = none ∨ p = some ⟨b, 0, none⟩) (h1 : Below B w w1) (h2 : Lib.OthersKept 5 (some b) w w1) (hB : B ≤ b)
    (hb : w1.heap[b]? = some (.cells (.pointer p :: v :: rest).toArray T (0, 0))) (hown : w1.ownsRow B 5 1 v bs.length bs) (hown' : w2.ownsRow B 5 1 v' bs'.length bs') (hg : w1.grownBy w2 v.ownBlock) :
    BLeft T rest B b bs' w (w2.setCell ⟨b, 1, none⟩ v') := by
  have hne := own_ne_b hown hb hT
  have hlt := (Array.getElem?_eq_some_iff.1 hb).1
  have hb2 : w2.heap[b]? = some (.cells (.pointer p :: v :: rest).toArray T (0, 0)) := by
    rw [hg.block b hlt (fun e => hne e.symm)]; exact hb
  have hne' := own_ne_b hown' hb2 hT
  refine ⟨⟨hB, p, v', hp, ?_, ?_⟩, ?_, ?_⟩
  · rw [heap_setCell hb2, List.setIfInBounds_toArray]
    rfl
  · exact own_kept_b hown' fun g hg => heap_setCell_ne _ _ _ _ (by rintro rfl; exact hne' hg)
  · exact (h1.grown hg (by omega) (fun k hk => (hown.lt k hk).1)).setCell (p := ⟨b, 1, none⟩) hB _
  · exact (h2.grown hg (own_kind_b hown)).setCell (b := b) ⟨b, 1, none⟩ rfl _

set_option maxRecDepth 100000 in
set_option maxHeartbeats 800000 in
theorem writeString_in (T : TypeId) (rest : List Value) (hT : Houses T rest.length) (B b : Nat) (bs : List Value) (s : ByteArray) (w : World) (h : BuilderIn T rest B b bs w) (hlen : bs.length + s.size ≤ 140737488355328) :
    Calls Tryz.prog 167 #[.pointer (some ⟨b, 0, none⟩), .string s] w fun e w' => e = .returned (.tuple #[.int .i64 s.size, .nilIface]) ∧ BLeft T rest B b (bs ++ Lib.strCells s) w w' := by
  obtain ⟨i0, hi, hz0, hz1, hz2⟩ := info_parts infoBB
  have HN := Lib.hid hT.ne
  go_enter Tryz.func167, Tryz.ntmps167
  go_wp2_with fail
  refine (copyCheck_in T rest hT B b bs _ h).mono ?_
  rintro e w1 ⟨rfl, hL⟩
  obtain ⟨⟨hB, p, v, hp, hb, hown⟩, hb1, ho1⟩ := hL
  have hlt := (Array.getElem?_eq_some_iff.1 hb).1
  have c1 : w1.cell? ⟨b, 1, none⟩ = some v := by rw [cell_of hb]; rfl
  clear hT h
  have HW := Lib.hid (And.intro hB (And.intro hp (And.intro hb1 (And.intro ho1 (And.intro hb hown)))))
  clear hp hb1 ho1
  go_wp2_with (at_builtin; refine Lib.wpList_append_own_string _ rfl _ _ 23 9 rfl B 5 i0 Tryz.underlying23 Tryz.underlying9 hi hz0 hz1 hz2 _ _ _ rfl hown s rfl ?c3 ?c4 ?c5 ?_)
  case c3 => unfold maxLen; omega
  case c4 => omega
  case c5 => omega
  intro v' w2 hown' hg _
  obtain ⟨hB, hp, hb1, ho1, hb, hown⟩ := HW.out
  have hL := bleft_put (bs' := bs ++ Lib.strCells s) HN.out hp hb1 ho1 hB hb hown (by simpa [Lib.strCells_length] using hown') hg
  have hb2 : w2.heap[b]? = some (.cells (.pointer p :: v :: rest).toArray T (0, 0)) := by
    rw [hg.block b hlt (fun e => own_ne_b hown hb HN.out e.symm)]; exact hb
  have d1 : w2.cell? ⟨b, 1, none⟩ = some v := by rw [cell_of hb2]; rfl
  have f1 : w2.frozen? ⟨b, 1, none⟩ = false := free_of hb2 1
  have HL := Lib.hid hL
  obtain ⟨ao, n', cap, rfl⟩ : ∃ ao n' cap, v' = .slice ao n' cap := by
    rcases hown'.2 with ⟨hv, _⟩ | ⟨g, cap, cur, hv, _⟩
    · exact ⟨_, _, _, hv⟩
    · exact ⟨_, _, _, hv⟩
  clear hL hb2 hown' hg hb1 ho1 hb hown hp
  go_wp2_with fail
  go_ret2
  exact ⟨rfl, HL.out⟩

theorem usNone (W : World) (q : Option Addr) : (Builtin.unsafeString_ #[264, 3] 9 #[.pointer q, .int .i64 0]).run Tryz.prog W = .ok (.string .empty) W := Lib.run_unsafeString_none W _ _ _ q

set_option maxRecDepth 100000 in
set_option maxHeartbeats 800000 in
theorem string_in (T : TypeId) (rest : List Value) (B b : Nat) (l : List UInt8) (w : World) (h : BuilderIn T rest B b (Lib.byteCells l) w) :
    Calls Tryz.prog 168 #[.pointer (some ⟨b, 0, none⟩)] w fun e w' => e = .returned (.string ⟨l.toArray⟩) ∧ Below B w w' := by
  have hlt := h.lt
  obtain ⟨hB, p, v, -, hb, hown⟩ := h
  have cv : ∀ W : World, W.heap[b]? = some (.cells (.pointer p :: v :: rest).toArray T (0, 0)) → W.cell? ⟨b, 1, none⟩ = some v := fun W hW => by rw [cell_of hW]; rfl
  have cd : w.drew.cell? ⟨b, 1, none⟩ = some v := cv _ hb
  have c0 : w.cell? ⟨b, 1, none⟩ = some v := cv _ hb
  rw [Lib.byteCells_length] at hown
  rcases hown.2 with ⟨rfl, hn0⟩ | ⟨g, cap, cur, rfl, hbg, hg, hnc, hcm, hcs, htake⟩
  · obtain rfl := List.eq_nil_of_length_eq_zero hn0
    have hUS := usNone
    have hSD : (Builtin.unsafeSliceData_ #[23] 264 #[.slice none 0 0]).run Tryz.prog w.drew = .ok (.pointer none) w.drew := rfl
    clear hown hb cv
    go_enter Tryz.func168, Tryz.ntmps168
    go_wp2_with fail
    go_region
    all_goals (go_wp2_with fail; go_ret; exact ⟨rfl, Below.drew (Below.refl B w)⟩)
  · by_cases hl0 : l = []
    · subst hl0
      by_cases hc0 : cap = 0
      · subst hc0
        have hUS := usNone
        have hSD : (Builtin.unsafeSliceData_ #[23] 264 #[.slice (some ⟨g, 0, none⟩) 0 0]).run Tryz.prog w.drew = .ok (.pointer (some ⟨w.drew.heap.size, 0, none⟩)) (w.drew.alloc (.view ⟨g, 0, none⟩ 5)) :=
          Lib.run_unsafeSliceData_zero w.drew _ _ 5 Tryz.underlying264 ⟨g, 0, none⟩ 0 (5, cur.size) (by have hg' : w.drew.heap[g]? = some (.cells cur 5 (0, 0)) := hg; simp [World.shape?, hg'])
        have c2 : (w.drew.alloc (.view ⟨g, 0, none⟩ 5)).cell? ⟨b, 1, none⟩ = some (.slice (some ⟨g, 0, none⟩) 0 0) := cv _ ((Lib.alloc_old w.drew _ b hlt).trans hb)
        have c3 : (w.alloc (.view ⟨g, 0, none⟩ 5)).drew.cell? ⟨b, 1, none⟩ = some (.slice (some ⟨g, 0, none⟩) 0 0) := c2
        have hBw : B ≤ w.heap.size := by omega
        clear hown hb cv hnc
        simp only [List.length_nil] at cd c0
        go_enter Tryz.func168, Tryz.ntmps168
        go_wp2_with fail
        go_region
        all_goals (go_wp2_with fail; go_ret; exact ⟨rfl, (Below.drew (Below.refl B w)).alloc hBw _⟩)
      · have hUS := usNone
        have hSD : (Builtin.unsafeSliceData_ #[23] 264 #[.slice (some ⟨g, 0, none⟩) 0 cap]).run Tryz.prog w.drew = .ok (.pointer (some ⟨g, 0, none⟩)) w.drew :=
          Lib.run_unsafeSliceData_row _ _ _ _ _ _ hc0
        clear hown hb cv hnc hc0
        simp only [List.length_nil] at cd c0
        go_enter Tryz.func168, Tryz.ntmps168
        go_wp2_with fail
        go_region
        all_goals (go_wp2_with fail; go_ret; exact ⟨rfl, Below.drew (Below.refl B w)⟩)
    · have hl0' : l.length ≠ 0 := by simpa using hl0
      have hSD : (Builtin.unsafeSliceData_ #[23] 264 #[.slice (some ⟨g, 0, none⟩) l.length cap]).run Tryz.prog w.drew = .ok (.pointer (some ⟨g, 0, none⟩)) w.drew :=
        Lib.run_unsafeSliceData_row _ _ _ _ _ _ (by omega)
      have hUS : (Builtin.unsafeString_ #[264, 3] 9 #[.pointer (some ⟨g, 0, none⟩), .int .i64 l.length]).run Tryz.prog w.drew = .ok (.string ⟨l.toArray⟩) (w.drew.freeze ⟨g, 0, none⟩ l.length) := by
        refine Lib.run_unsafeString_row w.drew 264 3 9 5 Tryz.underlying264 (by kernel_rfl) g cur.size (by have hg' : w.drew.heap[g]? = some (.cells cur 5 (0, 0)) := hg; simp [World.shape?, hg']) l hl0 (by omega) (by unfold maxLen at hcm; omega) ?_
        intro j x hx
        have := hown.cells (g := g) rfl j (.int .u8 x.toNat) (by simp [Lib.byteCells, hx])
        exact this
      clear hown hb cv hl0 hl0' hnc hg htake
      go_enter Tryz.func168, Tryz.ntmps168
      go_wp2_with fail
      go_region
      all_goals (go_wp2_with fail; go_ret; exact ⟨rfl, Lib.below_freeze (Below.drew (Below.refl B w)) (p := ⟨g, 0, none⟩) hbg _⟩)

theorem builder_fresh (w : World) : BuilderIn 244 [] w.heap.size w.heap.size [] (w.alloc (.cells #[.pointer none, .slice none 0 0] 244)) :=
  ⟨Nat.le_refl _, none, .slice none 0 0, .inl rfl, heap_alloc_at _ _ _ rfl, rfl, .inl ⟨rfl, rfl⟩⟩
end Go.Proofs.YtbhoeiopckmfhaaGreatDoor

namespace Go.Proofs.YtbhoeiopckmfhaaGreatDoor
open Go.RowKit
attribute [local irreducible] shaL

set_option maxHeartbeats 400000 in
/-- slices.Equal of two lists of texts -/
theorem equal_any (w : World) (v1 v2 : Value) (L1 L2 : List ByteArray) (h1 : StrsAt w v1 L1) (h2 : StrsAt w v2 L2) (hn : L1.length ≤ 1000000) (hm : L2.length ≤ 1000000) :
    Calls Tryz.prog 169 #[v1, v2] w fun e w' => e = .returned (.bool (decide (L1 = L2))) ∧ w.grownBy w' none := by
  obtain ⟨a1, c1, rfl⟩ := h1.form
  obtain ⟨a2, c2, rfl⟩ := h2.form
  by_cases hl : L1.length = L2.length
  · cases L1 with
    | nil =>
      have : L2 = [] := List.eq_nil_of_length_eq_zero hl.symm
      subst this
      refine (Tryz.slices_Equal_string_empty a1 a2 c1 0 c2 w (by decide)).mono ?_
      rintro e w' ⟨rfl, rfl⟩
      exact ⟨rfl, World.grownBy.refl _ _⟩
    | cons x r =>
      obtain ⟨y, s, rfl⟩ : ∃ y s, L2 = y :: s := by
        cases L2 with
        | nil => simp at hl
        | cons y s => exact ⟨y, s, rfl⟩
      obtain ⟨g1, o1, rfl, _⟩ := h1.at_ 0 x rfl
      obtain ⟨g2, o2, rfl, _⟩ := h2.at_ 0 y rfl
      refine (Tryz.slices_Equal_string g1 o1 _ c1 g2 o2 _ c2 (x :: r) (y :: s) w (Nat.le_refl _) (Nat.le_refl _) (by omega) (by omega) (fun j hj => ?_) (fun j hj => ?_)).mono ?_
      · obtain ⟨g', o', he, hc⟩ := h1.at_ j _ (List.getElem?_eq_getElem hj)
        cases he
        rw [hc, List.getD_eq_getElem?_getD, List.getElem?_eq_getElem hj]; rfl
      · obtain ⟨g', o', he, hc⟩ := h2.at_ j _ (List.getElem?_eq_getElem hj)
        cases he
        rw [hc, List.getD_eq_getElem?_getD, List.getElem?_eq_getElem hj]; rfl
      · rintro e w' ⟨rfl, q, rfl⟩
        rw [List.take_of_length_le (Nat.le_refl _), List.take_of_length_le (Nat.le_refl _)]
        exact ⟨rfl, grownBy_drewN (World.grownBy.refl _ _) q⟩
  · refine (Tryz.slices_Equal_string_lens a1 a2 L1.length c1 L2.length c2 w hl).mono ?_
    rintro e w' ⟨rfl, rfl⟩
    have : decide (L1 = L2) = false := decide_eq_false (fun h => hl (by rw [h]))
    rw [this]
    exact ⟨rfl, World.grownBy.refl _ _⟩
theorem byteCells_str (s : ByteArray) : Lib.strCells s = Lib.byteCells s.data.toList := rfl
theorem strsAt_take {w : World} {g o n cap : Nat} {L : List ByteArray} (h : StrsAt w (.slice (some ⟨g, o, none⟩) n cap) L) (k : Nat) (hk : k ≤ L.length) : StrsAt w (.slice (some ⟨g, o, none⟩) k cap) (L.take k) := by
  refine ⟨some ⟨g, o, none⟩, cap, by rw [List.length_take, Nat.min_eq_left hk], fun i hi => ?_⟩
  rw [List.length_take] at hi
  obtain ⟨g', o', he, hc⟩ := h.at_ i _ (List.getElem?_eq_getElem (by omega))
  cases he
  exact ⟨g, o, rfl, by rw [hc, List.getElem_take]⟩
theorem gather_le (secs : List ByteArray) : ∀ k, (∀ y ∈ secs.take k, y.size = 64 ∧ byteAt y 8 ≤ 39) → (gatherL (secs.take k)).length ≤ 39 * k
  | 0, _ => by simp [gatherL]
  | k + 1, h => by
    rcases Nat.lt_or_ge k secs.length with hk | hk
    · have e : secs.take (k + 1) = secs.take k ++ [secs[k]] := by rw [List.take_add_one, List.getElem?_eq_getElem hk]; rfl
      rw [e] at h ⊢
      rw [gatherL_snoc, List.length_append]
      have h1 := gather_le secs k (fun y hy => h y (List.mem_append.2 (.inl hy)))
      have h2 := h secs[k] (List.mem_append.2 (.inr (List.mem_singleton.2 rfl)))
      have h3 := partOf_size secs[k] h2.1 h2.2
      have h4 : (partOf secs[k]).data.toList.length = (partOf secs[k]).size := rfl
      omega
    · rw [List.take_of_length_le (by omega)] at h ⊢
      have h1 := gather_le secs k (by rw [List.take_of_length_le hk]; exact h)
      rw [List.take_of_length_le hk] at h1
      omega
def optV (r : Option ByteArray) : Array Value := #[.string (r.getD ⟨#[]⟩), .bool r.isSome]

set_option maxRecDepth 100000 in
set_option maxHeartbeats 6400000 in
theorem hread_any (turn num : Nat) (ht : turn ≤ 4294967295) (hn : num ≤ 65535) (ra : Option Addr) (rc : Nat) (u : Value) (w : World) (v : Value) (secs : List ByteArray) (hv : StrsAt w v secs) (h0 : 0 < secs.length) (hl : secs.length ≤ 1024) (h64 : ∀ x ∈ secs, x.size = 64) (hcap : ∀ a n c, v = .slice a n c → n ≤ c ∧ c ≤ maxLen) (hr : ShaReady w) :
    Calls Tryz.prog 130 #[.agg #[.int .u32 turn, .slice ra num rc, u], v] w fun e w' => e = .returned (.tuple (optV (readS turn num secs))) ∧ w.grownBy w' none := by
  obtain ⟨va, vc, rfl⟩ := hv.form
  obtain ⟨hcap1, hcap2⟩ := hcap _ _ _ rfl
  unfold maxLen at hcap2
  obtain ⟨s0, rest0, hs0⟩ : ∃ s0 rest0, secs = s0 :: rest0 := by
    cases secs with
    | nil => simp at h0
    | cons a b => exact ⟨a, b, rfl⟩
  obtain ⟨vg, vo, rfl, hc0⟩ := hv.at_ 0 s0 (by rw [hs0]; rfl)
  rw [Nat.add_zero] at hc0
  have hvg : vg < w.heap.size := cell_lt hc0
  have hhd : secs.headD ⟨#[]⟩ = s0 := by rw [hs0]; rfl
  have hz0 : s0.size = 64 := h64 s0 (by rw [hs0]; simp)
  have HRS : Hid (readS turn num secs = if secs.length < byteAt s0 7 then none
      else if (secs.take (byteAt s0 7)).any (fun x => decide (39 < byteAt x 8)) then none
      else if 900 < (gatherL (secs.take (byteAt s0 7))).length then none
      else if nextS turn num (str (gatherL (secs.take (byteAt s0 7)))) = secs.take (byteAt s0 7) then some (str (gatherL (secs.take (byteAt s0 7)))) else none) := by show _ = _; rw [← hhd]; rfl
  have hb7 := byteAt_in s0 7 (by omega)
  have hb7l := byteAt_lt s0 7
  obtain ⟨P, hP⟩ : ∃ P, byteAt s0 7 = P := ⟨_, rfl⟩
  rw [hP] at HRS hb7 hb7l
  obtain ⟨N, hN⟩ : ∃ N, secs.length = N := ⟨_, rfl⟩
  rw [hN] at HRS hl h0 hv hcap1 ⊢
  have i7 : (7 : Int) < (s0.size : Int) := by omega
  have i7b : (s0[7]'(by omega)).toNat = P := hb7.symm
  have hpos : (0 : Int) < (N : Int) := by omega
  have HV := Lib.hid hv
  have H64 := Lib.hid h64
  have HN := Lib.hid hN
  have HR := Lib.hid hr
  have HT := Lib.hid (And.intro ht hn)
  have HS0 := Lib.hid (And.intro hs0 hP)
  have hPi : (P : Int) < 256 := by omega
  have hNi : (N : Int) ≤ 1024 := by omega
  clear hv h64 hhd hb7 hP hN hr hs0 ht hn hcap
  go_enter Tryz.func130, Tryz.ntmps130
  obtain ⟨w1, hW1⟩ : ∃ w1, w.alloc (.cells #[.int .u32 turn, .slice ra num rc, u] 163) = w1 := ⟨_, rfl⟩
  have hh1 : w1.heap[w.heap.size]? = some (.cells #[.int .u32 turn, .slice ra num rc, u] 163 (0, 0)) := by rw [← hW1]; exact heap_alloc_at _ _ _ rfl
  have hg1 : w.grownBy w1 none := by rw [← hW1]; exact World.grownBy_alloc _ _ _
  have c0 : w1.cell? ⟨vg, vo, none⟩ = some (.string s0) := hg1.cell hc0 (by simp)
  by_cases hlt : N < P
  · have e1 : (N : Int) < (P : Int) := by omega
    have hrs := HRS.out
    rw [if_pos hlt] at hrs
    have HX := Lib.hid hrs
    clear hrs hlt
    go_wp2_with fail
    go_returns
    exact ⟨by rw [HX.out]; rfl, hg1⟩
  · have e1 : ¬ (N : Int) < (P : Int) := by omega
    have hrs := HRS.out
    rw [if_neg hlt] at hrs
    have HX := Lib.hid hrs
    have hPN : P ≤ N := by omega
    have hPc : (P : Int) ≤ (vc : Int) := by omega
    have hPp : (0 : Int) ≤ (P : Int) := by omega
    have hcc : (vc : Int) ≤ 9223372036854775807 := by omega
    clear hrs hlt HRS
    go_wp2_with fail
    have hB0 := builder_fresh w1
    have hgB : w1.grownBy (w1.alloc (.cells #[.pointer none, .slice none 0 0] 244)) none := World.grownBy_alloc _ _ _
    obtain ⟨bb, hbb⟩ : ∃ bb, w1.heap.size = bb := ⟨_, rfl⟩
    rw [hbb] at hB0 ⊢
    obtain ⟨w2, hW2⟩ : ∃ w2, w1.alloc (.cells #[.pointer none, .slice none 0 0] 244) = w2 := ⟨_, rfl⟩
    rw [hW2] at hB0 hgB ⊢
    have hwb : w.heap.size < bb := by rw [← hbb]; exact (Array.getElem?_eq_some_iff.1 hh1).1
    have HB2 : Hid (BuilderIn 244 [] bb bb (Lib.byteCells (gatherL (secs.take 0))) w2) := hB0
    have HH2 := Lib.hid (hgB.heap hh1 (by simp))
    have HW2 := Lib.hid (below_grownBy (grownBy_trans hg1 hgB))
    have HPN := Lib.hid (And.intro hPN hwb)
    clear hB0 hgB hbb hW2 hW1 hg1 hh1 c0 hPN hwb
    go_loopw [25] (fun iv wr => ∃ k : Nat, k ≤ P ∧ iv = .int .i64 k ∧ Hid (∀ x ∈ secs.take k, byteAt x 8 ≤ 39) ∧ Hid (BuilderIn 244 [] bb bb (Lib.byteCells (gatherL (secs.take k))) wr) ∧ Hid (wr.heap[w.heap.size]? = some (.cells #[.int .u32 turn, .slice ra num rc, u] 163 (0, 0))) ∧ Hid (Below w.heap.size w wr)) (fun iv _ => P - (intOf iv).toNat)
    case atStart => exact ⟨0, Nat.zero_le _, rfl, by intro x hx; simp at hx, HB2.out, HH2.out, HW2.out⟩
    case round =>
      clear HB2 HH2 HW2
      obtain ⟨k, hk, rfl, HOK, HBD, HHB, HBW⟩ := hrel
      by_cases hkP : k < P
      · have d1 : (k : Int) < (P : Int) := by omega
        have d0 : (0 : Int) ≤ (k : Int) := by omega
        have hkN : k < secs.length := by rw [HN.out]; have := HPN.out.1; omega
        obtain ⟨x, hx⟩ : ∃ x, secs[k]? = some x := ⟨_, List.getElem?_eq_getElem hkN⟩
        obtain ⟨vg', vo', he, hcx⟩ := HV.out.at_ k x hx
        cases he
        have cx : wr.cell? ⟨vg, vo + k, none⟩ = some (.string x) := (HBW.out.cell (p := ⟨vg, vo + k, none⟩) hvg).trans hcx
        have hxz := H64.out x (List.mem_of_getElem? hx)
        have hb8 := byteAt_in x 8 (by omega)
        have i8 : (8 : Int) < (x.size : Int) := by omega
        have htk : secs.take (k + 1) = secs.take k ++ [x] := by rw [List.take_add_one, hx]; rfl
        have hl8 := byteAt_lt x 8
        have hpo : partOf x = x.extract 17 (17 + byteAt x 8) := rfl
        have hpz : byteAt x 8 ≤ 39 → (partOf x).size = byteAt x 8 := partOf_size x hxz
        have hmem : x ∈ secs.take P := by
          rw [List.mem_iff_getElem?]
          exact ⟨k, by rw [List.getElem?_take, if_pos hkP]; exact hx⟩
        obtain ⟨z, hz⟩ : ∃ z, byteAt x 8 = z := ⟨_, rfl⟩
        have HZ := Lib.hid hz
        rw [hz] at hb8 hl8 hpo hpz
        have i8b : (x[8]'(by omega)).toNat = z := hb8.symm
        have hzi : (z : Int) < 256 := by omega
        clear hcx hb8 hz
        by_cases h39 : 39 < z
        · have e39 : (39 : Int) < (z : Int) := by omega
          have hrs := HX.out
          rw [if_pos (by
            rw [List.any_eq_true]
            exact ⟨x, hmem, by rw [HZ.out]; simpa using h39⟩)] at hrs
          have HY := Lib.hid hrs
          clear hrs hmem htk hpo hpz
          go_wp2_with fail
          go_returns
          exact ⟨by rw [HY.out]; rfl, grownBy_below HBW.out⟩
        · have e39 : ¬ (39 : Int) < (z : Int) := by omega
          have e1 : (17 : Int) + (z : Int) = ((17 + z : Nat) : Int) := by omega
          have e2 := wrap_i64_nat (17 + z) (by omega)
          have e3 : ((17 + z : Nat) : Int) ≤ (x.size : Int) := by omega
          have e4 : (17 : Int) ≤ ((17 + z : Nat) : Int) := by omega
          have hgl : (gatherL (secs.take k)).length ≤ 39 * k := gather_le secs k (fun y hy => ⟨H64.out y (List.mem_of_mem_take hy), HOK.out y hy⟩)
          have HWS := Lib.hid (writeString_in 244 [] houses_builder bb bb _ (partOf x) wr HBD.out (by
            rw [hpz (by omega)]
            have : (Lib.byteCells (gatherL (secs.take k))).length = (gatherL (secs.take k)).length := by simp [Lib.byteCells]
            omega))
          rw [hpo] at HWS
          have HTK := Lib.hid (And.intro htk hpo)
          have H39 := Lib.hid (show z ≤ 39 by omega)
          obtain ⟨q, hq⟩ : ∃ q, 17 + z = q := ⟨_, rfl⟩
          rw [hq] at e1 e2 e3 e4 HWS
          have HQ := Lib.hid hq
          have hq3 : (q : Int) ≤ 64 := by omega
          clear htk hpo hpz hmem hgl hq hx
          go_wp2_with fail
          refine HWS.out.mono ?_
          rintro e w3 ⟨rfl, hL⟩
          have HL3 := Lib.hid hL
          clear hL HWS
          go_wp2_with fail
          go_roundw
          case rel =>
            refine ⟨k + 1, by omega, by go_num, ?_, ?_, ?_, ?_⟩
            · intro y hy
              rw [HTK.out.1] at hy
              rcases List.mem_append.1 hy with hy | hy
              · exact HOK.out y hy
              · rw [List.mem_singleton.1 hy, HZ.out]; exact H39.out
            · show BuilderIn _ _ _ _ _ _
              have hh := HL3.out.at_
              rw [byteCells_str] at hh
              rw [HTK.out.1, gatherL_snoc, HTK.out.2, HQ.out]
              rw [show Lib.byteCells (gatherL (secs.take k) ++ (x.extract 17 q).data.toList) = Lib.byteCells (gatherL (secs.take k)) ++ Lib.byteCells (x.extract 17 q).data.toList from by simp [Lib.byteCells]]
              exact hh
            · show _ = _
              rw [HL3.out.below.block _ HPN.out.2]
              exact HHB.out
            · exact HBW.out.trans (HL3.out.below.mono (Nat.le_of_lt HPN.out.2))
          case measure => simp [intOf]; omega
      · have hkP2 : k = P := by omega
        subst hkP2
        have d1 : ¬ (k : Int) < (k : Int) := by omega
        have hrs := HX.out
        rw [if_neg (by
          rw [List.any_eq_true]
          rintro ⟨x, hx, h⟩
          have := HOK.out x hx
          simp at h
          omega)] at hrs
        have hgl : (gatherL (secs.take k)).length ≤ 39 * k := gather_le secs k (fun y hy => ⟨H64.out y (List.mem_of_mem_take hy), HOK.out y hy⟩)
        have HST := Lib.hid (string_in 244 [] bb bb _ wr HBD.out)
        have hG : (gatherL (secs.take k)).length = (str (gatherL (secs.take k))).size := rfl
        rw [hG] at hrs hgl
        have HST2 : Hid (Calls Tryz.prog 168 #[.pointer (some ⟨bb, 0, none⟩)] wr fun e w' => e = .returned (.string (str (gatherL (secs.take k)))) ∧ Below bb wr w') := HST.out
        have HTKS : Hid (StrsAt w (.slice (some ⟨vg, vo, none⟩) k vc) (secs.take k)) := strsAt_take HV.out k (by rw [HN.out]; exact HPN.out.1)
        have HTL : Hid ((secs.take k).length = k) := by show _ = _; rw [List.length_take, HN.out]; have := HPN.out.1; omega
        generalize str (gatherL (secs.take k)) = S at hrs hgl HST2
        generalize secs.take k = TK at hrs HTKS HTL
        clear HST hG HOK HBD
        have hSi : (S.size : Int) ≤ 100000 := by omega
        go_wp2_with fail
        refine HST2.out.mono ?_
        rintro e w3 ⟨rfl, hb3⟩
        have HB3 := Lib.hid (HBW.out.trans (hb3.mono (Nat.le_of_lt HPN.out.2)))
        have hh3 : w3.heap[w.heap.size]? = _ := (hb3.block _ HPN.out.2).trans HHB.out
        have k0 := cell_of hh3 0
        have k1 := cell_of hh3 1
        have k2 := cell_of hh3 2
        simp at k0 k1 k2
        clear hb3 hh3 HST2
        by_cases h9 : 900 < S.size
        · have e9 : (900 : Int) < (S.size : Int) := by omega
          rw [if_pos h9] at hrs
          have HY := Lib.hid hrs
          clear hrs h9
          go_wp2_with fail
          first
            | go_region
            | fail
          all_goals
            go_wp2_with fail
            go_returns
            exact ⟨by rw [HY.out]; rfl, grownBy_drew (grownBy_below HB3.out)⟩
        · have e9 : ¬ (900 : Int) < (S.size : Int) := by omega
          have e9b : ((900 : Int) < (S.size : Int)) = False := eq_false e9
          have e9a : decide ((900 : Int) < (S.size : Int)) = false := decide_eq_false e9
          have e9c : decide (900 < S.size) = false := decide_eq_false h9
          have e9d : (900 < S.size) = False := eq_false h9
          rw [if_neg h9] at hrs
          have hnl := nextS_length turn num S
          have hpl := partsN_le S.size (by omega)
          have HNXT : Hid (∀ w', w3.grownBy w' none → Calls Tryz.prog 170 #[.agg #[.int .u32 turn, .slice ra num rc, u], .string S] w' fun e w'' => ∃ v, e = .returned v ∧ StrsAt w'' v (nextS turn num S) ∧ w'.grownBy w'' none) :=
            fun w' hg' => (next_any turn num HT.out.1 HT.out.2 ra rc u S (by omega) w' ((HR.out.grown (grownBy_below HB3.out)).grown hg')).mono fun e w'' ⟨v, q1, q2, q3⟩ => by
              obtain ⟨a, cc, rfl⟩ := slice_own' q2
              have := hnl
              rw [← this] at q2 q1
              exact ⟨_, q1, strs_own q2, q3⟩
          have HEQ : Hid (∀ (w' : World) (v1 : Value), w3.grownBy w' none → StrsAt w' v1 (nextS turn num S) → Calls Tryz.prog 169 #[v1, .slice (some ⟨vg, vo, none⟩) k vc] w' fun e w'' => e = .returned (.bool (decide (nextS turn num S = TK))) ∧ w'.grownBy w'' none) :=
            fun w' v1 hg' h1 => equal_any w' v1 _ (nextS turn num S) TK h1 ((HTKS.out.grown (grownBy_below HB3.out)).grown hg') (by rw [hnl]; omega) (by rw [HTL.out]; omega)
          have HY := Lib.hid hrs
          clear hrs h9 hnl hpl
          generalize nextS turn num S = NX at HNXT HEQ HY
          have hG3 : w3.grownBy w3.drew none := grownBy_drew (World.grownBy.refl _ _)
          go_wp2_with fail
          have HKK : Hid (w3.cell? ⟨w.heap.size, 0, none⟩ = some (.int .u32 turn) ∧ w3.cell? ⟨w.heap.size, 1, none⟩ = some (.slice ra num rc) ∧ w3.cell? ⟨w.heap.size, 2, none⟩ = some u) := ⟨k0, k1, k2⟩
          by_cases hE : NX = TK
          · have hd : decide (NX = TK) = true := decide_eq_true hE
            rw [hd] at HEQ
            have HE := Lib.hid hE
            clear hE hd
            go_region_held3 (fun w' => w'.cell? ⟨w.heap.size, 0, none⟩ = some (.int .u32 turn) ∧ w'.cell? ⟨w.heap.size, 1, none⟩ = some (.slice ra num rc) ∧ w'.cell? ⟨w.heap.size, 2, none⟩ = some u) (first | exact ck | exact HKK.out)
              (first
                | (go_at_call 170; refine (HNXT.out _ hG3).mono ?_; rintro e wn ⟨v, rfl, hsv, gn⟩; have hG3 := grownBy_trans hG3 gn; have ck := held_ck HKK.out hG3)
                | (go_at_call 169; refine (HEQ.out _ _ hG3 hsv).mono ?_; rintro e we ⟨rfl, ge⟩; have hG3 := grownBy_trans hG3 ge; have ck := held_ck HKK.out hG3))
            go_wp2_with fail
            go_returns
            exact ⟨by rw [HY.out, if_pos HE.out]; rfl, grownBy_trans (grownBy_below HB3.out) hG3⟩
          · have hd : decide (NX = TK) = false := decide_eq_false hE
            rw [hd] at HEQ
            have HE := Lib.hid hE
            clear hE hd
            go_region_held3 (fun w' => w'.cell? ⟨w.heap.size, 0, none⟩ = some (.int .u32 turn) ∧ w'.cell? ⟨w.heap.size, 1, none⟩ = some (.slice ra num rc) ∧ w'.cell? ⟨w.heap.size, 2, none⟩ = some u) (first | exact ck | exact HKK.out)
              (first
                | (go_at_call 170; refine (HNXT.out _ hG3).mono ?_; rintro e wn ⟨v, rfl, hsv, gn⟩; have hG3 := grownBy_trans hG3 gn; have ck := held_ck HKK.out hG3)
                | (go_at_call 169; refine (HEQ.out _ _ hG3 hsv).mono ?_; rintro e we ⟨rfl, ge⟩; have hG3 := grownBy_trans hG3 ge; have ck := held_ck HKK.out hG3))
            go_wp2_with fail
            go_returns
            exact ⟨by rw [HY.out, if_neg HE.out]; rfl, grownBy_trans (grownBy_below HB3.out) hG3⟩
end Go.Proofs.YtbhoeiopckmfhaaGreatDoor

namespace Go.Proofs.YtbhoeiopckmfhaaGreatDoor
open Go.RowKit
attribute [local irreducible] shaL

/-- the number in a half's third cell -/
def usedIn (w : World) (B : Nat) : Nat := match w.cell? ⟨B, 2, none⟩ with
  | some (.int .i64 n) => n.toNat
  | _ => 0
theorem usedIn_of {w : World} {B u : Nat} {a b : Value} (h : w.heap[B]? = some (.cells #[a, b, .int .i64 u] 163 (0, 0))) : usedIn w B = u := by
  unfold usedIn
  rw [cell_of h 2]
  simp
theorem own_up {w : World} {B B' n size : Nat} {t : TypeId} {v : Value} {xs : List Value} (h : w.ownsRow B t size v n xs) (hb : ∀ x, v.ownBlock = some x → B' ≤ x) : w.ownsRow B' t size v n xs := by
  refine ⟨h.1, ?_⟩
  rcases h.2 with h' | ⟨g, cap, cur, e, hB, r⟩
  · exact .inl h'
  · exact .inr ⟨g, cap, cur, e, hb g (by rw [e]; rfl), r⟩
theorem strsAt_drop {w : World} {g o n cap : Nat} {L : List ByteArray} (h : StrsAt w (.slice (some ⟨g, o, none⟩) n cap) L) (k : Nat) (hk : k ≤ L.length) {m c : Nat} (hm : (L.drop k).length = m) : StrsAt w (.slice (some ⟨g, o + k, none⟩) m c) (L.drop k) := by
  refine ⟨some ⟨g, o + k, none⟩, c, by rw [hm], fun i hi => ?_⟩
  rw [List.length_drop] at hi
  obtain ⟨g', o', he, hc⟩ := h.at_ (k + i) _ (List.getElem?_eq_getElem (by omega))
  cases he
  exact ⟨g, o + k, rfl, by rw [Nat.add_assoc, hc, List.getElem_drop]⟩
set_option maxRecDepth 100000 in
set_option maxHeartbeats 6400000 in
theorem halfOf_some (w : World) (v : Value) (secs : List ByteArray) (hv : StrsAt w v secs) (h0 : 0 < secs.length) (hl : secs.length ≤ 1024) (h64 : ∀ x ∈ secs, x.size = 64) (hcap : ∀ a n c, v = .slice a n c → n ≤ c ∧ c ≤ maxLen) (hr : ShaReady w) (hT : turnOf (secs.headD ⟨#[]⟩) ≠ 0) :
    Calls Tryz.prog 84 #[v] w fun e w' => ∃ hv, e = .returned (.agg #[.int .u32 (halfS secs).turn, hv, .int .i64 (halfS secs).used]) ∧ w'.ownsRow w.heap.size 9 1 hv (halfS secs).recs.length (strsV (halfS secs).recs) ∧ w.grownBy w' none := by
  have hHS : halfS secs = if (halfLoop (turnOf (secs.headD ⟨#[]⟩)) secs secs.length [] 0).1 = [] then ⟨0, [], 0⟩ else ⟨turnOf (secs.headD ⟨#[]⟩), (halfLoop (turnOf (secs.headD ⟨#[]⟩)) secs secs.length [] 0).1, (halfLoop (turnOf (secs.headD ⟨#[]⟩)) secs secs.length [] 0).2⟩ := by
    unfold halfS
    rw [if_neg hT]
  obtain ⟨va, vc, rfl⟩ := hv.form
  obtain ⟨hcap1, hcap2⟩ := hcap _ _ _ rfl
  unfold maxLen at hcap2
  obtain ⟨s0, rest0, hs0⟩ : ∃ s0 rest0, secs = s0 :: rest0 := by
    cases secs with
    | nil => simp at h0
    | cons a b => exact ⟨a, b, rfl⟩
  obtain ⟨vg, vo, rfl, hc0⟩ := hv.at_ 0 s0 (by rw [hs0]; rfl)
  rw [Nat.add_zero] at hc0
  have hhd : secs.headD ⟨#[]⟩ = s0 := by rw [hs0]; rfl
  have hz0 : s0.size = 64 := h64 s0 (by rw [hs0]; simp)
  rw [hhd] at hT hHS
  have hn4 := num4 s0 hz0
  have htl := turnOf_lt s0 hz0
  obtain ⟨T, hTT⟩ : ∃ T, turnOf s0 = T := ⟨_, rfl⟩
  rw [hTT] at hT hHS hn4 htl
  have hw32 := wrap_u32 T (by omega)
  have hT0 : ((T : Int) == 0) = false := by simp; omega
  have hTi : (T : Int) ≤ 4294967295 := by omega
  obtain ⟨FIN, hFIN⟩ : ∃ FIN, halfLoop T secs secs.length [] 0 = FIN := ⟨_, rfl⟩
  rw [hFIN] at hHS
  obtain ⟨N, hN⟩ : ∃ N, secs.length = N := ⟨_, rfl⟩
  rw [hN] at hl h0 hv hcap1 hFIN ⊢
  have hpos : (0 : Int) < (N : Int) := by omega
  have hNi : (N : Int) ≤ 1024 := by omega
  have hci : (vc : Int) ≤ 9223372036854775807 := by omega
  have hNc : (N : Int) ≤ (vc : Int) := by omega
  have HV := Lib.hid hv
  have H64 := Lib.hid h64
  have HN := Lib.hid hN
  have HR := Lib.hid hr
  have HHS := Lib.hid hHS
  have HFIN := Lib.hid hFIN
  have HN4 := Lib.hid hn4
  have HZ0 := Lib.hid (And.intro hz0 htl)
  have hvg : vg < w.heap.size := cell_lt hc0
  have HCP := Lib.hid (And.intro hcap1 hcap2)
  clear hv h64 hhd hN hr hs0 hcap hT hTT hHS hFIN hn4 hz0 htl
  go_enter Tryz.func84, Tryz.ntmps84
  obtain ⟨w1, hW1⟩ : ∃ w1, w.alloc (.cells #[.int .u32 0, .slice none 0 0, .int .i64 0] 163) = w1 := ⟨_, rfl⟩
  have hc1 : w1.cell? ⟨vg, vo, none⟩ = some (.string s0) := by rw [← hW1]; exact (World.grownBy_alloc w _ none).cell hc0 (by simp)
  have hr1 : w1.heap[w.heap.size]? = some (.cells #[.int .u32 0, .slice none 0 0, .int .i64 0] 163 (0, 0)) := by rw [← hW1]; exact heap_alloc_at _ _ _ rfl
  have hg1 : w.grownBy w1 none := by rw [← hW1]; exact World.grownBy_alloc _ _ _
  go_wp2_with fail
  refine (read_any s0 w1).mono ?_
  rintro e w2 ⟨rfl, hrd, hg2⟩
  have HRS : Hid (RsAt w2 (some ⟨w1.heap.size, 0, none⟩) (some ⟨s0, 0⟩)) := ⟨_, rfl, hrd⟩
  have hr2 := hg2.heap hr1 (by simp)
  have hG2 := grownBy_trans hg1 hg2
  clear hrd hg2 hc1 hc0
  go_wp2_with fail
  refine (rnum_any 4 w2 _ _ HRS.out (by rintro x ⟨⟩; show s0.size ≤ _; rw [HZ0.out.1]; decide)).mono ?_
  rintro e w3 ⟨rfl, hrs, hg3⟩
  have hz : ((Option.map (fun s => (RSt.num s 4).1) (some (⟨s0, 0⟩ : RSt))).getD 0) = T := HN4.out
  rw [hz]
  have hlt1 : w.heap.size < w1.heap.size := (Array.getElem?_eq_some_iff.1 hr1).1
  have hr3 := hg3.heap hr2 (by show some w1.heap.size ≠ some w.heap.size; simp; omega)
  have hG3 := grown_row hG2 hg3 (by intro x e; have : w1.heap.size = x := by simpa [prow] using e
                                    omega)
  have HR3 := Lib.hid hr3
  have HG3 := Lib.hid hG3
  clear hrs hr1 hr2 hr3 hG2 hG3 hg3 hz HRS hW1 hg1 hlt1
  go_upto_block 0 with (fail)
  obtain ⟨w4, hW4⟩ : ∃ w4, w3.alloc (.cells #[.int .u32 T, .slice none 0 0, .int .i64 0] 163) = w4 := ⟨_, rfl⟩
  rw [hW4]
  obtain ⟨HB, hHB⟩ : ∃ HB, w3.heap.size = HB := ⟨_, rfl⟩
  rw [hHB]
  have hh4 : w4.heap[HB]? = some (.cells #[.int .u32 T, .slice none 0 0, .int .i64 0] 163 (0, 0)) := by rw [← hW4]; exact heap_alloc_at _ _ _ hHB
  have hg34 : w3.grownBy w4 none := by rw [← hW4]; exact World.grownBy_alloc _ _ _
  have HR4 := Lib.hid (hg34.heap HR3.out (by simp))
  have HG4 := Lib.hid (grownBy_trans HG3.out hg34)
  have HH4 := Lib.hid hh4
  have hRB : w.heap.size < HB := by rw [← hHB]; exact (Array.getElem?_eq_some_iff.1 HR3.out).1
  have HRB := Lib.hid hRB
  clear hh4 hg34 hW4 hHB HR3 HG3 hRB
  go_cut [4] (fun _ wx => ∃ (L : List ByteArray) (u : Nat) (rv : Value), Hid ((L, u) = FIN ∧ L.length ≤ u ∧ u ≤ N) ∧ Hid (wx.heap[HB]? = some (.cells #[.int .u32 T, rv, .int .i64 u] 163 (0, 0))) ∧ Hid (wx.ownsRow 0 9 1 rv L.length (strsV L) ∧ ∀ x, rv.ownBlock = some x → HB < x) ∧ Hid (wx.heap[w.heap.size]? = some (.cells #[.int .u32 0, .slice none 0 0, .int .i64 0] 163 (0, 0))) ∧ Hid (w.grownBy wx none))
  case first =>
    go_wp2_with fail
    go_loopw [4] (fun _ wx => ∃ (f : Nat) (L : List ByteArray) (u : Nat) (rv : Value), Hid (halfLoop T secs f L u = FIN ∧ N - u ≤ f ∧ L.length ≤ u ∧ u ≤ N) ∧ Hid (wx.heap[HB]? = some (.cells #[.int .u32 T, rv, .int .i64 u] 163 (0, 0))) ∧ Hid (wx.ownsRow 0 9 1 rv L.length (strsV L) ∧ ∀ x, rv.ownBlock = some x → HB < x) ∧ Hid (wx.heap[w.heap.size]? = some (.cells #[.int .u32 0, .slice none 0 0, .int .i64 0] 163 (0, 0))) ∧ Hid (w.grownBy wx none)) (fun _ wx => N - usedIn wx HB)
    case atStart => exact ⟨N, [], 0, .slice none 0 0, ⟨HFIN.out, by omega, Nat.le_refl _, Nat.zero_le _⟩, HH4.out, ⟨World.ownsRow_nil _ _ _ _, by simp [Value.ownBlock]⟩, HR4.out, HG4.out⟩
    case round =>
      clear HH4 HR4 HG4
      obtain ⟨f, L, u, rv, HF, HH, HO, HRR, HG⟩ := hrel
      obtain ⟨ra, rc, rfl⟩ := slice_own' HO.out.1
      have k0 := cell_of HH.out 0
      have k1 := cell_of HH.out 1
      have k2 := cell_of HH.out 2
      simp at k0 k1 k2
      have hun := HF.out.2.2.2
      have hLu := HF.out.2.2.1
      have HUI := Lib.hid (usedIn_of HH.out)
      by_cases huN : u < N
      · have d1 : (u : Int) < (N : Int) := by omega
        have d0 : (0 : Int) ≤ (u : Int) := by omega
        have d2 : (u : Int) ≤ (vc : Int) := by omega
        have d3 : ¬ vc = u := by have := HCP.out.1; omega
        have d4 : ((vc : Int) = (u : Int)) = False := by simp; have := HCP.out.1; omega
        have hsub : ∀ w', w.grownBy w' none → StrsAt w' (.slice (some ⟨vg, vo + u, none⟩) (N - u) (vc - u)) (secs.drop u) := fun w' h => strsAt_drop (HV.out.grown h) u (by have := HN.out; omega) (by rw [List.length_drop, HN.out])
        have hdl : (secs.drop u).length = N - u := by rw [List.length_drop, HN.out]
        have HRD : Hid (∀ w', w.grownBy w' none → Calls Tryz.prog 130 #[.agg #[.int .u32 T, .slice ra L.length rc, .int .i64 u], .slice (some ⟨vg, vo + u, none⟩) (N - u) (vc - u)] w' fun e w'' => e = .returned (.tuple (optV (readS T L.length (secs.drop u)))) ∧ w'.grownBy w'' none) :=
          fun w' h => hread_any T L.length (by have := HZ0.out.2; omega) (by omega) ra rc _ w' _ (secs.drop u) (hsub w' h) (by omega) (by omega) (fun x hx => H64.out x (List.mem_of_mem_drop hx)) (by rintro a n c ⟨⟩; exact ⟨by have := HCP.out.1; omega, by unfold maxLen; have := HCP.out.2; omega⟩) (HR.out.grown h)
        have hrs := readS_size T L.length (secs.drop u)
        rw [hdl] at hrs
        obtain ⟨r, hr'⟩ : ∃ r, readS T L.length (secs.drop u) = r := ⟨_, rfl⟩
        rw [hr'] at HRD hrs
        have HRR' := Lib.hid hr'
        have HKK : Hid (wr.cell? ⟨HB, 0, none⟩ = some (.int .u32 T) ∧ wr.cell? ⟨HB, 1, none⟩ = some (.slice ra L.length rc) ∧ wr.cell? ⟨HB, 2, none⟩ = some (.int .i64 u)) := ⟨k0, k1, k2⟩
        have hG : w.grownBy wr.drew none := grownBy_drew HG.out
        have hG3 : wr.grownBy wr.drew none := grownBy_drew (World.grownBy.refl _ _)
        have HRSZ := Lib.hid hrs
        clear hsub hdl hr' hrs
        cases r with
        | none =>
          have HRE : Hid (∀ w', w.grownBy w' none → Calls Tryz.prog 130 #[.agg #[.int .u32 T, .slice ra L.length rc, .int .i64 u], .slice (some ⟨vg, vo + u, none⟩) (N - u) (vc - u)] w' fun e w'' => e = .returned (.tuple #[.string ⟨#[]⟩, .bool false]) ∧ w'.grownBy w'' none) := HRD.out
          clear HRD
          go_wp2_with fail
          go_region_held3 (fun w' => w'.cell? ⟨HB, 0, none⟩ = some (.int .u32 T) ∧ w'.cell? ⟨HB, 1, none⟩ = some (.slice ra L.length rc) ∧ w'.cell? ⟨HB, 2, none⟩ = some (.int .i64 u)) (first | exact ck | exact HKK.out)
            ((go_at_call 130; refine (HRE.out _ hG).mono ?_; rintro e wn ⟨rfl, gn⟩; have hG := grownBy_trans hG gn; have hG3 := grownBy_trans hG3 gn; have ck := held_ck HKK.out hG3))
          go_wp2_with fail
          go_meet
          case rel =>
            refine ⟨L, u, .slice ra L.length rc, ⟨?_, hLu, hun⟩, hG3.heap HH.out (by simp), ⟨own_turn HO.out.1 (S := fun _ => False) (Turn.of_grown hG3) (fun _ _ q => q), HO.out.2⟩, hG3.heap HRR.out (by simp), hG⟩
            rw [← HF.out.1]
            cases f with
            | zero => rfl
            | succ f => rw [halfLoop, if_pos (by rw [HN.out]; exact huN), HRR'.out]
        | some S =>
          have HRE : Hid (∀ w', w.grownBy w' none → Calls Tryz.prog 130 #[.agg #[.int .u32 T, .slice ra L.length rc, .int .i64 u], .slice (some ⟨vg, vo + u, none⟩) (N - u) (vc - u)] w' fun e w'' => e = .returned (.tuple #[.string S, .bool true]) ∧ w'.grownBy w'' none) := HRD.out
          have HSZ := Lib.hid (HRSZ.out S rfl)
          clear HRD HRSZ
          go_wp2_with fail
          go_region_held3 (fun w' => w'.cell? ⟨HB, 0, none⟩ = some (.int .u32 T) ∧ w'.cell? ⟨HB, 1, none⟩ = some (.slice ra L.length rc) ∧ w'.cell? ⟨HB, 2, none⟩ = some (.int .i64 u)) (first | exact ck | exact HKK.out)
            ((go_at_call 130; refine (HRE.out _ hG).mono ?_; rintro e wn ⟨rfl, gn⟩; have hG := grownBy_trans hG gn; have hG3 := grownBy_trans hG3 gn; have ck := held_ck HKK.out hG3))
          have hown := own_turn HO.out.1 (S := fun _ => False) (Turn.of_grown hG3) (fun _ _ q => q)
          have hh5 := hG3.heap HH.out (by simp)
          have hr5 := hG3.heap HRR.out (by simp)
          have HWI := Lib.hid (with_any T u _ L S (by have := HSZ.out.1; omega) (by omega) (by omega) wn hown)
          have q0 := cell_of hh5 0
          have q1 := cell_of hh5 1
          have q2 := cell_of hh5 2
          simp at q0 q1 q2
          have H5 := Lib.hid (And.intro hh5 (And.intro hr5 hG))
          clear hown hh5 hr5 hG hG3 ck
          go_wp2_with fail
          refine HWI.out.mono ?_
          rintro e w6 ⟨g6, c6, rfl, hrow6, hg6, hat6⟩
          have hHBl : HB < wn.heap.size := (Array.getElem?_eq_some_iff.1 H5.out.1).1
          have hne1 : (Value.slice ra L.length rc).ownBlock ≠ some HB := fun e => by have := HO.out.2 HB e; omega
          have hne2 : (Value.slice ra L.length rc).ownBlock ≠ some w.heap.size := fun e => by have := HO.out.2 _ e; have := HRB.out; omega
          have hh6 := hg6.heap H5.out.1 hne1
          have hr6 := hg6.heap H5.out.2.1 hne2
          have hgB : HB < g6 := by
            rcases hat6 with e | e
            · exact HO.out.2 g6 e
            · omega
          have hg66 := grown_row H5.out.2.2 hg6 (fun x e => by have := HO.out.2 x e; have := HRB.out; omega)
          have p0 := cell_of hh6 0
          have p1 := cell_of hh6 1
          have p2 := cell_of hh6 2
          have f0 := free_of hh6 0
          have f1 := free_of hh6 1
          have f2 := free_of hh6 2
          simp at p0 p1 p2
          have H6 := Lib.hid (And.intro hh6 (And.intro hr6 (And.intro hrow6 (And.intro hgB hg66))))
          clear hh6 hr6 hrow6 hgB hg66 hg6 hat6 hne1 hne2 q0 q1 q2 HWI
          go_wp2_with fail
          obtain ⟨f', rfl⟩ : ∃ f', f = f' + 1 := ⟨f - 1, by have := HF.out.2.1; omega⟩
          have hfl := HF.out.1
          rw [halfLoop, if_pos (by rw [HN.out]; exact huN), HRR'.out] at hfl
          obtain ⟨w7, hW7⟩ : ∃ w7, ((w6.setCell ⟨HB, 0, none⟩ (.int .u32 T)).setCell ⟨HB, 1, none⟩ (.slice (some ⟨g6, 0, none⟩) (L.length + 1) c6)).setCell ⟨HB, 2, none⟩ (.int .i64 (↑u + ↑(partsN S.size))) = w7 := ⟨_, rfl⟩
          rw [hW7]
          have tt : Turn (fun i => i = HB) w6 w7 := by rw [← hW7]; exact (((Turn.refl (fun i => i = HB) w6).setCell (fun _ => rfl) _ _).setCell (fun _ => rfl) _ _).setCell (fun _ => rfl) _ _
          have hh7 : w7.heap[HB]? = some (.cells #[.int .u32 T, .slice (some ⟨g6, 0, none⟩) (L.length + 1) c6, .int .i64 (u + partsN S.size : Nat)] 163 (0, 0)) := by
            rw [← hW7, heap_setCell (heap_setCell (heap_setCell H6.out.1 0 _) 1 _) 2 _, Int.natCast_add]; rfl
          have hpp := partsN_pos S.size
          have hll : (L ++ [S]).length = L.length + 1 := by simp
          refine ⟨⟨f', L ++ [S], u + partsN S.size, .slice (some ⟨g6, 0, none⟩) (L.length + 1) c6, ⟨hfl, by have := HF.out.2.1; omega, by rw [hll]; omega, by have := HSZ.out.2; omega⟩, hh7, ⟨?_, ?_⟩, ?_, ?_⟩, ?_⟩
          · rw [hll]
            have hx6 : ∀ x, (Value.slice (some ⟨g6, 0, none⟩) (L.length + 1) c6).ownBlock = some x → x = g6 := fun x e => by simpa [Value.ownBlock] using e.symm
            exact own_turn H6.out.2.2.1 tt (fun x e q => by have := hx6 x e; have := H6.out.2.2.2.1; omega)
          · intro x e
            have : x = g6 := by simpa [Value.ownBlock] using e.symm
            rw [this]; exact H6.out.2.2.2.1
          · exact tt.heap H6.out.2.1 (by have := HRB.out; omega)
          · show w.grownBy w7 none
            rw [← hW7]
            exact grownBy_setNew (grownBy_setNew (grownBy_setNew H6.out.2.2.2.2 (by have := HRB.out; omega) _ _) (by have := HRB.out; omega) _ _) (by have := HRB.out; omega) _ _
          · rw [usedIn_of hh7, HUI.out]
            omega
      · have huN2 : u = N := by omega
        have d1 : ¬ (u : Int) < (N : Int) := by omega
        go_wp2_with fail
        go_meet
        case rel =>
          refine ⟨L, u, .slice ra L.length rc, ⟨?_, hLu, hun⟩, HH.out, HO.out, HRR.out, HG.out⟩
          rw [← HF.out.1]
          cases f with
          | zero => rfl
          | succ f => rw [halfLoop, if_neg (by rw [HN.out]; omega)]
  case rest =>
    obtain ⟨L, u, rv, HF, HH, HO, HRR, HG⟩ := hcut
    obtain ⟨ra, rc, rfl⟩ := slice_own' HO.out.1
    have k0 := cell_of HH.out 0
    have k1 := cell_of HH.out 1
    have k2 := cell_of HH.out 2
    have r0 := cell_of HRR.out 0
    have r1 := cell_of HRR.out 1
    have r2 := cell_of HRR.out 2
    have q0 := free_of HRR.out 0
    have q1 := free_of HRR.out 1
    have q2 := free_of HRR.out 2
    simp at k0 k1 k2 r0 r1 r2
    have hfin := HF.out.1
    have hhs := HHS.out
    rw [← hfin] at hhs
    by_cases hL : L = []
    · rw [if_pos hL] at hhs
      have HX := Lib.hid hhs
      have hl0 : L.length = 0 := by rw [hL]; rfl
      rw [hl0] at k1
      clear hhs hfin hL hl0
      go_wp2_with fail
      obtain ⟨w5, hW5⟩ : ∃ w5, ((wc.setCell ⟨w.heap.size, 0, none⟩ (.int .u32 0)).setCell ⟨w.heap.size, 1, none⟩ (.slice none 0 0)).setCell ⟨w.heap.size, 2, none⟩ (.int .i64 0) = w5 := ⟨_, rfl⟩
      rw [hW5]
      have hr5 : w5.heap[w.heap.size]? = some (.cells #[.int .u32 0, .slice none 0 0, .int .i64 0] 163 (0, 0)) := by
        rw [← hW5, heap_setCell (heap_setCell (heap_setCell HRR.out 0 _) 1 _) 2 _]; rfl
      have p0 := cell_of hr5 0
      have p1 := cell_of hr5 1
      have p2 := cell_of hr5 2
      simp at p0 p1 p2
      have hg5 : w.grownBy w5 none := by
        rw [← hW5]
        exact grownBy_setNew (grownBy_setNew (grownBy_setNew HG.out (Nat.le_refl _) _ _) (Nat.le_refl _) _ _) (Nat.le_refl _) _ _
      exact bodyPost_ret (v := .agg #[.int .u32 0, .slice none 0 0, .int .i64 0]) (by simp [results, Tryz.results84, go_sem, p0, p1, p2]; try rfl) rfl ⟨.slice none 0 0, by rw [HX.out]; rfl, by rw [HX.out]; exact World.ownsRow_nil _ _ _ _, hg5⟩
    · rw [if_neg hL] at hhs
      have HX := Lib.hid hhs
      have hl1 : 1 ≤ L.length := by
        cases L with
        | nil => exact absurd rfl hL
        | cons a b => simp
      have hl2 : ((L.length : Int) == 0) = false := by simp; omega
      clear hhs hfin hL
      go_wp2_with fail
      obtain ⟨w5, hW5⟩ : ∃ w5, ((wc.setCell ⟨w.heap.size, 0, none⟩ (.int .u32 T)).setCell ⟨w.heap.size, 1, none⟩ (.slice ra L.length rc)).setCell ⟨w.heap.size, 2, none⟩ (.int .i64 u) = w5 := ⟨_, rfl⟩
      rw [hW5]
      have hr5 : w5.heap[w.heap.size]? = some (.cells #[.int .u32 T, .slice ra L.length rc, .int .i64 u] 163 (0, 0)) := by
        rw [← hW5, heap_setCell (heap_setCell (heap_setCell HRR.out 0 _) 1 _) 2 _]; rfl
      have p0 := cell_of hr5 0
      have p1 := cell_of hr5 1
      have p2 := cell_of hr5 2
      simp at p0 p1 p2
      have hg5 : w.grownBy w5 none := by
        rw [← hW5]
        exact grownBy_setNew (grownBy_setNew (grownBy_setNew HG.out (Nat.le_refl _) _ _) (Nat.le_refl _) _ _) (Nat.le_refl _) _ _
      have ho5 : w5.ownsRow 0 9 1 (.slice ra L.length rc) L.length (strsV L) := by
        rw [← hW5]
        exact own_turn HO.out.1 (S := fun i => i = w.heap.size) ((((Turn.refl (fun i => i = w.heap.size) wc).setCell (fun _ => rfl) _ _).setCell (fun _ => rfl) _ _).setCell (fun _ => rfl) _ _) (fun x e q => by have := HO.out.2 x e; have := HRB.out; omega)
      have ho6 := own_up ho5 (B' := w.heap.size) (fun x e => by have := HO.out.2 x e; have := HRB.out; omega)
      exact bodyPost_ret (v := .agg #[.int .u32 T, .slice ra L.length rc, .int .i64 u]) (by simp [results, Tryz.results84, go_sem, p0, p1, p2]; try rfl) rfl ⟨.slice ra L.length rc, by rw [HX.out], by rw [HX.out]; exact ho6, hg5⟩
/-- halfOf of any sectors -/
theorem halfOf_any (w : World) (v : Value) (secs : List ByteArray) (hv : StrsAt w v secs) (h0 : 0 < secs.length) (hl : secs.length ≤ 1024) (h64 : ∀ x ∈ secs, x.size = 64) (hcap : ∀ a n c, v = .slice a n c → n ≤ c ∧ c ≤ maxLen) (hr : ShaReady w) :
    Calls Tryz.prog 84 #[v] w fun e w' => ∃ hv, e = .returned (.agg #[.int .u32 (halfS secs).turn, hv, .int .i64 (halfS secs).used]) ∧ w'.ownsRow w.heap.size 9 1 hv (halfS secs).recs.length (strsV (halfS secs).recs) ∧ w.grownBy w' none := by
  by_cases hT : turnOf (secs.headD ⟨#[]⟩) = 0
  · have e : halfS secs = ⟨0, [], 0⟩ := by unfold halfS; rw [if_pos hT]
    obtain ⟨s0, rest0, hs0⟩ : ∃ s0 rest0, secs = s0 :: rest0 := by
      cases secs with
      | nil => simp at h0
      | cons a b => exact ⟨a, b, rfl⟩
    rw [e]
    subst hs0
    refine (halfOf_none w v s0 rest0 hv (h64 s0 (by simp)) hT (by simp at hl; omega)).mono ?_
    rintro e w' ⟨rfl, h⟩
    exact ⟨.slice none 0 0, rfl, World.ownsRow_nil _ _ _ _, h⟩
  · exact halfOf_some w v secs hv h0 hl h64 hcap hr hT
end Go.Proofs.YtbhoeiopckmfhaaGreatDoor

namespace Go.Proofs.YtbhoeiopckmfhaaGreatDoor
open Go.RowKit
attribute [local irreducible] shaL

/-- the book behind k halves -/
def pickS (first size : Nat) (hs : Nat → HalfT) : Nat → BookS
  | 0 => ⟨first, size, 0, 0, [], 0, false⟩
  | k + 1 => if (pickS first size hs k).turn < (hs k).turn then ⟨first, size, k, (hs k).turn, (hs k).recs, (hs k).used, false⟩ else pickS first size hs k
theorem pickS_area (first size : Nat) (hs : Nat → HalfT) (k : Nat) : (pickS first size hs k).first = first ∧ (pickS first size hs k).size = size ∧ (pickS first size hs k).failed = false := by
  induction k with
  | zero => exact ⟨rfl, rfl, rfl⟩
  | succ k ih =>
    rw [pickS]
    split
    · exact ⟨rfl, rfl, rfl⟩
    · exact ih
theorem pickS_ok (n first size : Nat) (hs : Nat → HalfT) (ha : first + 2 * size ≤ n) (hn : n ≤ 1024) (h4 : 4 ≤ size) (k : Nat) (hk : k ≤ 2) (hh : ∀ j, j < k → (hs j).turn ≤ 4294967295 ∧ (hs j).recs.length ≤ (hs j).used ∧ (hs j).used ≤ size) : BookOK n (pickS first size hs k) := by
  induction k with
  | zero => exact ⟨ha, hn, h4, Nat.zero_le _, Nat.zero_le _, Nat.le_refl _, Nat.zero_le _⟩
  | succ k ih =>
    rw [pickS]
    split
    · obtain ⟨h1, h2, h3⟩ := hh k (by omega)
      exact ⟨ha, hn, h4, by show k ≤ 1; omega, h1, h2, h3⟩
    · exact ih (by omega) (fun j hj => hh j (by omega))

theorem own_cap {w : World} {B n : Nat} {t : TypeId} {size : Nat} {a : Option Addr} {c : Nat} {xs : List Value} (h : w.ownsRow B t size (.slice a n c) n xs) : n ≤ c ∧ c ≤ maxLen := by
  rcases h.2 with ⟨h', h0⟩ | ⟨g, cap, cur, h', _, _, hn, hm, _⟩
  · cases h'; exact ⟨Nat.le_refl _, Nat.zero_le _⟩
  · cases h'; exact ⟨hn, hm⟩
theorem open_nil (f c : Int) (w : World) : Calls Tryz.prog 40 #[.pointer none, .int .i64 f, .int .i64 c] w fun e w' => e = .returned (.tuple #[.pointer none, .int .i64 1]) ∧ w.grownBy w' none := by
  go_enter Tryz.func40, Tryz.ntmps40
  go_wp2_with fail
  go_returns
  exact ⟨rfl, World.grownBy.refl _ _⟩
set_option maxRecDepth 100000 in
set_option maxHeartbeats 1600000 in
theorem open_bad (F : Nat → Prop) (b : Nat) (D : DiskS) (f c : Int) (w : World) (hD : DiskAt F w b D) (hl : D.last.length ≤ 1024) (hc2 : c ≤ 9223372036854775807) (h : c < 8 ∨ f < 0 ∨ (D.last.length : Int) - c < f) :
    Calls Tryz.prog 40 #[.pointer (some ⟨b, 0, none⟩), .int .i64 f, .int .i64 c] w fun e w' => e = .returned (.tuple #[.pointer none, .int .i64 1]) ∧ w.grownBy w' none := by
  have HC := Lib.hid (count_at F b D w hD)
  clear hD
  by_cases h1 : c < 8
  · go_enter Tryz.func40, Tryz.ntmps40
    go_wp2_with fail
    go_returns
    exact ⟨rfl, World.grownBy.refl _ _⟩
  · by_cases h2 : f < 0
    · go_enter Tryz.func40, Tryz.ntmps40
      go_wp2_with fail
      go_returns
      exact ⟨rfl, World.grownBy.refl _ _⟩
    · have h3 : (D.last.length : Int) - c < f := by omega
      have h4 : -9223372036854775808 ≤ (D.last.length : Int) - c := by omega
      have h5 : (D.last.length : Int) - c ≤ 1024 := by omega
      generalize D.last.length = N at HC hl h3 h4 h5 h
      go_enter Tryz.func40, Tryz.ntmps40
      go_wp2_with fail
      refine HC.out.mono ?_
      rintro e w1 ⟨rfl, rfl⟩
      go_wp2_with fail
      go_returns
      exact ⟨rfl, World.grownBy.refl _ _⟩

set_option maxRecDepth 100000 in
set_option maxHeartbeats 6400000 in
theorem open_any (F : Nat → Prop) (n : Nat) (w : World) (b : Nat) (D : DiskS) (first count size : Nat) (hD : DiskAt F w b D) (hnl : D.last.length = n) (hn : n ≤ 1024) (h8 : 8 ≤ count) (hsz : count / 2 = size) (ha : first + count ≤ n) (hon : D.on = true) (hwl : D.wait.length ≤ 1000000000)
    (hs : Nat → HalfT) (hh : ∀ j, j < 2 → (hs j).turn ≤ 4294967295 ∧ (hs j).recs.length ≤ (hs j).used ∧ (hs j).used ≤ size)
    (hH : ∀ p, p < 2 → ∀ w' v, w.grownBy w' none → StrsAt w' v (secsK D (first + p * size) size) → (∀ a n c, v = .slice a n c → n ≤ c ∧ c ≤ maxLen) → Calls Tryz.prog 84 #[v] w' fun e w'' => ∃ hv, e = .returned (.agg #[.int .u32 (hs p).turn, hv, .int .i64 (hs p).used]) ∧ w''.ownsRow w'.heap.size 9 1 hv (hs p).recs.length (strsV (hs p).recs) ∧ w'.grownBy w'' none) :
    Calls Tryz.prog 40 #[.pointer (some ⟨b, 0, none⟩), .int .i64 first, .int .i64 count] w fun e w' => ∃ g rv, e = .returned (.tuple #[.pointer (some ⟨g, 0, none⟩), .int .i64 0]) ∧ BookMem w' g b (pickS first size hs 2) rv ∧ w.heap.size ≤ g ∧ (∀ x, rv.ownBlock = some x → w.heap.size ≤ x ∧ x ≠ g) ∧ w.grownBy w' none := by
  have HC := Lib.hid (count_at F b D w hD)
  rw [hnl] at HC
  have e1 : ¬ (count : Int) < 8 := by omega
  have e2 : ¬ (first : Int) < 0 := by omega
  have e3 : ¬ (n : Int) - (count : Int) < (first : Int) := by omega
  have e4 : (n : Int) ≤ 1024 := by omega
  have e5 : (count : Int) / 2 = (size : Int) := by omega
  have e6 : (count : Int) ≤ 1024 := by omega
  have hsz2 : 2 * size ≤ count := by omega
  have hs4 : 4 ≤ size := by omega
  have HPA := Lib.hid (pickS_area first size hs)
  have HPO : Hid (∀ k, k ≤ 2 → BookOK n (pickS first size hs k)) := fun k hk => pickS_ok n first size hs (by omega) hn hs4 k hk (fun j hj => hh j (by omega))
  have HPS : Hid (∀ k, pickS first size hs (k + 1) = if (pickS first size hs k).turn < (hs k).turn then ⟨first, size, k, (hs k).turn, (hs k).recs, (hs k).used, false⟩ else pickS first size hs k) := fun _ => rfl
  have HP0 : Hid (pickS first size hs 0 = ⟨first, size, 0, 0, [], 0, false⟩) := rfl
  have HSC : Hid (∀ (w' : World) (g : Nat) (B : BookS) (rv : Value) (p : Nat), w.grownBy w' none → BookMem w' g b B rv → BookOK n B → B.first = first → B.size = size → p ≤ 1 → Calls Tryz.prog 83 #[.pointer (some ⟨g, 0, none⟩), .int .i64 p] w' fun e w'' => ∃ v, e = .returned (.tuple #[v, .int .i64 0]) ∧ w''.ownsRow w'.heap.size 9 1 v size (strsV (secsK D (first + p * size) size)) ∧ w'.grownBy w'' none) := by
    intro w' g B rv p hg hM hO hf hz hp
    have := sectors_any F n w' g b B D rv hM (hD.grown hg) hO hnl hon hwl p hp
    rw [hf, hz] at this
    exact this
  have HHO := Lib.hid hH
  have HHH := Lib.hid hh
  clear hD hH hh hsz hnl
  go_enter Tryz.func40, Tryz.ntmps40
  go_wp2_with fail
  refine HC.out.mono ?_
  rintro e w1 ⟨rfl, rfl⟩
  clear HC
  go_wp2_with fail
  generalize Value.bool (decide ((n : Int) - (count : Int) < (first : Int))) = q1
  have hb0 : BookMem (w.alloc (.cells (bookCells b (pickS first size hs 0) (.slice none 0 0)).toArray 165)) w.heap.size b (pickS first size hs 0) (.slice none 0 0) :=
    ⟨heap_alloc_at _ _ _ rfl, World.ownsRow_nil _ _ _ _⟩
  have HB0 : Hid (BookMem (w.alloc (.cells #[.pointer (some ⟨b, 0, none⟩), .int .i64 first, .int .i64 size, .int .i64 0, .int .u32 0, .slice none 0 0, .int .i64 0, .bool false] 165)) w.heap.size b (pickS first size hs 0) (.slice none 0 0)) := hb0
  clear hb0
  go_loopw [37] (fun iv wr => ∃ (k : Nat) (rv : Value), k ≤ 2 ∧ iv = .int .i64 k ∧ Hid (BookMem wr w.heap.size b (pickS first size hs k) rv ∧ ∀ x, rv.ownBlock = some x → w.heap.size < x) ∧ Hid (w.grownBy wr none)) (fun iv _ => 2 - (intOf iv).toNat)
  case atStart => exact ⟨0, .slice none 0 0, by decide, rfl, ⟨HB0.out, by simp [Value.ownBlock]⟩, World.grownBy_alloc _ _ _⟩
  case round =>
    clear HB0
    obtain ⟨k, rv, hk, rfl, HM, HG⟩ := hrel
    by_cases hlt : k < 2
    · have d1 : (k : Int) < 2 := by omega
      have hpa := HPA.out k
      have hok := HPO.out k (by omega)
      have HSK := Lib.hid (HSC.out wr w.heap.size (pickS first size hs k) rv k HG.out HM.out.1 hok hpa.1 hpa.2.1 (by omega))
      have hpk := HPS.out k
      have htk := hok.turn
      have HHK := Lib.hid (HHO.out k hlt)
      have hhk := HHH.out k hlt
      have HB := Lib.hid (And.intro hpa hok)
      clear hpa hok
      generalize hs k = T at HHK hhk hpk
      generalize pickS first size hs k = B at HSK hpk HM htk HB
      go_wp2_with fail
      refine HSK.out.mono ?_
      rintro e w2 ⟨v, rfl, hrow, g2⟩
      obtain ⟨va, vc, rfl⟩ := slice_own' hrow
      have HST := Lib.hid (strs_own hrow)
      have HCAP := Lib.hid (own_cap hrow)
      have HG2 := Lib.hid (grownBy_trans HG.out g2)
      have HM2 := Lib.hid (HM.out.1.grown g2)
      have HG23 := Lib.hid HM2.out.lt.1
      clear hrow g2 HSK
      go_wp2_with fail
      refine (HHK.out w2 _ HG2.out HST.out (by rintro a n c ⟨⟩; exact HCAP.out)).mono ?_
      rintro e w3 ⟨hv, rfl, hrow3, g3⟩
      obtain ⟨ha, hc, rfl⟩ := slice_own' hrow3
      have HR3 := Lib.hid hrow3
      have HG3 := Lib.hid (grownBy_trans HG2.out g3)
      have HM3 := Lib.hid (HM2.out.grown g3)
      clear hrow3 g3 HM2 HST HHK
      go_wp2_with fail
      obtain ⟨w4, hW4⟩ : ∃ w4, w3.alloc (.cells #[.int .u32 T.turn, .slice ha T.recs.length hc, .int .i64 T.used] 163) = w4 := ⟨_, rfl⟩
      rw [hW4]
      have hg4 : w3.grownBy w4 none := by rw [← hW4]; exact World.grownBy_alloc _ _ _
      have hh4 : w4.heap[w3.heap.size]? = some (.cells #[.int .u32 T.turn, .slice ha T.recs.length hc, .int .i64 T.used] 163 (0, 0)) := by rw [← hW4]; exact heap_alloc_at _ _ _ rfl
      have k0 := cell_of hh4 0
      have k1 := cell_of hh4 1
      have k2 := cell_of hh4 2
      simp at k0 k1 k2
      have hM4 := HM3.out.grown hg4
      obtain ⟨_, _, _, c3, c4, c5, c6, _⟩ := hM4.at_
      have HM4 := Lib.hid (And.intro hM4 (own_turn HR3.out (S := fun _ => False) (Turn.of_grown hg4) (fun _ _ q => q)))
      have HG4 := Lib.hid (grownBy_trans HG3.out hg4)
      clear hg4 hh4 hW4 HM3 HG3 HR3 hM4
      go_upto_region 11 with (fail)
      go_cut [58] (fun tv wx => tv = .bool (decide (B.turn < T.turn)) ∧ Hid (w4.grownBy wx none))
      case first =>
        by_cases hgt : B.turn < T.turn
        · have h1 : (B.turn : Int) < (T.turn : Int) := by omega
          go_region
          all_goals
            go_wp2_with fail
            go_meet
            case rel => exact ⟨by first | rfl | (simp [hgt]), grownBy_drew (World.grownBy.refl _ _)⟩
        · have h1 : ¬ (B.turn : Int) < (T.turn : Int) := by omega
          go_region
          all_goals
            go_wp2_with fail
            go_meet
            case rel => exact ⟨by first | rfl | (simp [hgt]), grownBy_drew (World.grownBy.refl _ _)⟩
      case rest =>
        obtain ⟨rfl, HWX⟩ := hcut
        have g5 := HWX.out
        have k0' := g5.cell k0 (by simp)
        have k1' := g5.cell k1 (by simp)
        have k2' := g5.cell k2 (by simp)
        have hM5 := HM4.out.1.grown g5
        have HR5 := Lib.hid (own_turn HM4.out.2 (S := fun _ => False) (Turn.of_grown g5) (fun _ _ q => q))
        have HG5 := Lib.hid (grownBy_trans HG4.out g5)
        have HM5 := Lib.hid hM5
        clear k0 k1 k2 g5 HWX HM4 HG4 c3 c4 c5 c6
        by_cases hgt : B.turn < T.turn
        · rw [if_pos hgt] at hpk
          have hdd : decide (B.turn < T.turn) = true := by simp [hgt]
          rw [hdd]
          obtain ⟨_, _, _, c3, c4, c5, c6, _⟩ := hM5.at_
          have f3 := free_of hM5.blk 3
          have f4 := free_of hM5.blk 4
          have f5 := free_of hM5.blk 5
          have f6 := free_of hM5.blk 6
          have HPK := Lib.hid hpk
          clear hM5 hpk
          go_wp2_with fail
          go_region
          all_goals
            go_wp2_with fail
            go_roundw
            case rel =>
              have hlt5 := HR5.out.lt
              have tt : Turn (fun i => i = w.heap.size) wc ((((wc.setCell ⟨w.heap.size, 3, none⟩ (.int .i64 k)).setCell ⟨w.heap.size, 4, none⟩ (.int .u32 T.turn)).setCell ⟨w.heap.size, 5, none⟩ (.slice ha T.recs.length hc)).setCell ⟨w.heap.size, 6, none⟩ (.int .i64 T.used)).drew :=
                (((((Turn.refl (fun i => i = w.heap.size) wc).setCell (fun _ => rfl) _ _).setCell (fun _ => rfl) _ _).setCell (fun _ => rfl) _ _).setCell (fun _ => rfl) _ _).drew
              refine ⟨k + 1, .slice ha T.recs.length hc, by omega, by go_num, ⟨?_, ?_⟩, ?_⟩
              · rw [HPK.out]
                refine ⟨?_, own_turn (own_down HR5.out (Nat.zero_le _)) tt (fun x e q => by have := (hlt5 x e).1; have := HG23.out; omega)⟩
                show ((((wc.setCell _ _).setCell _ _).setCell _ _).setCell _ _).heap[w.heap.size]? = _
                rw [heap_setCell (heap_setCell (heap_setCell (heap_setCell HM5.out.blk 3 _) 4 _) 5 _) 6 _]
                have e1 := HB.out.1.1
                have e2 := HB.out.1.2.1
                have e3 := HB.out.1.2.2
                simp only [bookCells, e1, e2, e3]
                rfl
              · intro x e
                have := (hlt5 x e).1
                have := HG23.out
                omega
              · exact grownBy_drew (grownBy_setNew (grownBy_setNew (grownBy_setNew (grownBy_setNew HG5.out (Nat.le_refl _) _ _) (Nat.le_refl _) _ _) (Nat.le_refl _) _ _) (Nat.le_refl _) _ _)
            case measure => simp [intOf]; omega
        · rw [if_neg hgt] at hpk
          have hdd : decide (B.turn < T.turn) = false := by simp [hgt]
          rw [hdd]
          have HPK := Lib.hid hpk
          clear hM5 hpk
          go_wp2_with fail
          go_roundw
          case rel => exact ⟨k + 1, rv, by omega, by go_num, ⟨by rw [HPK.out]; exact HM5.out, HM.out.2⟩, HG5.out⟩
          case measure => simp [intOf]; omega
    · have hk2 : k = 2 := by omega
      subst hk2
      go_wp2_with fail
      go_returns
      exact ⟨_, rv, rfl, HM.out.1, Nat.le_refl _, fun x e => ⟨Nat.le_of_lt (HM.out.2 x e), by have := HM.out.2 x e; omega⟩, HG.out⟩
end Go.Proofs.YtbhoeiopckmfhaaGreatDoor

namespace Go.Proofs.YtbhoeiopckmfhaaGreatDoor
open Go.RowKit

theorem step_append_row {P : Program} (w : World) {ops : Array Oper} {o : Oper} {a : Act} {K : Act → World → Prop} {Q : Exit → Act → World → Prop} {E : Prop} (hgd : o.guard = none) (s x : Operand) (t : TypeId)
    (ho : o.op = .call { callee := .builtin .append, args := #[s, x], argTypes := #[t, t] })
    (base : Nat) (e : TypeId) (i : TypeInfo) (z : Value) (size bytes : Nat) (ht : P.underlying t = some (.slice e)) (hi : P.info? e = some i) (hz : i.zero = some z)
    (hsize : i.size = size) (hby : i.bytes = bytes) (hzs : z.cells.size = size) (hsz : 0 < size)
    (v : Value) (n : Nat) (xs : List Value) (hs : a.eval s = v) (hown : w.ownsRow base e size v n xs)
    (B2 m : Nat) (mv : Value) (news : List Value) (hx : a.eval x = mv) (hm : w.ownsRow B2 e size mv m news) (h1 : ∀ u ∈ news, u.oneCell' = true)
    (h63 : n + m ≤ maxLen) (hbytes : (n + m) * bytes ≤ 140737488355328) (hbase : base ≤ w.heap.size)
    (h : ∀ v' w', w'.ownsRow base e size v' (n + m) (xs ++ news) → w.grownBy w' v.ownBlock → (v'.ownBlock = v.ownBlock ∨ v'.ownBlock = some w.heap.size) → K (a.put o.dst v') w') :
    if Region.wanted o (yielded ops a.tmps) = true then Oper.wp P o a w K Q else E := by
  have hw : Region.wanted o (yielded ops a.tmps) = true := by simp [Region.wanted, hgd]
  rw [if_pos hw]
  rcases hm.2 with ⟨rfl, h0⟩ | ⟨g, cap, cur, rfl, hB, hg, hnc, hmm, hcs, htake⟩
  · subst h0
    have hn : news = [] := List.length_eq_zero_iff.1 (by rw [hm.1]; simp)
    subst hn
    have hrun := run_append_owned_none (P := P) (w := w) base t o.type e i size ht hi v n xs hown
    unfold Oper.wp execOp
    simp only [ho, resolve, invoke, builtin, Sem.run_bind, Sem.run_pure, Result.andThen_ok, List.map_toArray, List.map_cons, List.map_nil, hs, hx, hrun]
    exact h v w (by rw [List.append_nil]; exact hown) (World.grownBy.refl _ _) (Or.inl rfl)
  · obtain ⟨v', w', hr, h2, h3, _, h5⟩ := run_append_own_at (P := P) w base t o.type e i z size bytes ht hi hz hsize hby hzs hsz v n xs hown ⟨g, 0, none⟩ m cap news hm.1 (fun j u hu => by
      have hj := (List.getElem?_eq_some_iff.1 hu).1
      rw [show (⟨g, 0, none⟩ : Addr).add j = ⟨g, j, none⟩ from (by unfold Addr.add; split <;> simp_all), hm.cellAt j (by rw [← hm.1]; exact hj), hu]) h1 h63 hbytes hbase
    unfold Oper.wp execOp
    simp only [ho, resolve, invoke, builtin, Sem.run_bind, Sem.run_pure, Result.andThen_ok, List.map_toArray, List.map_cons, List.map_nil, hs, hx, hr]
    exact h v' w' h2 h3 h5
end Go.Proofs.YtbhoeiopckmfhaaGreatDoor
