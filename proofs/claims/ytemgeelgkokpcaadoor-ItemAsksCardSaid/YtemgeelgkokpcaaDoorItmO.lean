/- Nodes in memory: the law's own, the document's; items and nodes so far. No walk. -/
import Derived.Test.YtemgeelgkokpcaaDoorItmN
import Derived.Test.YtemgeelgkokpcaaDoorItmR
import Derived.Maps.AppendAt
import Derived.Laws.AppendOwnNone
namespace Go.Proofs.YtemgeelgkokpcaaDoor
open Go.RowKit

theorem cell_grown {w w' : World} {b o : Nat} {v : Value} (g : w.grownBy w' none) (h : w.cell? ⟨b, o, none⟩ = some v) : w'.cell? ⟨b, o, none⟩ = some v := by
  obtain ⟨x, hx⟩ := cell_heap h
  exact (World.cell?_of_block (a := ⟨b, o, none⟩) ((g.heap hx (by simp)).trans hx.symm)).trans h
def NodsAt (w : World) (v : Value) (L : List NodI) : Prop :=
  ∃ a cap, v = .slice a L.length cap ∧ ∀ i (h : i < L.length), ∃ g o, a = some ⟨g, o, none⟩ ∧ w.cell? ⟨g, o + i * 3, none⟩ = some (.int .i64 L[i].k) ∧ w.cell? ⟨g, o + i * 3 + 1, none⟩ = some (.int .i64 L[i].n) ∧ w.cell? ⟨g, o + i * 3 + 2, none⟩ = some (.string L[i].t)
theorem NodsAt.at_ {w : World} {a : Option Addr} {n cap : Nat} {L : List NodI} (h : NodsAt w (.slice a n cap) L) (i : Nat) (x : NodI) (hx : L[i]? = some x) : ∃ g o, a = some ⟨g, o, none⟩ ∧ w.cell? ⟨g, o + i * 3, none⟩ = some (.int .i64 x.k) ∧ w.cell? ⟨g, o + i * 3 + 1, none⟩ = some (.int .i64 x.n) ∧ w.cell? ⟨g, o + i * 3 + 2, none⟩ = some (.string x.t) := by
  obtain ⟨a', cap', e, hc⟩ := h
  cases e
  obtain ⟨hi, rfl⟩ := List.getElem?_eq_some_iff.1 hx
  exact hc i hi
theorem NodsAt.len {w : World} {a : Option Addr} {n cap : Nat} {L : List NodI} (h : NodsAt w (.slice a n cap) L) : L.length = n := by
  obtain ⟨_, _, e, _⟩ := h
  injection e with _ e _
  exact e.symm
theorem NodsAt.go {w w' : World} {v : Value} {L : List NodI} (h : NodsAt w v L) (g : w.grownBy w' none) : NodsAt w' v L := by
  obtain ⟨a, cap, e, hc⟩ := h
  refine ⟨a, cap, e, fun i hi => ?_⟩
  obtain ⟨b, o, e1, c0, c1, c2⟩ := hc i hi
  exact ⟨b, o, e1, cell_grown g c0, cell_grown g c1, cell_grown g c2⟩
def NodeR.cells (x : NodeR) : List Value := [.int .i64 x.k, .int .i64 x.n, .string x.t, .int .i64 x.c]
def nodV (L : List NodeR) : List Value := L.flatMap NodeR.cells
theorem nodV_len : ∀ L : List NodeR, (nodV L).length = L.length * 4
  | [] => rfl
  | x :: r => by
    have := nodV_len r
    have e : nodV (x :: r) = x.cells ++ nodV r := rfl
    rw [e, List.length_append, this, List.length_cons]
    show 4 + r.length * 4 = _
    omega
theorem nodV_append (L M : List NodeR) : nodV (L ++ M) = nodV L ++ nodV M := by simp [nodV]
theorem nodV_onecell (L : List NodeR) : ∀ u ∈ nodV L, u.oneCell' = true := by
  intro u hu
  obtain ⟨x, _, hx⟩ := List.mem_flatMap.1 hu
  simp only [NodeR.cells, List.mem_cons, List.not_mem_nil, or_false] at hx
  rcases hx with rfl | rfl | rfl | rfl <;> rfl
mutual
theorem nodT_len : ∀ t : Tr, (nodT t).length = cntT t
  | .num _ => by rw [nodT, cntT]; rfl
  | .text _ => by rw [nodT, cntT]; rfl
  | .list l => by rw [nodT, cntT, List.length_cons, nodTs_len l]
theorem nodTs_len : ∀ l : List Tr, (nodTs l).length = cntTs l
  | [] => by rw [nodTs, cntTs]; rfl
  | t :: r => by rw [nodTs, cntTs, List.length_append, nodT_len t, nodTs_len r]
end
theorem cntT_pos (t : Tr) : 1 ≤ cntT t := by cases t <;> rw [cntT] <;> omega
theorem infoNodR : (Tryd.prog.info? 44).map (fun i => (i.zero, i.size, i.bytes)) = some (some (.agg #[.int .i64 0, .int .i64 0, .string ⟨#[]⟩, .int .i64 0]), 4, 40) := by kernel_rfl
/-- items and nodes so far, each in a row of the call's own -/
structure ML (w : World) (acc : List Tr) (lv nv : Value) (wr : World) : Prop where
  row : ∃ vs, wr.ownsRow w.heap.size 24 1 lv acc.length vs ∧ AllAt wr (fun i => w.heap.size ≤ i ∧ lv.ownBlock ≠ some i ∧ nv.ownBlock ≠ some i) vs acc
  nod : wr.ownsRow w.heap.size 44 4 nv (nodTs acc).length (nodV (nodTs acc))
  ne : ∀ y, lv.ownBlock = some y → nv.ownBlock ≠ some y
  gr : w.grownBy wr none
  nil : acc = [] → nv = .slice none 0 0
theorem ML.start (w : World) : ML w [] (.slice none 0 0) (.slice none 0 0) w :=
  ⟨⟨[], World.ownsRow_nil _ _ _ _, AllAt.nil _ _⟩, World.ownsRow_nil _ _ _ _, fun y e => by simp [Value.ownBlock] at e, World.grownBy.refl _ _, fun _ => rfl⟩
theorem ML.forms {w : World} {acc : List Tr} {lv nv : Value} {wr : World} (h : ML w acc lv nv wr) : (∃ a c, lv = .slice a acc.length c) ∧ ∃ a c, nv = .slice a (nodTs acc).length c := by
  obtain ⟨vs, ho, _⟩ := h.row
  refine ⟨?_, ?_⟩
  · rcases own_formI ho with ⟨rfl, h0⟩ | ⟨g, cap, rfl⟩
    · exact ⟨none, 0, by rw [h0]⟩
    · exact ⟨_, _, rfl⟩
  · rcases own_formI h.nod with ⟨rfl, h0⟩ | ⟨g, cap, rfl⟩
    · exact ⟨none, 0, by rw [h0]⟩
    · exact ⟨_, _, rfl⟩
/-- the nodes, behind the item's append -/
theorem ML.nod5 {w : World} {acc : List Tr} {lv nv : Value} {wr w3 w5 : World} {v : Value} (h : ML w acc lv nv wr) (g3 : wr.grownBy w3 none) (g5 : (w3.alloc (.cells #[v] 24)).grownBy w5 lv.ownBlock) : w5.ownsRow w.heap.size 44 4 nv (nodTs acc).length (nodV (nodTs acc)) :=
  own_keepI (own_kept_I (own_kept_I h.nod g3) (World.grownBy_alloc w3 _ none)) g5 (fun y e q => h.ne y q e)
theorem nod_news {w : World} {B n c g : Nat} {L : List NodeR} (h : w.ownsRow B 44 4 (.slice (some ⟨g, 0, none⟩) n c) n (nodV L)) : ∀ j u, (nodV L)[j]? = some u → w.cell? ((⟨g, 0, none⟩ : Addr).add j) = some u := by
  intro j u hu
  have hj : j < n * 4 := by rw [← h.1]; exact (List.getElem?_eq_some_iff.1 hu).1
  rw [show (⟨g, 0, none⟩ : Addr).add j = ⟨g, j, none⟩ from (by unfold Addr.add; split <;> simp_all), h.cellAt j hj, hu]
/-- one more -/
theorem ML.push {w : World} {acc : List Tr} {lv nv : Value} {wr w3 w5 w6 : World} {v : Value} {t : Tr} {vs : List Value} {g c g2 c2 M : Nat} (h : ML w acc lv nv wr)
    (hvs : wr.ownsRow w.heap.size 24 1 lv acc.length vs) (hall : AllAt wr (fun i => w.heap.size ≤ i ∧ lv.ownBlock ≠ some i ∧ nv.ownBlock ≠ some i) vs acc)
    (hit : ItemAt w3 (fun i => wr.heap.size ≤ i) v t) (g3 : wr.grownBy w3 none)
    (g5 : (w3.alloc (.cells #[v] 24)).grownBy w5 lv.ownBlock) (ho : w5.ownsRow w.heap.size 24 1 (.slice (some ⟨g, 0, none⟩) (acc.length + 1) c) (acc.length + 1) (vs ++ [v])) (hor : lv.ownBlock = some g ∨ g = (w3.alloc (.cells #[v] 24)).heap.size) (hlt : g < w5.heap.size)
    (g6 : w5.grownBy w6 nv.ownBlock) (ho6 : w6.ownsRow w.heap.size 44 4 (.slice (some ⟨g2, 0, none⟩) M c2) M (nodV (nodTs acc) ++ nodV (nodT t))) (hor6 : nv.ownBlock = some g2 ∨ g2 = w5.heap.size) (hM : M = (nodTs (acc ++ [t])).length) :
    ML w (acc ++ [t]) (.slice (some ⟨g, 0, none⟩) (acc.length + 1) c) (.slice (some ⟨g2, 0, none⟩) M c2) w6 := by
  have hlb : ∀ y, lv.ownBlock = some y → w.heap.size ≤ y ∧ y < wr.heap.size := fun y e => hvs.lt y e
  have hnb : ∀ y, nv.ownBlock = some y → w.heap.size ≤ y ∧ y < wr.heap.size := fun y e => h.nod.lt y e
  have hs3 := g3.size
  have hs5 := g5.size
  have hs0 := h.gr.size
  rw [World.size_alloc] at hs5
  have k36 : ∀ i o, lv.ownBlock ≠ some i → nv.ownBlock ≠ some i → w3.heap[i]? = some o → w6.heap[i]? = some o := fun i o h1 h2 e => g6.heap (g5.heap ((World.grownBy_alloc w3 _ none).heap e (by simp)) h1) h2
  have e1 : ∀ i, (Value.slice (some ⟨g, 0, none⟩) (acc.length + 1) c).ownBlock = some i → g = i := fun i e => by simpa [Value.ownBlock] using e
  have e2 : ∀ i, (Value.slice (some ⟨g2, 0, none⟩) M c2).ownBlock = some i → g2 = i := fun i e => by simpa [Value.ownBlock] using e
  have hg1 : ∀ i, i < w3.heap.size → lv.ownBlock ≠ some i → (Value.slice (some ⟨g, 0, none⟩) (acc.length + 1) c).ownBlock ≠ some i := fun i hi hne e => by
    have e1 := e1 i e
    rcases hor with q | q
    · exact hne (by rw [q, e1])
    · rw [World.size_alloc] at q; omega
  have hg2 : ∀ i, i < w3.heap.size → nv.ownBlock ≠ some i → (Value.slice (some ⟨g2, 0, none⟩) M c2).ownBlock ≠ some i := fun i hi hne e => by
    have e2 := e2 i e
    rcases hor6 with q | q
    · exact hne (by rw [q, e2])
    · omega
  have hgn : nv.ownBlock ≠ some g := fun e => by
    rcases hor with q | q
    · exact h.ne g q e
    · have := hnb g e; rw [World.size_alloc] at q; omega
  have hgg : g ≠ g2 := fun e => by
    rcases hor6 with q | q
    · exact hgn (by rw [q, e])
    · omega
  refine ⟨⟨vs ++ [v], ?_, ?_⟩, ?_, ?_, ?_, fun q => by simp at q⟩
  · rw [List.length_append]
    exact own_keepI ho g6 (fun y e q => hgn (by rw [q, e1 y e]))
  · refine AllAt.push (AllAt.keep hall (fun i o p e => k36 i o p.2.1 p.2.2 (g3.heap e (by simp))) (fun i p hi => ⟨p.1, hg1 i (by omega) p.2.1, hg2 i (by omega) p.2.2⟩)) ?_
    exact ItemAt.keep (fun i o p e => k36 i o (fun q => by have := (hlb i q).2; omega) (fun q => by have := (hnb i q).2; omega) e) (fun i p hi => ⟨by omega, hg1 i hi (fun q => by have := (hlb i q).2; omega), hg2 i hi (fun q => by have := (hnb i q).2; omega)⟩) v t hit
  · rw [← hM, show nodTs (acc ++ [t]) = nodTs acc ++ nodT t by rw [nodTs_append, nodTs, nodTs, List.append_nil], nodV_append]
    exact ho6
  · intro y e q
    exact hgg ((e1 y e).trans (e2 y q).symm)
  · refine ⟨g6.os.trans (g5.os.trans (g3.os.trans h.gr.os)), g6.tape.trans (g5.tape.trans (g3.tape.trans h.gr.tape)), g6.output.trans (g5.output.trans (g3.output.trans h.gr.output)), by have := g6.size; omega, fun i hi _ => ?_⟩
    rw [g6.block i (by omega) (fun e => by have := (hnb i e.symm).1; omega), g5.block i (by rw [World.size_alloc]; omega) (fun e => by have := (hlb i e.symm).1; omega), Below.heap_alloc _ _ _ (by omega), g3.block i (by omega) (by simp), h.gr.block i hi (by simp)]
theorem own_lowI {w : World} {B B' n s : Nat} {t : TypeId} {v : Value} {xs : List Value} (h : w.ownsRow B t s v n xs) (hb : B' ≤ B) : w.ownsRow B' t s v n xs := by
  refine ⟨h.1, ?_⟩
  rcases h.2 with h' | ⟨g, cap, cur, e, hB, r⟩
  · exact .inl h'
  · exact .inr ⟨g, cap, cur, e, Nat.le_trans hb hB, r⟩
theorem grown_newI {w w1 w2 : World} {r : Option Nat} (g : w.grownBy w1 none) (h : w1.grownBy w2 r) (hn : ∀ y, r = some y → w.heap.size ≤ y) : w.grownBy w2 none := by
  have hs := g.size
  refine ⟨h.os.trans g.os, h.tape.trans g.tape, h.output.trans g.output, by have := h.size; omega, fun i hi _ => ?_⟩
  rw [h.block i (by omega) (fun e => by have := hn i e.symm; omega), g.block i hi (by simp)]
/-- append(v, row..): a row that may be empty -/
theorem wpList_append_rowI {P : Program} (w : World) {ops : Array Oper} {rest : List Oper} {o : Oper} {a : Act} {Q : Exit → Act → World → Prop} (hgd : o.guard = none) (s x : Operand) (t : TypeId)
    (ho : o.op = .call { callee := .builtin .append, args := #[s, x], argTypes := #[t, t] })
    (base : Nat) (e : TypeId) (i : TypeInfo) (z : Value) (size bytes : Nat) (ht : P.underlying t = some (.slice e)) (hi : P.info? e = some i) (hz : i.zero = some z)
    (hsize : i.size = size) (hby : i.bytes = bytes) (hzs : z.cells.size = size) (hsz : 0 < size)
    (v : Value) (n : Nat) (xs : List Value) (hs : a.eval s = v) (hown : w.ownsRow base e size v n xs)
    (B2 m : Nat) (mv : Value) (news : List Value) (hx : a.eval x = mv) (hm : w.ownsRow B2 e size mv m news) (h1 : ∀ u ∈ news, u.oneCell' = true)
    (h63 : n + m ≤ maxLen) (hbytes : (n + m) * bytes ≤ 140737488355328) (hbase : base ≤ w.heap.size)
    (h : ∀ v' w', w'.ownsRow base e size v' (n + m) (xs ++ news) → w.grownBy w' v.ownBlock → wpList P ops Q rest (a.put o.dst v') w') : wpList P ops Q (o :: rest) a w := by
  rcases hm.2 with ⟨rfl, h0⟩ | ⟨g, cap, cur, rfl, hB, hg, hnc, hmm, hcs, htake⟩
  · subst h0
    have hn : news = [] := List.length_eq_zero_iff.1 (by rw [hm.1]; simp)
    subst hn
    exact wpList_append_own_none hgd s x t ho base e i size ht hi v n xs hs hown hx (h v w (by rw [List.append_nil]; exact hown) (World.grownBy.refl _ _))
  · exact wpList_append_own_at w hgd s x t ho base e i z size bytes ht hi hz hsize hby hzs hsz v n xs hs hown ⟨g, 0, none⟩ m cap news hx hm.1 (fun j u hu => by
      have hj := (List.getElem?_eq_some_iff.1 hu).1
      rw [show (⟨g, 0, none⟩ : Addr).add j = ⟨g, j, none⟩ from (by unfold Addr.add; split <;> simp_all), hm.cellAt j (by rw [← hm.1]; exact hj), hu]) h1 h63 hbytes hbase fun v' w' h2 h3 _ _ => h v' w' h2 h3
end Go.Proofs.YtemgeelgkokpcaaDoor
