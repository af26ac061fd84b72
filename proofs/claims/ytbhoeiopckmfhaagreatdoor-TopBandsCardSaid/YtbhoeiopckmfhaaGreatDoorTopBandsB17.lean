/- The whole's TopBands: plain words, and what lies in memory at the heads of its loops. No walk. · trans's Make: what holds within one round of its loop. No walk. · Arguments opened: lists of pairs of texts (the whole's laws). No walk. -/
import Derived.Test.YtbhoeiopckmfhaaGreatDoorTopBandsB16
import Derived.Test.YtbhoeiopckmfhaaGreatDoorTopBandsB14
import Derived.Test.YtbhoeiopckmfhaaGreatDoorTopBandsB6
import Derived.Test.YtbhoeiopckmfhaaGreatDoorTopBandsB12
import Derived.Test.YtbhoeiopckmfhaaGreatDoorTopBandsB9
import Derived.Deep.Slices
import Derived.Deep.Fields
namespace Go.Proofs.YtbhoeiopckmfhaaGreatDoor
open Go.RowKit Go.Maps
attribute [local irreducible] shaL

def keyT (s : ByteArray) : ByteArray := tagS 1 [cut20 s]
theorem keyT_size (s : ByteArray) : (keyT s).size = 16 := tagS_size _ _
def itemT (p : PairS) : PairS := (keyT p.1, cut20 p.2)
def itemsT (L : List PairS) (k : Nat) : List PairS := (L.take k).map itemT
theorem itemsT_snoc (L : List PairS) (k : Nat) (h : k < L.length) : itemsT L (k + 1) = itemsT L k ++ [itemT L[k]] := by unfold itemsT; rw [List.take_succ_eq_append_getElem h, List.map_append, List.map_singleton]
theorem itemsT_end (L : List PairS) (k : Nat) (hk : k ≤ 8) (hl : k ≤ L.length) (h : ¬ (k < L.length ∧ k < 8)) : itemsT L k = itemsT L 8 := by
  unfold itemsT
  by_cases h8 : k < 8
  · have : L.length = k := by omega
    rw [List.take_of_length_le (by omega), List.take_of_length_le (by omega)]
  · have : k = 8 := by omega
    rw [this]
theorem itemsT_len (L : List PairS) (k : Nat) : (itemsT L k).length ≤ k := by unfold itemsT; rw [List.length_map]; exact List.length_take_le k L
theorem itemsT_ok (L : List PairS) (k : Nat) : ∀ x ∈ itemsT L k, x.1.size = 16 ∧ x.2.size ≤ 20 := by
  intro x hx
  obtain ⟨y, _, rfl⟩ := List.mem_map.1 hx
  exact ⟨keyT_size _, cut20_size _⟩
theorem itemsT_puts (L : List PairS) (k : Nat) (h : k < L.length) (M : List PairS) : putsM M (itemsT L (k + 1)) = setM (putsM M (itemsT L k)) (itemT L[k]) := by rw [itemsT_snoc L k h, putsM_snoc]
theorem bandL_snoc (L : List PairS) (k : Nat) (h : k < L.length) (d b : Nat) : bandL d b (itemsT L (k + 1)) = if bandN (itemT L[k]).1 d = b then bandL d b (itemsT L k) ++ [itemT L[k]] else bandL d b (itemsT L k) := by
  rw [itemsT_snoc L k h]
  unfold bandL
  rw [List.filter_append]
  by_cases hb : bandN (itemT L[k]).1 d = b
  · simp [hb]
  · simp [hb]
theorem TreeF.low {n0 n1 : Nat} {X : List Nat} {w : World} {b : Nat} {M : List PairS} {F : List Nat} (h : TreeF n1 [] w b M F) (hn : n0 ≤ n1) (hX : ∀ x ∈ X, x < n1) : TreeF n0 X w b M F := by
  obtain ⟨mv, h, rfl⟩ := h
  refine ⟨mv, ⟨h.blk, ⟨Nat.le_trans hn h.own.1, fun q => by have := hX _ q; have := h.own.1; omega⟩, ?_⟩, rfl⟩
  rcases h.map with hm | ⟨mb, D, rfl, h1, h2, h3, h4⟩
  · exact .inl hm
  · exact .inr ⟨mb, D, rfl, Nat.le_trans hn h1, fun q => by have := hX _ q; omega, h3, h4⟩
/-- at the head of the loop over the bands -/
structure TbAt (w : World) (M0 A : List PairS) (d b tb wb nb cap : Nat) (wr : World) : Prop where
  g : w.grownBy wr none
  row : wr.ownsRow w.heap.size 9 1 (.slice (some ⟨nb, 0, none⟩) (2 ^ d) cap) (2 ^ d) (strsV (nodesB (uptoM M0 A d b) d))
  tree : ∃ F, TreeF w.heap.size [nb] wr tb (uptoM M0 A d b) F ∧ TreeK w.heap.size (nb :: F) wr wb M0
  nlt : w.heap.size ≤ nb ∧ nb < wr.heap.size
section
variable {w wr w5 w6 w7 : World} {M0 A : List PairS} {d b tb ub wb nb cap : Nat}
theorem TbAt.grow (h : TbAt w M0 A d b tb wb nb cap wr) (k : wr.grownBy w5 none) : TbAt w M0 A d b tb wb nb cap w5 := by
  obtain ⟨F, h1, h2⟩ := h.tree
  exact ⟨grownBy_trans h.g k, own_turn h.row (Turn.of_grown (S := fun _ => False) k) (fun _ _ q => q), ⟨F, h1.grown k, h2.grown k⟩, h.nlt.1, Nat.lt_of_lt_of_le h.nlt.2 k.size⟩
theorem TbAt.next (h : TbAt w M0 A d b tb wb nb cap wr) (hb : b < 2 ^ d) (g5 : wr.grownBy w5 none) (hT : TreeK w5.heap.size [] w6 ub (uptoM M0 A d (b + 1))) (g6 : w5.grownBy w6 none) (g7 : w6.grownBy w7 none) {x : ByteArray} (hx : x = nodeB (uptoM M0 A d (b + 1)) d b) :
    TbAt w M0 A d (b + 1) ub wb nb cap (w7.setCell ⟨nb, b, none⟩ (.string x)) := by
  subst hx
  have gg := grownBy_trans (grownBy_trans g5 g6) g7
  have h7 := h.grow gg
  have hs := h7.row.stored b (.string (nodeB (uptoM M0 A d (b + 1)) d b))
  have t8 : Turn (fun i => i = nb) w7 (w7.setCell ⟨nb, b, none⟩ (.string (nodeB (uptoM M0 A d (b + 1)) d b))) := (Turn.refl (fun i => i = nb) w7).setCell (fun _ => rfl) _ _
  have hg8 : w.grownBy (w7.setCell ⟨nb, b, none⟩ (.string (nodeB (uptoM M0 A d (b + 1)) d b))) none := grownBy_below ((t8.mono (T := rest w.heap.size []) (fun i _ e => ⟨by rw [e]; exact h.nlt.1, by simp⟩)).bel (below_grownBy h7.g) h7.g.size)
  obtain ⟨F, hF⟩ := hT.f
  have hlt := hF.lt
  have h5 := h.grow g5
  have nlt5 := h5.nlt
  refine ⟨hg8, ?_, ⟨F, ?_, ?_⟩, h.nlt.1, ?_⟩
  · have e : strsV (nodesB (uptoM M0 A d (b + 1)) d) = (strsV (nodesB (uptoM M0 A d b) d)).set b (.string (nodeB (uptoM M0 A d (b + 1)) d b)) := by
      rw [upto_set M0 A d b hb]
      unfold strsV nodeB
      rw [List.map_set]
    rw [e]
    exact hs.1
  · refine ((hF.low (X := [nb]) h5.g.size (fun x hx => ?_)).grown g7).turn t8 (fun i hi e => ?_) (fun i hi => .inl hi)
    · have : x = nb := by simpa using hx
      omega
    · have := (hlt i hi).1
      omega
  · obtain ⟨F0, _, h2⟩ := h5.tree
    have h3 : TreeK w.heap.size (nb :: F) w7 wb M0 := h2.more (grownBy_trans g6 g7) (fun i hi => by
      rcases List.mem_cons.1 hi with rfl | hi
      · exact .inl (by simp)
      · exact .inr (hlt i hi).1)
    exact h3.turn t8 (fun i _ e => by rw [e]; simp) (fun i hi => .inl hi)
  · rw [World.size_setCell]
    exact h7.nlt.2
end
theorem infoChg : (Tryz.prog.info? 84).map (fun i => (i.zero, i.size, i.bytes)) = some (some (.agg #[.string ⟨#[]⟩, .string ⟨#[]⟩]), 2, 32) := by kernel_rfl
theorem pairs_ownC {w : World} {B : Nat} {v : Value} {M : List PairS} (h : w.ownsRow B 84 2 v M.length (pv M)) : PairsAt w v M := by
  rcases h.2 with ⟨rfl, h0⟩ | ⟨g, cap, cur, rfl, hB, hg, h1, h2, h3, h4⟩
  · exact ⟨none, 0, by rw [h0], by omega, by unfold maxLen; omega, fun i hi => by omega⟩
  · refine ⟨some ⟨g, 0, none⟩, cap, rfl, h1, h2, fun i hi => ⟨g, 0, rfl, ?_, ?_⟩⟩
    · have := (pv_at M i hi).1
      rw [← h4, List.getElem?_take, if_pos (by omega)] at this
      rw [Nat.zero_add, cell_of hg]
      simpa using this
    · have := (pv_at M i hi).2
      rw [← h4, List.getElem?_take, if_pos (by omega)] at this
      rw [Nat.zero_add, cell_of hg]
      simpa using this
theorem own_twoC (w : World) (a b : Value) : (w.alloc (.cells #[a, b] 84)).ownsRow 0 84 2 (.slice (some ⟨w.heap.size, 0, none⟩) 1 1) 1 [a, b] :=
  ⟨rfl, .inr ⟨w.heap.size, 1, #[a, b], rfl, Nat.zero_le _, heap_alloc_at w _ _ rfl, Nat.le_refl _, by unfold maxLen; omega, rfl, rfl⟩⟩
theorem TbAt.start {w wc w4 w5 : World} {M0 A : List PairS} {d tb wb nb cap : Nat} {F : List Nat} (hF : TreeF w.heap.size [] wc tb M0 F) (g : w.grownBy wc none) (g4 : wc.grownBy w4 none) (hW : TreeK w.heap.size F w4 wb M0) (g5 : w4.grownBy w5 none)
    (hrow : w5.ownsRow w4.heap.size 9 1 (.slice (some ⟨nb, 0, none⟩) (2 ^ d) cap) (2 ^ d) (strsV (nodesB M0 d))) : TbAt w M0 A d 0 tb wb nb cap w5 := by
  have hnb := hrow.lt nb rfl
  have g6 := grownBy_trans g g4
  have h1 := g6.size
  refine ⟨grownBy_trans g6 g5, own_low2 hrow h1, ⟨F, ?_, ?_⟩, by omega, hnb.2⟩
  · refine (hF.grown g4).turn (Turn.of_grown (S := fun _ => False) g5) (fun _ _ q => q) (fun i hi => ?_)
    have : i = nb := by simpa using hi
    exact .inr (by omega)
  · refine hW.more g5 (fun i hi => ?_)
    rcases List.mem_cons.1 hi with rfl | hi
    · exact .inr hnb.1
    · exact .inl hi
/-- behind the bands: the other tree is put into -/
structure TbPt (w : World) (M0 A : List PairS) (d k tb wb nb cap : Nat) (wr : World) : Prop where
  g : w.grownBy wr none
  row : wr.ownsRow w.heap.size 9 1 (.slice (some ⟨nb, 0, none⟩) (2 ^ d) cap) (2 ^ d) (strsV (nodesB (uptoM M0 A d (2 ^ d)) d))
  tree : ∃ F, TreeF w.heap.size [nb] wr tb (uptoM M0 A d (2 ^ d)) F ∧ TreeK w.heap.size (nb :: F) wr wb (putsM M0 (A.take k)) ∧ (∀ i ∈ nb :: F, i < wr.heap.size)
section
variable {w wr w5 w6 w7 : World} {M0 A : List PairS} {d k tb wb nb cap : Nat}
theorem TbAt.pt (h : TbAt w M0 A d (2 ^ d) tb wb nb cap wr) : TbPt w M0 A d 0 tb wb nb cap wr := by
  obtain ⟨F, h1, h2⟩ := h.tree
  refine ⟨h.g, h.row, F, h1, h2, fun i hi => ?_⟩
  rcases List.mem_cons.1 hi with rfl | hi
  · exact h.nlt.2
  · exact (h1.lt i hi).2.1
theorem TbPt.grow (h : TbPt w M0 A d k tb wb nb cap wr) (q : wr.grownBy w5 none) : TbPt w M0 A d k tb wb nb cap w5 := by
  obtain ⟨F, h1, h2, h3⟩ := h.tree
  exact ⟨grownBy_trans h.g q, own_turn h.row (Turn.of_grown (S := fun _ => False) q) (fun _ _ e => e), ⟨F, h1.grown q, h2.grown q, fun i hi => Nat.lt_of_lt_of_le (h3 i hi) q.size⟩⟩
theorem TbPt.next {F : List Nat} {x : PairS} (h : TbPt w M0 A d k tb wb nb cap wr) (hF : TreeF w.heap.size [nb] wr tb (uptoM M0 A d (2 ^ d)) F) (h3 : ∀ i ∈ nb :: F, i < wr.heap.size) (hT : TreeK w.heap.size (nb :: F) w5 wb (setM (putsM M0 (A.take k)) x)) (t : Turn (rest w.heap.size (nb :: F)) wr w5)
    (hx : putsM M0 (A.take (k + 1)) = setM (putsM M0 (A.take k)) x) : TbPt w M0 A d (k + 1) tb wb nb cap w5 := by
  refine ⟨grownBy_below (t.bel (below_grownBy h.g) h.g.size), own_turn h.row t (fun g e q => q.2 ?_), F, hF.turn t (fun i hi q => q.2 (List.mem_cons_of_mem _ hi)) (fun i hi => .inl hi), by rw [hx]; exact hT, fun i hi => Nat.lt_of_lt_of_le (h3 i hi) t.size⟩
  have : nb = g := by simpa [Value.ownBlock] using e
  simp [this]
end
end Go.Proofs.YtbhoeiopckmfhaaGreatDoor

namespace Go.Proofs.YtbhoeiopckmfhaaGreatDoor
open Go.RowKit Go.Maps
attribute [local irreducible] shaL

theorem slice_own6 {w : World} {B n : Nat} {t : TypeId} {v : Value} {xs : List Value} (h : w.ownsRow B t 6 v n xs) : ∃ a cap, v = .slice a n cap := by
  rcases h.2 with ⟨rfl, rfl⟩ | ⟨g, cap, cur, rfl, _⟩
  · exact ⟨none, 0, rfl⟩
  · exact ⟨_, _, rfl⟩
theorem slice_pos {w : World} {B n s : Nat} {t : TypeId} {v : Value} {xs : List Value} (h : w.ownsRow B t s v n xs) (hn : 0 < n) : ∃ g cap, v = .slice (some ⟨g, 0, none⟩) n cap := by
  rcases h.2 with ⟨_, h0⟩ | ⟨g, cap, cur, rfl, _⟩
  · omega
  · exact ⟨g, cap, rfl⟩
theorem own_step1 (w : World) (a b c d e f : Value) : (w.alloc (.cells #[a, b, c, d, e, f] 148)).ownsRow 0 148 6 (.slice (some ⟨w.heap.size, 0, none⟩) 1 1) 1 [a, b, c, d, e, f] :=
  ⟨rfl, .inr ⟨w.heap.size, 1, #[a, b, c, d, e, f], rfl, Nat.zero_le _, heap_alloc_at w _ _ rfl, Nat.le_refl _, by decide, rfl, rfl⟩⟩
theorem OwnP.slice {w : World} {bv : Value} {M : List PairS} {k : ByteArray} {d : Nat} (h : OwnP w bv M k d) : ∃ a n c, bv = .slice a n c := by
  obtain ⟨B, hB⟩ := h.row
  obtain ⟨a, c, e⟩ := slice_own' hB
  exact ⟨a, _, c, e⟩
/-- the caller's own blocks within a round -/
def roundX (CB BB XB : Nat) (sv : Value) (S : List StepS) : List Nat := CB :: BB :: (BB + 1) :: (BB + 1 + 1) :: XB :: (ownT sv ++ stepBs S)
structure RoundAt (w : World) (M : List PairS) (d b BB XB CB ub : Nat) (old : ByteArray) (S : List StepS) (sv : Value) (y0 y1 : ByteArray) (wr W7 : World) : Prop where
  m : MkAt w M d b BB (BB + 1) (BB + 1 + 1) XB ub old S sv wr
  g : wr.grownBy W7 none
  cb : W7.heap[CB]? = some (.cells #[.string y0, .string y1] 84 (0, 0))
  cl : wr.heap.size = CB
  ready : ShaReady w
  bandk : bandN y0 d = b
  k16 : y0.size = 16
  v1000 : y1.size ≤ 1000
  plain : Plain (putsM M (kvS S))
  vals : ∀ x ∈ putsM M (kvS S), x.2.size ≤ 1000
  few : (putsM M (kvS S)).length < 1000000
  d4 : d ≤ 4
/-- behind the call of stepOn -/
structure StepIn (w : World) (M : List PairS) (d BB XB CB ub : Nat) (S : List StepS) (sv : Value) (y0 y1 : ByteArray) (W7 : World) (bv : Value) (w2 : World) : Prop where
  own : OwnP w2 bv (putsM M (kvS S)) y0 d
  new : ∀ g, bv.ownBlock = some g → W7.heap.size ≤ g
  tree : TreeK w.heap.size (ownT bv ++ roundX CB BB XB sv S) w2 ub (setM (putsM M (kvS S)) (y0, y1))
  turn : Turn (rest w.heap.size (roundX CB BB XB sv S)) W7 w2
/-- what the region's loads read -/
def Reads (BB XB CB d : Nat) (sv : Value) (y0 y1 : ByteArray) (w' : World) : Prop :=
  w'.cell? ⟨XB, 4, none⟩ = some sv ∧ w'.cell? ⟨CB, 0, none⟩ = some (.string y0) ∧ w'.cell? ⟨CB, 1, none⟩ = some (.string y1) ∧ w'.cell? ⟨BB + 1, 0, none⟩ = some (.int .i64 d)
section
variable {w wr W7 w2 w3 w4 : World} {M : List PairS} {d b BB XB CB ub : Nat} {old y0 y1 : ByteArray} {S : List StepS} {sv bv : Value}
theorem reads_of (h : RoundAt w M d b BB XB CB ub old S sv y0 y1 wr W7) {w' : World} (k : ∀ x ∈ [BB + 1, XB, CB], ∀ oo, W7.heap[x]? = some oo → w'.heap[x]? = some oo) : Reads BB XB CB d sv y0 y1 w' := by
  have m7 := h.m.grow h.g
  have hx := k XB (by simp) _ m7.xb
  have hd := k (BB + 1) (by simp) _ m7.db
  have hc := k CB (by simp) _ h.cb
  exact ⟨by rw [cell_of hx]; rfl, by rw [cell_of hc]; rfl, by rw [cell_of hc]; rfl, by rw [cell_of hd]; rfl⟩
theorem RoundAt.blts (h : RoundAt w M d b BB XB CB ub old S sv y0 y1 wr W7) : ∀ x ∈ roundX CB BB XB sv S, x < W7.heap.size := by
  intro x hx
  rcases List.mem_cons.1 hx with rfl | hx
  · exact (Array.getElem?_eq_some_iff.1 h.cb).1
  · exact (h.m.grow h.g).blts x hx
theorem RoundAt.tree7 (h : RoundAt w M d b BB XB CB ub old S sv y0 y1 wr W7) : TreeK w.heap.size (roundX CB BB XB sv S) W7 ub (putsM M (kvS S)) := h.m.tree.more h.g (fun i hi => by
  rcases List.mem_cons.1 hi with rfl | hi
  · exact .inr (by have := h.cl; omega)
  · exact .inl hi)
theorem RoundAt.step (h : RoundAt w M d b BB XB CB ub old S sv y0 y1 wr W7) :
    Calls Tryz.prog 70 #[.agg #[.string y0, .string y1], .pointer (some ⟨ub, 0, none⟩), .int .i64 d] W7 fun e w' => ∃ pa pn pc q1 q2 q3, e = .returned (.agg #[.string y0, .string y1, .slice pa pn pc, .bool q1, .string q2, .string q3]) ∧
      Hid (StepS.cells ⟨y0, y1, putsM M (kvS S), .slice pa pn pc⟩ d = [.string y0, .string y1, .slice pa pn pc, .bool q1, .string q2, .string q3]) ∧ Hid (StepIn w M d BB XB CB ub S sv y0 y1 W7 (.slice pa pn pc) w') := by
  refine (stepOn_any w h.ready ub _ (putsM M (kvS S)) y0 y1 d W7 (grownBy_trans h.m.g h.g) h.tree7 h.plain h.vals h.k16 h.v1000 (by have := h.d4; omega) h.blts h.few).mono ?_
  rintro e w' ⟨bv, rfl, hOP, hbv, hT', ht⟩
  obtain ⟨pa, pn, pc, rfl⟩ := hOP.slice
  exact ⟨pa, pn, pc, _, _, _, rfl, Lib.hid rfl, Lib.hid ⟨hOP, hbv, hT', ht⟩⟩
theorem RoundAt.r0 (h : RoundAt w M d b BB XB CB ub old S sv y0 y1 wr W7) : Reads BB XB CB d sv y0 y1 W7 := reads_of h fun _ _ _ q => q
theorem RoundAt.h2 (_ : RoundAt w M d b BB XB CB ub old S sv y0 y1 wr W7) (q : StepIn w M d BB XB CB ub S sv y0 y1 W7 bv w2) : ∀ x ∈ [BB + 1, XB, CB], ∀ oo, W7.heap[x]? = some oo → w2.heap[x]? = some oo := fun x hx oo hh =>
  q.turn.inX (by unfold roundX; simp at hx ⊢; omega) hh
theorem RoundAt.r2 (h : RoundAt w M d b BB XB CB ub old S sv y0 y1 wr W7) (q : StepIn w M d BB XB CB ub S sv y0 y1 W7 bv w2) : Reads BB XB CB d sv y0 y1 w2 := reads_of h (h.h2 q)
theorem RoundAt.r3 (h : RoundAt w M d b BB XB CB ub old S sv y0 y1 wr W7) (q : StepIn w M d BB XB CB ub S sv y0 y1 W7 bv w2) (g3 : w2.grownBy w3 none) : Reads BB XB CB d sv y0 y1 w3 :=
  reads_of h fun x hx oo hh => g3.heap (h.h2 q x hx oo hh) (by simp)
theorem RoundAt.r4 (h : RoundAt w M d b BB XB CB ub old S sv y0 y1 wr W7) (q : StepIn w M d BB XB CB ub S sv y0 y1 W7 bv w2) (g3 : w2.grownBy w3 none) (g4 : w3.grownBy w4 sv.ownBlock) : Reads BB XB CB d sv y0 y1 w4 :=
  reads_of h fun x hx oo hh => g4.heap (g3.heap (h.h2 q x hx oo hh) (by simp)) (fun e => by
    have e : sv.ownBlock = some x := by first | exact e | exact e.symm
    have h1 := (h.m.far x e).1
    have h2 := h.m.row.lt x e
    have h3 := h.cl
    simp at hx h1
    omega)
theorem RoundAt.x4 (h : RoundAt w M d b BB XB CB ub old S sv y0 y1 wr W7) (q : StepIn w M d BB XB CB ub S sv y0 y1 W7 bv w2) (g3 : w2.grownBy w3 none) (g4 : w3.grownBy w4 sv.ownBlock) : w4.heap[XB]? = some (.cells #[.int .i64 b, .int .i64 d, .string old, .string ⟨#[]⟩, sv] 57 (0, 0)) :=
  g4.heap (g3.heap (h.h2 q XB (by simp) _ (h.m.grow h.g).xb) (by simp)) (fun e => by
    have e : sv.ownBlock = some XB := by first | exact e | exact e.symm
    have h1 := (h.m.far XB e).1
    simp at h1)
theorem RoundAt.row3 (h : RoundAt w M d b BB XB CB ub old S sv y0 y1 wr W7) (q : StepIn w M d BB XB CB ub S sv y0 y1 W7 bv w2) (g3 : w2.grownBy w3 none) : w3.ownsRow w.heap.size 148 6 sv S.length (stepsV d S) :=
  own_turn (own_turn (h.m.grow h.g).row q.turn (fun g e k => k.2 (by simp [roundX, ownT_mem.2 e]))) (Turn.of_grown (S := fun _ => False) g3) (fun _ _ k => k)
theorem RoundAt.base3 (h : RoundAt w M d b BB XB CB ub old S sv y0 y1 wr W7) (q : StepIn w M d BB XB CB ub S sv y0 y1 W7 bv w2) (g3 : w2.grownBy w3 none) : w.heap.size ≤ w3.heap.size := by
  have h1 := (grownBy_trans h.m.g h.g).size
  have h2 := q.turn.size
  have h3 := g3.size
  omega
theorem RoundAt.next (h : RoundAt w M d b BB XB CB ub old S sv y0 y1 wr W7) (q : StepIn w M d BB XB CB ub S sv y0 y1 W7 bv w2) {o : Obj} {g4 c4 : Nat} {C : List Value} (hC : StepS.cells ⟨y0, y1, putsM M (kvS S), bv⟩ d = C)
    (hrow : w4.ownsRow w.heap.size 148 6 (.slice (some ⟨g4, 0, none⟩) (S.length + 1) c4) (S.length + 1) (stepsV d S ++ C)) (hg : (w2.alloc o).grownBy w4 sv.ownBlock)
    (hv : (Value.slice (some ⟨g4, 0, none⟩) (S.length + 1) c4).ownBlock = sv.ownBlock ∨ (Value.slice (some ⟨g4, 0, none⟩) (S.length + 1) c4).ownBlock = some (w2.alloc o).heap.size) :
    MkAt w M d b BB (BB + 1) (BB + 1 + 1) XB ub old (S ++ [⟨y0, y1, putsM M (kvS S), bv⟩]) (.slice (some ⟨g4, 0, none⟩) (S.length + 1) c4) (w4.setCell ⟨XB, 4, none⟩ (.slice (some ⟨g4, 0, none⟩) (S.length + 1) c4)) :=
  (h.m.grow h.g).next h.ready h.bandk h.v1000 q.own q.new q.tree q.turn (by rw [hC]; exact hrow) hg (by
    rcases hv with e | e
    · left; rw [← e]; rfl
    · right; exact Option.some.inj (show some g4 = some (w2.alloc o).heap.size from e))
end
theorem kvS_next {S : List StepS} {L : List PairS} {y0 y1 : ByteArray} (h : kvS S = L.take S.length) (hl : S.length < L.length) (hy : L[S.length] = (y0, y1)) (N : List PairS) (bv : Value) :
    kvS (S ++ [⟨y0, y1, N, bv⟩]) = L.take (S.length + 1) ∧ (S ++ [(⟨y0, y1, N, bv⟩ : StepS)]).length = S.length + 1 := by
  refine ⟨?_, by simp⟩
  rw [List.take_succ_eq_append_getElem hl, hy, ← h]
  simp [kvS]
end Go.Proofs.YtbhoeiopckmfhaaGreatDoor

namespace Go.Proofs.YtbhoeiopckmfhaaGreatDoor
open Go.RowKit Go.ChangeShapes Go.WideShapes Go.Deep

section
variable {H : Type} {enc : TypeId × Value → H} {P : Program} {w : World} {base : Nat} {spare : Nat → Bool} {held : Bool}
theorem open_slice_fieldsQ {t e : TypeId} {fs : Array Field} {fuel : Nat} {cs : List Value} {x : DataW H × List MemPlace} (ht : P.underlying t = some (.slice e)) (he : P.underlying e = some (.struct fs))
    (hone : oneCellFields P fs = true) (hC : P.cellsOf e = fs.size) (h : DataW.trod enc P w base spare held fuel t cs = some x) :
    (cs = [.slice none 0 0]) ∨
    ∃ (a : Addr) (len cap m : Nat), cs = [.slice (some a) len cap] ∧ len ≤ cap ∧ cap ≤ maxLen ∧ len ≤ m ∧
      ∀ i, i < m → ∃ n : Nat, ∀ (j : Nat) (f : Field), fs[j]? = some f → ∃ (v : Value) (y : DataW H × List MemPlace), w.cell? (a.add (i * fs.size + j)) = some v ∧ DataW.trod enc P w base spare held n f.type [v] = some y := by
  rcases open_slice ht h with h0 | ⟨a, len, cap, m, n, D, Pl, hcs, hb, hl, hm, hmm, hx, hi⟩
  · exact .inl h0.1
  · refine .inr ⟨a, len, cap, m, hcs, hl, hm, by rw [hmm]; split <;> omega, fun i him => ?_⟩
    obtain ⟨cs', hc, ht'⟩ := hi i him
    rw [hC] at hc
    obtain ⟨ys, n', hn', hy, hlen, hyl, hf⟩ := DataW.trod_struct he ht'
    obtain ⟨_, hcl, hat⟩ := World.cells?_some hc
    refine ⟨n', fun j f hj => ?_⟩
    obtain ⟨ho, hk⟩ := hone_of hone j f hj
    have hjl : j < fs.size := (Array.getElem?_eq_some_iff.1 hj).1
    have hcell := hat j hjl
    have hv : cs'[j]? = some (cs'[j]'(by omega)) := List.getElem?_eq_getElem (by omega)
    have h1 := hf j f hj
    rw [ho, hk] at h1
    have hone' : (cs'.drop j).take 1 = [cs'[j]'(by omega)] := by
      rw [List.drop_eq_getElem_cons (by omega)]
      rfl
    rw [hone'] at h1
    have hys : ys[j]? = some (ys[j]'(by omega)) := List.getElem?_eq_getElem (by omega)
    refine ⟨_, _, ?_, h1.trans hys⟩
    rw [← Go.Deep.add_add, hcell, hv]
end
theorem cellsPutT : Tryz.prog.cellsOf 77 = 2 := by kernel_rfl
/-- a list of pairs of texts: nil, or cells -/
theorem open_pairs {H : Type} {enc : TypeId × Value → H} {w : World} {base : Nat} {spare : Nat → Bool} {held : Bool} {a0 : Option Addr} {len cap : Nat} {d : DataW H} {p : List MemPlace}
    (h : DataW.Trod enc Tryz.prog w base spare held 71 (.slice a0 len cap) d p) : ∃ L : List PairS, PairsAt w (.slice a0 len cap) L ∧ (∀ x ∈ L, x.1.size ≤ maxLen ∧ x.2.size ≤ maxLen) ∧ len ≤ maxLen := by
  obtain ⟨fuel, hf⟩ := h
  rcases open_slice_fieldsQ Tryz.underlying71 Tryz.underlying77 (by kernel_rfl) cellsPutT hf with hcs | ⟨a, len', cap', m, hcs, hl, hm, hmm, hi⟩
  · have hv : Value.slice a0 len cap = .slice none 0 0 := by simpa [Value.cells] using hcs
    cases hv
    exact ⟨[], ⟨none, 0, rfl, Nat.zero_le _, Nat.zero_le _, fun i h => absurd h (by simp)⟩, by simp, by unfold maxLen; omega⟩
  · have hv : Value.slice a0 len cap = .slice (some a) len' cap' := by simpa [Value.cells] using hcs
    cases hv
    have each : ∀ i, ∃ x : PairS, i < len → ∃ g o, a = ⟨g, o, none⟩ ∧ w.cell? ⟨g, o + i * 2, none⟩ = some (.string x.1) ∧ w.cell? ⟨g, o + i * 2 + 1, none⟩ = some (.string x.2) ∧ x.1.size ≤ maxLen ∧ x.2.size ≤ maxLen := by
      intro i
      by_cases hlt : i < len
      · obtain ⟨n, hj⟩ := hi i (by omega)
        obtain ⟨v0, y0, c0, t0⟩ := hj 0 _ rfl
        obtain ⟨v1, y1, c1, t1⟩ := hj 1 _ rfl
        obtain ⟨x0, e0, f0, w0⟩ := DataW.trod_string Tryz.underlying9 t0
        obtain ⟨x1, e1, f1, w1⟩ := DataW.trod_string Tryz.underlying9 t1
        simp only [List.cons.injEq, and_true] at e0 e1
        subst e0 e1
        obtain ⟨nz, hjz⟩ := hi 0 (by omega)
        obtain ⟨vz, yz, cz, _⟩ := hjz 0 _ rfl
        have hs := World.cell?_spot cz
        obtain ⟨g, o, sp⟩ := a
        have hsp : sp = none := by simpa [Addr.add] using hs
        subst hsp
        refine ⟨(x0, x1), fun _ => ⟨g, o, rfl, ?_, ?_, ?_, ?_⟩⟩
        · have := cell_plain' c0
          rw [← Nat.add_assoc, Nat.add_zero] at this
          exact this
        · have := cell_plain' c1
          rw [← Nat.add_assoc] at this
          exact this
        · simpa using w0
        · simpa using w1
      · exact ⟨(ByteArray.empty, ByteArray.empty), fun h => absurd h hlt⟩
    obtain ⟨L, hL⟩ := Classical.axiomOfChoice each
    have hlen : ((List.range len).map L).length = len := by simp
    refine ⟨(List.range len).map L, ⟨some a, cap, by rw [hlen], by rw [hlen]; exact hl, hm, fun i hi => ?_⟩, ?_, by omega⟩
    · rw [hlen] at hi
      obtain ⟨g, o, rfl, h1, h2, _⟩ := hL i hi
      refine ⟨g, o, rfl, ?_, ?_⟩ <;> rw [List.getElem_map, List.getElem_range] <;> assumption
    · intro x hx
      obtain ⟨i, hi, rfl⟩ := List.mem_map.1 hx
      obtain ⟨_, _, _, _, _, h3, h4⟩ := hL i (List.mem_range.1 hi)
      exact ⟨h3, h4⟩
end Go.Proofs.YtbhoeiopckmfhaaGreatDoor
