/- What lies in memory in the law SectorKeeps. No walk. -/
import Derived.Test.YtolddjihkabgpaaSecKp
import Derived.Deep.DeepCutAuto
import Derived.Deep.CutBlock
import Derived.Deep.RegionWith
namespace Go.Proofs.Ytolddjihkabgpaa
open Go.RowKit

/-- a list of acts: the sector's number and the text of each -/
def ActsAt (w : World) (v : Value) (L : List (Int × ByteArray)) : Prop :=
  ∃ a cap, v = .slice a L.length cap ∧ ∀ i (h : i < L.length), ∃ g o, a = some ⟨g, o, none⟩ ∧ w.cell? ⟨g, o + i * 5 + 1, none⟩ = some (.int .i64 (L[i]).1) ∧ w.cell? ⟨g, o + i * 5 + 3, none⟩ = some (.string (L[i]).2)
theorem ActsAt.below {n0 : Nat} {w w' : World} {v : Value} {L : List (Int × ByteArray)} (h : ActsAt w v L) (hn : n0 = w.heap.size) (k : Below n0 w w') : ActsAt w' v L := by
  subst hn
  obtain ⟨a, cap, e, hc⟩ := h
  refine ⟨a, cap, e, fun i hi => ?_⟩
  obtain ⟨g, o, e2, h1, h2⟩ := hc i hi
  exact ⟨g, o, e2, (k.cell (p := ⟨g, o + i * 5 + 1, none⟩) (cell_lt h1)).trans h1, (k.cell (p := ⟨g, o + i * 5 + 3, none⟩) (cell_lt h2)).trans h2⟩

/-- what lies there in the first part: the disk, the texts that are read -/
structure KA (w wr : World) (b LB TB : Nat) (D : DiskS) : Prop where
  disk : KDisk w.heap.size [TB, LB] wr b D
  bel : Below w.heap.size w wr
  tb : wr.heap[TB]? = some (.cells (strV (List.replicate 4 ⟨#[]⟩)).toArray 47 (0, 0))
  on : D.on = true
  fuse : D.fuse = -1
  len : D.last.length = 4

theorem infoStrW : (Try.prog.info? 9).map (fun i => (i.zero, i.size, i.bytes)) = some (some (.string ⟨#[]⟩), 1, 16) := by kernel_rfl
/-- the blocks of the law's own in the second part -/
def xsB (LB TB XB : Nat) (V : List Value) : List Nat := XB :: TB :: LB :: V.filterMap Value.ownBlock
theorem xsB_mem {LB TB XB g : Nat} {V : List Value} {i : Nat} {v : Value} (h : V[i]? = some v) (hg : v.ownBlock = some g) : g ∈ xsB LB TB XB V := by
  unfold xsB
  simp only [List.mem_cons]
  exact .inr (.inr (.inr (List.mem_filterMap.2 ⟨v, List.mem_of_getElem? h, hg⟩)))
theorem KDisk.turnMore {n0 : Nat} {X Y : List Nat} {S : Nat → Prop} {w w' : World} {b : Nat} {D : DiskS} (h : KDisk n0 X w b D) (k : Turn S w w') (hS : ∀ i, i < w.heap.size → S i → i ∈ X) (hY : ∀ i ∈ Y, i ∈ X ∨ w.heap.size ≤ i) : KDisk n0 Y w' b D := by
  have := DiskAt.turn h k (fun i hi q s => q.1.2 (hS i hi s))
  exact KDisk.of this (fun i _ q => ⟨q.1.1, fun hy => by rcases hY i hy with h1 | h1; exact q.1.2 h1; exact absurd q.2 (by omega)⟩)
/-- what lies there in the second part -/
structure KB (w wr : World) (b LB TB XB : Nat) (Tn : List ByteArray) (S : List (List UInt8)) (E : DiskS) (V : List Value) : Prop where
  disk : KDisk w.heap.size (xsB LB TB XB V) wr b E
  bel : Below w.heap.size w wr
  tb : wr.heap[TB]? = some (.cells (strV Tn).toArray 47 (0, 0))
  xb : wr.heap[XB]? = some (.cells V.toArray 48 (0, 0))
  lb : LB < wr.heap.size
  xn : w.heap.size ≤ XB
  vl : V.length = 4
  rows : ∀ (i : Nat) (v : Value), V[i]? = some v → wr.ownsRow w.heap.size 9 1 v (txsL E.wait i).length (strV (txsL E.wait i))
  apart : ∀ (i j : Nat) (v u : Value) (g : Nat), V[i]? = some v → V[j]? = some u → i ≠ j → v.ownBlock = some g → u.ownBlock ≠ some g
  far : ∀ (i : Nat) (v : Value) (g : Nat), V[i]? = some v → v.ownBlock = some g → g ≠ XB ∧ g ≠ TB
  on : E.on = true
  fuse : E.fuse = -1
  last : E.last = S
theorem KB.lt {w wr : World} {b LB TB XB : Nat} {Tn : List ByteArray} {S : List (List UInt8)} {E : DiskS} {V : List Value} (h : KB w wr b LB TB XB Tn S E V) : ∀ x ∈ xsB LB TB XB V, x < wr.heap.size := by
  intro x hx
  unfold xsB at hx
  simp only [List.mem_cons] at hx
  rcases hx with rfl | rfl | rfl | hx
  · exact (Array.getElem?_eq_some_iff.1 h.xb).1
  · exact (Array.getElem?_eq_some_iff.1 h.tb).1
  · exact h.lb
  · obtain ⟨v, hv, hg⟩ := List.mem_filterMap.1 hx
    obtain ⟨i, hi⟩ := List.mem_iff_getElem?.1 hv
    exact ((h.rows i v hi).lt x hg).2
/-- behind a call of the disk's: all but the disk's blocks is as it was -/
theorem KB.disked {w wr w' : World} {b LB TB XB : Nat} {Tn : List ByteArray} {S : List (List UInt8)} {E : DiskS} {V : List Value} (h : KB w wr b LB TB XB Tn S E V) (t : Turn (rest w.heap.size (xsB LB TB XB V)) wr w') :
    Below w.heap.size w w' ∧ w'.heap[TB]? = some (.cells (strV Tn).toArray 47 (0, 0)) ∧ w'.heap[XB]? = some (.cells V.toArray 48 (0, 0)) ∧ ∀ (i : Nat) (v : Value), V[i]? = some v → w'.ownsRow w.heap.size 9 1 v (txsL E.wait i).length (strV (txsL E.wait i)) :=
  ⟨t.bel h.bel h.bel.size, t.inX (by simp [xsB]) h.tb, t.inX (by simp [xsB]) h.xb, fun i v hv => own_turn (h.rows i v hv) t (fun g hg q => q.2 (xsB_mem hv hg))⟩

theorem one_str (T : ByteArray) : ∀ u ∈ [Value.string T], u.oneCell' = true := by
  intro u hu
  simp at hu
  subst hu
  rfl
theorem keeps_append {w wc w5 w6 : World} {b LB XB q g5 c5 : Nat} {Tn : List ByteArray} {S : List (List UInt8)} {E : DiskS} {V : List Value} {t TT : ByteArray} {va : Option Addr} {vn vc : Nat} {o : Obj} (h : KB w wc b LB (LB + 1) XB Tn S E V) (_ht : t.size ≤ 64) (hsz : wc.heap.size ≤ w5.heap.size)
    (hd5 : KDisk w.heap.size (xsB LB (LB + 1) XB V) w5 b (wroteD E q t)) (hb5 : Below w.heap.size w w5) (htb5 : w5.heap[LB + 1]? = some (.cells (strV Tn).toArray 47 (0, 0))) (hxb5 : w5.heap[XB]? = some (.cells V.toArray 48 (0, 0)))
    (hrow5 : ∀ (i : Nat) (v : Value), V[i]? = some v → w5.ownsRow w.heap.size 9 1 v (txsL E.wait i).length (strV (txsL E.wait i))) (hq4 : q < 4) (hv : V[q]? = some (.slice va vn vc)) (hT : fullT t = TT)
    (hown : w6.ownsRow w.heap.size 9 1 (.slice (some ⟨g5, 0, none⟩) ((txsL E.wait q).length + 1) c5) ((txsL E.wait q).length + 1) (strV (txsL E.wait q) ++ [.string TT])) (hg : (w5.drew.alloc o).grownBy w6 (Value.slice va vn vc).ownBlock)
    (hat : (Value.slice va vn vc).ownBlock = some g5 ∨ g5 = (w5.drew.alloc o).heap.size) (hlt : g5 < w6.heap.size) (hLB : w.heap.size ≤ LB) :
    KB w (w6.setCell ⟨XB, q, none⟩ (.slice (some ⟨g5, 0, none⟩) ((txsL E.wait q).length + 1) c5)) b LB (LB + 1) XB Tn S (wroteD E q t) (V.set q (.slice (some ⟨g5, 0, none⟩) ((txsL E.wait q).length + 1) c5)) := by
  have hH : (w5.drew.alloc o).heap.size = w5.heap.size + 1 := by simp
  rw [hH] at hat
  have t6 : Turn (fun i => (Value.slice va vn vc).ownBlock = some i) w5 w6 := (((Turn.refl _ w5).drew).alloc _).row hg (fun i _ e => e)
  have t7 : Turn (fun i => i = XB) w6 (w6.setCell ⟨XB, q, none⟩ (.slice (some ⟨g5, 0, none⟩) ((txsL E.wait q).length + 1) c5)) := (Turn.refl (fun i => i = XB) w6).setCell (fun _ => rfl) _ _
  have hlx : XB < w5.heap.size := (Array.getElem?_eq_some_iff.1 hxb5).1
  have hlt5 : LB + 1 < w5.heap.size := (Array.getElem?_eq_some_iff.1 htb5).1
  have hx6 := t6.heap hxb5 (fun e => (h.far q _ XB hv e).1 rfl)
  have hgx : g5 ≠ XB ∧ g5 ≠ LB + 1 := by
    rcases hat with e | e
    · exact h.far q _ g5 hv e
    · omega
  have hqV : q < V.length := by rw [h.vl]; exact hq4
  have hget : ∀ (i : Nat) (v : Value), (V.set q (.slice (some ⟨g5, 0, none⟩) ((txsL E.wait q).length + 1) c5))[i]? = some v → (i = q ∧ v = .slice (some ⟨g5, 0, none⟩) ((txsL E.wait q).length + 1) c5) ∨ (i ≠ q ∧ V[i]? = some v) := by
    intro i v hi
    by_cases hiq : q = i
    · subst hiq
      rw [List.getElem?_set_self hqV] at hi
      exact .inl ⟨rfl, (Option.some.inj hi).symm⟩
    · rw [List.getElem?_set_ne hiq] at hi
      exact .inr ⟨fun e => hiq e.symm, hi⟩
  have htx : ∀ i, txsL (wroteD E q t).wait i = if q = i then txsL E.wait i ++ [TT] else txsL E.wait i := by
    intro i
    rw [← hT]
    exact txsL_snoc E.wait q _ i
  have hown7 := own_turn hown t7 (fun g e => by cases e; exact hgx.1)
  refine ⟨?_, ?_, ?_, ?_, ?_, h.xn, by rw [List.length_set]; exact h.vl, ?_, ?_, ?_, h.on, ?_, h.last⟩
  · have k1 : KDisk w.heap.size (xsB LB (LB + 1) XB V) w6 b (wroteD E q t) := hd5.turn t6 (fun i _ e => xsB_mem hv e)
    refine KDisk.turnMore (KDisk.turnMore hd5 t6 (fun i _ e => xsB_mem hv e) (Y := g5 :: xsB LB (LB + 1) XB V) (fun i hi => ?_)) t7 (fun i _ e => by rw [e]; simp [xsB]) (fun i hi => .inl ?_)
    · rcases List.mem_cons.1 hi with rfl | hi
      · rcases hat with e | e
        · exact .inl (xsB_mem hv e)
        · exact .inr (by omega)
      · exact .inl hi
    · unfold xsB at hi ⊢
      simp only [List.mem_cons] at hi ⊢
      rcases hi with h1 | h1 | h1 | h1
      · exact .inr (.inl h1)
      · exact .inr (.inr (.inl h1))
      · exact .inr (.inr (.inr (.inl h1)))
      · obtain ⟨v, hv1, hv2⟩ := List.mem_filterMap.1 h1
        obtain ⟨j, hj⟩ := List.mem_iff_getElem?.1 hv1
        rcases hget j v hj with ⟨_, rfl⟩ | ⟨_, hj2⟩
        · left
          simpa [Value.ownBlock] using hv2.symm
        · exact .inr (.inr (.inr (.inr (List.mem_filterMap.2 ⟨v, List.mem_of_getElem? hj2, hv2⟩))))
  · refine t7.below (t6.below hb5 hb5.size (fun i hi e => by have := ((hrow5 q _ hv).lt i e).1; omega)) (by have := hb5.size; have := t6.size; omega) (fun i hi e => ?_)
    have := h.xn
    omega
  · exact t7.heap (t6.heap htb5 (fun e => (h.far q _ _ hv e).2 rfl)) (fun e => by
      have h1 := htb5
      rw [e, hxb5] at h1
      simp at h1)
  · show _ = _
    rw [← List.setIfInBounds_toArray]
    exact heap_setCell hx6 q _
  · have := h.lb; have := t6.size; have := t7.size; omega
  · intro i v hi
    rw [htx i]
    rcases hget i v hi with ⟨rfl, rfl⟩ | ⟨hne, hi2⟩
    · rw [if_pos rfl, List.length_append]
      show World.ownsRow _ _ _ _ _ _ (strV _)
      rw [show strV (txsL E.wait i ++ [TT]) = strV (txsL E.wait i) ++ [.string TT] from by simp [strV]]
      exact hown7
    · rw [if_neg (fun e => hne e.symm)]
      exact own_turn (own_turn (hrow5 i v hi2) t6 (fun g e1 e2 => h.apart i q v _ g hi2 hv hne e1 e2)) t7 (fun g e1 e2 => (h.far i v g hi2 e1).1 e2)
  · intro i j v u g hi hj hij hg1 hg2
    rcases hget i v hi with ⟨rfl, rfl⟩ | ⟨hni, hi2⟩
    · rcases hget j u hj with ⟨rfl, rfl⟩ | ⟨hnj, hj2⟩
      · exact hij rfl
      · simp only [Value.ownBlock, Option.some.injEq] at hg1
        subst hg1
        rcases hat with e | e
        · exact h.apart i j _ u g5 hv hj2 hij e hg2
        · have := ((hrow5 j u hj2).lt g5 hg2).2; omega
    · rcases hget j u hj with ⟨rfl, rfl⟩ | ⟨hnj, hj2⟩
      · simp only [Value.ownBlock, Option.some.injEq] at hg2
        subst hg2
        rcases hat with e | e
        · exact h.apart i j v _ g5 hi2 hv hij hg1 e
        · have := ((hrow5 i v hi2).lt g5 hg1).2; omega
      · exact h.apart i j v u g hi2 hj2 hij hg1 hg2
  · intro i v g hi hg1
    rcases hget i v hi with ⟨rfl, rfl⟩ | ⟨hni, hi2⟩
    · simp only [Value.ownBlock, Option.some.injEq] at hg1
      subst hg1
      exact hgx
    · exact h.far i v g hi2 hg1
  · show (if E.fuse < 0 then E.fuse else _) = _
    rw [h.fuse]
    rfl


/-- what lies there while the sectors are read: F is the disk behind the Cut -/
structure KC (w wr : World) (b LB TB XB : Nat) (Tn : List ByteArray) (ws : List (Nat × List UInt8)) (F : DiskS) (V : List Value) : Prop where
  disk : KDisk w.heap.size (xsB LB TB XB V) wr b F
  bel : Below w.heap.size w wr
  tb : wr.heap[TB]? = some (.cells (strV Tn).toArray 47 (0, 0))
  xb : wr.heap[XB]? = some (.cells V.toArray 48 (0, 0))
  rows : ∀ (i : Nat) (v : Value), V[i]? = some v → wr.ownsRow w.heap.size 9 1 v (txsL ws i).length (strV (txsL ws i))
theorem KC.grown {w wr w' : World} {b LB TB XB : Nat} {Tn : List ByteArray} {ws : List (Nat × List UInt8)} {F : DiskS} {V : List Value} (h : KC w wr b LB TB XB Tn ws F V) (g : wr.grownBy w' none) : KC w w' b LB TB XB Tn ws F V := by
  have t0 : Turn (fun _ => False) wr w' := Turn.of_grown g
  exact ⟨h.disk.grown g, h.bel.trans (below_grownBy g |>.mono h.bel.size), t0.heap h.tb (fun q => q), t0.heap h.xb (fun q => q), fun i v hv => own_turn (h.rows i v hv) t0 (fun _ _ q => q)⟩
theorem read_k {n0 : Nat} {X : List Nat} {w : World} {b : Nat} {D : DiskS} (i : Nat) (hm : KDisk n0 X w b D) (h : D.on = true) (hi : i < D.last.length) (hwl : D.wait.length ≤ 1000000000) :
    Calls Try.prog 11 #[.pointer (some ⟨b, 0, none⟩), .int .i64 i] w fun e w' => e = .returned (.tuple #[.string (str (readL D.last D.wait i)), .int .i64 0]) ∧ w.grownBy w' none := read_ok _ b i D w hm h hi hwl
/-- is the k-th byte the old one, or that of one of these texts? -/
def okB (s u : ByteArray) (l : List ByteArray) (k : Nat) : Bool := (s.data.toList[k]? == u.data.toList[k]?) || l.any (fun t => s.data.toList[k]? == t.data.toList[k]?)
theorem byte_at (s : ByteArray) (k : Nat) (h : k < s.size) : s.data.toList[k]? = some s[k] := by
  rw [List.getElem?_eq_getElem (by simpa using h)]
  rfl
theorem byte_eq (s u : ByteArray) (k : Nat) (h : k < s.size) (h2 : k < u.size) : (s.data.toList[k]? == u.data.toList[k]?) = (((s[k].toNat : Nat) : Int) == ((u[k].toNat : Nat) : Int)) := by
  rw [byte_at s k h, byte_at u k h2, Bool.eq_iff_iff]
  simp only [beq_iff_eq, Option.some.injEq]
  exact ⟨fun h => by rw [h], fun h => UInt8.toNat_inj.1 (by omega)⟩
theorem okB_snoc (s u : ByteArray) (l : List ByteArray) (t : ByteArray) (k : Nat) : okB s u (l ++ [t]) k = (okB s u l k || (s.data.toList[k]? == t.data.toList[k]?)) := by
  unfold okB
  rw [List.any_append, Bool.or_assoc]
  simp
theorem okB_all {n : Nat} {S : List (List UInt8)} {ws : List (Nat × List UInt8)} {ks : List UInt8} (hS : Secs S) (hw : Waits S.length ws) (i k : Nat) (hk : k < 64) : okB (str ((cutL S ws ks).getD i [])) (str (S.getD i [])) (txsL ws i) k = true := by
  unfold okB
  rw [Bool.or_eq_true]
  rcases cutL_keeps ws ks S hS hw i k hk with h | ⟨x, hx, hxi, h⟩
  · left
    show (((cutL S ws ks).getD i [])[k]? == (S.getD i [])[k]?) = true
    rw [h]
    simp
  · right
    rw [List.any_eq_true]
    refine ⟨str x.2, by rw [← hxi]; exact txsL_mem hx, ?_⟩
    show (((cutL S ws ks).getD i [])[k]? == x.2[k]?) = true
    rw [h]
    simp
end Go.Proofs.Ytolddjihkabgpaa
