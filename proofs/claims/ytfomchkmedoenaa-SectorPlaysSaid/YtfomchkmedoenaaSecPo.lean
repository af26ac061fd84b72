/- SectorPlays: what lies in memory. No walk. -/
import Derived.Test.YtfomchkmedoenaaSecPn
import Derived.Test.YtfomchkmedoenaaSecKS
import Derived.Test.YtfomchkmedoenaaSecKC
import Derived.Test.YtfomchkmedoenaaSecRd
import Derived.Test.YtfomchkmedoenaaSecSync
namespace Go.Proofs.Ytfomchkmedoenaa
open Go.RowKit

theorem KDisk.turnM {n0 : Nat} {X Y : List Nat} {S : Nat → Prop} {w w' : World} {b : Nat} {D : DiskS} (h : KDisk n0 X w b D) (k : Turn S w w') (hS : ∀ i, i < w.heap.size → S i → i ∈ X) (hY : ∀ i ∈ Y, i ∈ X ∨ w.heap.size ≤ i) : KDisk n0 Y w' b D := by
  have := DiskAt.turn h k (fun i hi q s => q.1.2 (hS i hi s))
  exact KDisk.of this (fun i _ q => ⟨q.1.1, fun hy => by rcases hY i hy with h1 | h1; exact q.1.2 h1; exact absurd q.2 (by omega)⟩)
theorem cut_k0 {n0 : Nat} {X : List Nat} {w : World} {b : Nat} {D : DiskS} (ka : Option Addr) (kc m : Nat) (ks : List UInt8) (hm : KDisk n0 X w b D) (h0 : 0 < D.last.length)
    (hk : BytesAt w (.slice ka m kc) ks) (hkl : m ≤ 9223372036854775807) (hwl : D.wait.length ≤ 1000000000000) (hkg : 0 < m → ∀ g o, ka = some ⟨g, o, none⟩ → g < n0) :
    Calls Try.prog 12 #[.pointer (some ⟨b, 0, none⟩), .slice ka m kc] w fun e w' => e = .returned (.tuple #[]) ∧ KDisk n0 X w' b (cutD D ks) ∧ Turn (rest n0 X) w w' := by
  obtain rfl : ks.length = m := by obtain ⟨_, _, e, _⟩ := hk; injection e with _ e _; exact e.symm
  exact (cut_at0 _ b D ka kc ks w hm h0 hk hkl hwl (fun hp g o e q => by have := hkg hp g o e; have := q.1.1; omega)).mono fun e w' q => ⟨q.1, KDisk.of q.2.1 (fun i _ z => z.1), rest_turn q.2.2⟩
theorem fuse_k0 {n0 : Nat} {X : List Nat} {w : World} {b : Nat} {D : DiskS} (hX : ∀ x ∈ X, x < w.heap.size) (hn : n0 ≤ w.heap.size) (n : Int) (a : Option Addr) (m c : Nat) (ks : List UInt8) (hm : KDisk n0 X w b D) (hb : BytesAt w (.slice a m c) ks) (hml : m ≤ 140737488351232) (hab : 0 < m → ∀ g o, a = some ⟨g, o, none⟩ → g < n0) :
    Calls Try.prog 11 #[.pointer (some ⟨b, 0, none⟩), .int .i64 n, .slice a m c] w fun e w' => e = .returned (.tuple #[]) ∧ KDisk n0 X w' b (fuseD D n ks) ∧ Turn (rest n0 X) w w' :=
  (fuse_at0 _ b D n a m c ks w hm hb hml (fun hp g o e q => by have := hab hp g o e; have := hm.own.1.1; omega)).mono fun e w' q => ⟨q.1, KDisk.of q.2.1 (fun i _ z => grow_rest hX hn i z), rest_turn q.2.2⟩
theorem bytes_below {n0 : Nat} {w w' : World} {ka : Option Addr} {kn kc : Nat} {l : List UInt8} (h : BytesAt w (.slice ka kn kc) l) (k : Below n0 w w') (hb : 0 < kn → ∀ g o, ka = some ⟨g, o, none⟩ → g < n0) : BytesAt w' (.slice ka kn kc) l := by
  obtain ⟨a, c, e, hc⟩ := h
  refine ⟨a, c, e, fun i hi => ?_⟩
  obtain ⟨g, o, e2, h⟩ := hc i hi
  injection e with e1 e3 _
  exact ⟨g, o, e2, (k.cell (p := ⟨g, o + i, none⟩) (hb (by omega) g o (by rw [e1, e2]))).trans h⟩
def ownO (v : Value) : List Nat := v.ownBlock.toList
theorem ownO_mem {v : Value} {x : Nat} : x ∈ ownO v ↔ v.ownBlock = some x := by unfold ownO; simp
/-- the law's own blocks -/
def xsP (p : PlB) (av tv : Value) : List Nat := p.all ++ (ownO av ++ ownO tv)
def atV (W : List (Nat × List UInt8)) : List Value := W.map fun x => .int .i64 (x.1 : Nat)
def txV (W : List (Nat × List UInt8)) : List Value := W.map fun x => .string (str x.2)
/-- what lies in the law's own blocks -/
structure PlM (n0 : Nat) (wr : World) (p : PlB) (av tv : Value) (now last : List ByteArray) (W : List (Nat × List UInt8)) (off : Bool) (fuse : Int) : Prop where
  box : PlAt wr p av tv now last off fuse
  ra : wr.ownsRow n0 3 1 av W.length (atV W)
  rt : wr.ownsRow n0 9 1 tv W.length (txV W)
  na : ∀ g, av.ownBlock = some g → g ∉ p.all
  nt : ∀ g, tv.ownBlock = some g → g ∉ p.all
  nat : ∀ g, av.ownBlock = some g → tv.ownBlock ≠ some g
  pn : ∀ i ∈ p.all, n0 ≤ i
section
variable {n0 : Nat} {wr w' : World} {p : PlB} {av tv : Value} {now last : List ByteArray} {W : List (Nat × List UInt8)} {off : Bool} {fuse : Int}
theorem PlAt.turn {S : Nat → Prop} (h : PlAt wr p av tv now last off fuse) (k : Turn S wr w') (hS : ∀ i ∈ p.all, ¬ S i) : PlAt w' p av tv now last off fuse :=
  ⟨k.heap h.a (hS _ (by simp [PlB.all])), k.heap h.t (hS _ (by simp [PlB.all])), k.heap h.l (hS _ (by simp [PlB.all])), k.heap h.n (hS _ (by simp [PlB.all])), k.heap h.o (hS _ (by simp [PlB.all])), k.heap h.f (hS _ (by simp [PlB.all])), h.nd, h.nl⟩
theorem PlAt.lt (h : PlAt wr p av tv now last off fuse) : ∀ i ∈ p.all, i < wr.heap.size := by
  intro i hi
  simp only [PlB.all, List.mem_cons, List.not_mem_nil, or_false] at hi
  rcases hi with rfl | rfl | rfl | rfl | rfl | rfl
  · exact (Array.getElem?_eq_some_iff.1 h.a).1
  · exact (Array.getElem?_eq_some_iff.1 h.l).1
  · exact (Array.getElem?_eq_some_iff.1 h.t).1
  · exact (Array.getElem?_eq_some_iff.1 h.n).1
  · exact (Array.getElem?_eq_some_iff.1 h.o).1
  · exact (Array.getElem?_eq_some_iff.1 h.f).1
theorem PlM.lt (h : PlM n0 wr p av tv now last W off fuse) : ∀ i ∈ xsP p av tv, i < wr.heap.size := by
  intro i hi
  simp only [xsP, List.mem_append] at hi
  rcases hi with hi | hi | hi
  · exact h.box.lt i hi
  · exact (h.ra.lt i (ownO_mem.1 hi)).2
  · exact (h.rt.lt i (ownO_mem.1 hi)).2
theorem PlM.turn {S : Nat → Prop} (h : PlM n0 wr p av tv now last W off fuse) (k : Turn S wr w') (hS : ∀ i ∈ xsP p av tv, ¬ S i) : PlM n0 w' p av tv now last W off fuse :=
  ⟨h.box.turn k (fun i hi => hS i (by simp [xsP, hi])), own_turn h.ra k (fun g e => hS g (by simp [xsP, ownO_mem.2 e])), own_turn h.rt k (fun g e => hS g (by simp [xsP, ownO_mem.2 e])), h.na, h.nt, h.nat, h.pn⟩
theorem PlM.grown (h : PlM n0 wr p av tv now last W off fuse) (k : wr.grownBy w' none) : PlM n0 w' p av tv now last W off fuse :=
  h.turn (S := fun _ => False) (Turn.of_grown k) (fun _ _ q => q)
theorem PlM.disked (h : PlM n0 wr p av tv now last W off fuse) (k : Turn (rest n0 (xsP p av tv)) wr w') : PlM n0 w' p av tv now last W off fuse :=
  h.turn k (fun i hi q => q.2 hi)
theorem PlM.at_ (h : PlM n0 wr p av tv now last W off fuse) : AtAt wr av W := by
  rcases h.ra.2 with ⟨rfl, h0⟩ | ⟨g, cap, cur, rfl, hB, hg, h1, h2, h3, h4⟩
  · exact ⟨none, 0, by rw [h0], fun i hi => by omega⟩
  · refine ⟨some ⟨g, 0, none⟩, cap, rfl, fun i hi => ⟨g, rfl, ?_⟩⟩
    have h5 : (cur.toList.take (W.length * 1))[i]? = (atV W)[i]? := by rw [h4]
    rw [List.getElem?_take, if_pos (by omega)] at h5
    rw [cell_of hg, ← Array.getElem?_toList, h5]
    simp [atV, List.getElem?_eq_getElem hi]
theorem PlM.tx_ (h : PlM n0 wr p av tv now last W off fuse) : TxAt wr tv W := by
  rcases h.rt.2 with ⟨rfl, h0⟩ | ⟨g, cap, cur, rfl, hB, hg, h1, h2, h3, h4⟩
  · exact ⟨none, 0, by rw [h0], fun i hi => by omega⟩
  · refine ⟨some ⟨g, 0, none⟩, cap, rfl, fun i hi => ⟨g, rfl, ?_⟩⟩
    have h5 : (cur.toList.take (W.length * 1))[i]? = (txV W)[i]? := by rw [h4]
    rw [List.getElem?_take, if_pos (by omega)] at h5
    rw [cell_of hg, ← Array.getElem?_toList, h5]
    simp [txV, List.getElem?_eq_getElem hi]
/-- the fuse's box -/
theorem PlM.setF (h : PlM n0 wr p av tv now last W off fuse) (f : Int) : PlM n0 (wr.setCell ⟨p.FB, 0, none⟩ (.int .i64 f)) p av tv now last W off f := by
  have k : Turn (fun i => i = p.FB) wr (wr.setCell ⟨p.FB, 0, none⟩ (.int .i64 f)) := (Turn.refl (fun i => i = p.FB) wr).setCell (fun _ => rfl) _ _
  obtain ⟨⟨_, _, _, _, n1⟩, ⟨_, _, _, n2⟩, ⟨_, _, n3⟩, ⟨_, n4⟩, n5⟩ := six_nd h.box.nd
  refine ⟨⟨k.heap h.box.a n1, k.heap h.box.t n3, k.heap h.box.l n2, k.heap h.box.n n4, k.heap h.box.o n5, heap_setCell h.box.f 0 _, h.box.nd, h.box.nl⟩, own_turn h.ra k (fun g e q => h.na g e (by rw [q]; simp [PlB.all])), own_turn h.rt k (fun g e q => h.nt g e (by rw [q]; simp [PlB.all])), h.na, h.nt, h.nat, h.pn⟩
/-- the box that says whether it is off -/
theorem PlM.setO (h : PlM n0 wr p av tv now last W off fuse) (f : Bool) : PlM n0 (wr.setCell ⟨p.OB, 0, none⟩ (.bool f)) p av tv now last W f fuse := by
  have k : Turn (fun i => i = p.OB) wr (wr.setCell ⟨p.OB, 0, none⟩ (.bool f)) := (Turn.refl (fun i => i = p.OB) wr).setCell (fun _ => rfl) _ _
  obtain ⟨⟨_, _, _, n1, _⟩, ⟨_, _, n2, _⟩, ⟨_, n3, _⟩, ⟨n4, _⟩, n5⟩ := six_nd h.box.nd
  refine ⟨⟨k.heap h.box.a n1, k.heap h.box.t n3, k.heap h.box.l n2, k.heap h.box.n n4, heap_setCell h.box.o 0 _, k.heap h.box.f (fun e => n5 e.symm), h.box.nd, h.box.nl⟩, own_turn h.ra k (fun g e q => h.na g e (by rw [q]; simp [PlB.all])), own_turn h.rt k (fun g e q => h.nt g e (by rw [q]; simp [PlB.all])), h.na, h.nt, h.nat, h.pn⟩
/-- what is read of a sector -/
theorem PlM.setN (h : PlM n0 wr p av tv now last W off fuse) (q : Nat) (s : ByteArray) : PlM n0 (wr.setCell ⟨p.NB, q, none⟩ (.string s)) p av tv (now.set q s) last W off fuse := by
  have k : Turn (fun i => i = p.NB) wr (wr.setCell ⟨p.NB, q, none⟩ (.string s)) := (Turn.refl (fun i => i = p.NB) wr).setCell (fun _ => rfl) _ _
  obtain ⟨⟨_, _, n1, _, _⟩, ⟨_, n2, _, _⟩, ⟨n3, _, _⟩, ⟨n4, n5⟩, _⟩ := six_nd h.box.nd
  refine ⟨⟨k.heap h.box.a n1, k.heap h.box.t n3, k.heap h.box.l n2, ?_, k.heap h.box.o (fun e => n4 e.symm), k.heap h.box.f (fun e => n5 e.symm), h.box.nd, by rw [List.length_set]; exact h.box.nl⟩, own_turn h.ra k (fun g e q => h.na g e (by rw [q]; simp [PlB.all])), own_turn h.rt k (fun g e q => h.nt g e (by rw [q]; simp [PlB.all])), h.na, h.nt, h.nat, h.pn⟩
  rw [← strV_set]
  exact heap_setCell h.box.n q _
theorem PlM.turnS (h : PlM n0 wr p av tv now last W off fuse) (g : Nat) (o : Nat) (u : Value) (hg : g ∈ p.all) : Turn (fun i => i ∈ xsP p av tv) wr (wr.setCell ⟨g, o, none⟩ u) :=
  (Turn.refl _ wr).setCell (fun _ => by simp [xsP, hg]) _ _
end
/-- what a disk may be within the law -/
structure PlD (D : DiskS) (m : Nat) : Prop where
  len : D.last.length = 6
  f1 : -1 ≤ D.fuse
  f2 : D.fuse ≤ 9223372036854775807
  kl : D.keep.length ≤ 140737488351232
  wl : D.wait.length ≤ m
/-- what is cut by, should the fuse burn down -/
def LateAt (w : World) (lv : Value) (D : DiskS) : Prop := 0 ≤ D.fuse → ∃ ka kc, lv = .slice ka D.keep.length kc ∧ BytesAt w lv D.keep ∧ (0 < D.keep.length → ∀ g o, ka = some ⟨g, o, none⟩ → g < w.heap.size)
/-- in the loop: the law's own blocks tell what the disk does; Z: more blocks of the law's own -/
structure PlS (w wr : World) (p : PlB) (b : Nat) (av tv : Value) (D : DiskS) (m : Nat) (Z : List Nat) : Prop where
  mem : PlM w.heap.size wr p av tv (nowT 6 D.last D.wait) (lastL D.last) D.wait (!D.on) D.fuse
  disk : KDisk w.heap.size (Z ++ xsP p av tv) wr b D
  bel : Below w.heap.size w wr
  ok : PlD D m
  zl : ∀ z ∈ Z, z < wr.heap.size ∧ w.heap.size ≤ z ∧ z ∉ xsP p av tv
section
variable {w wr w' : World} {p : PlB} {b : Nat} {av tv : Value} {D : DiskS} {m : Nat} {Z : List Nat}
theorem PlS.grown (h : PlS w wr p b av tv D m Z) (k : wr.grownBy w' none) : PlS w w' p b av tv D m Z :=
  ⟨h.mem.grown k, h.disk.grown k, h.bel.trans (below_grownBy k |>.mono h.bel.size), h.ok, fun z hz => ⟨Nat.lt_of_lt_of_le (h.zl z hz).1 k.size, (h.zl z hz).2⟩⟩
theorem PlS.xl (h : PlS w wr p b av tv D m Z) : ∀ x ∈ Z ++ xsP p av tv, x < wr.heap.size := by
  intro x hx
  rcases List.mem_append.1 hx with q | q
  · exact (h.zl x q).1
  · exact h.mem.lt x q
theorem PlS.secs (h : PlS w wr p b av tv D m Z) : Secs D.last ∧ Waits 6 D.wait := by
  obtain ⟨_, _, _, mm, _⟩ := h.disk
  have := mm.waits
  rw [h.ok.len] at this
  exact ⟨mm.secs, this⟩
/-- one block more of the law's own -/
theorem PlS.box (h : PlS w wr p b av tv D m []) (k : wr.grownBy w' none) (z : Nat) (hz : wr.heap.size ≤ z) (hz2 : z < w'.heap.size) : PlS w w' p b av tv D m [z] :=
  ⟨h.mem.grown k, KDisk.turnM (S := fun _ => False) h.disk (Turn.of_grown k) (fun _ _ q => q.elim) (fun i hi => by
    rcases List.mem_append.1 hi with q | q
    · rw [List.mem_singleton.1 q]; exact .inr hz
    · exact .inl (List.mem_append.2 (.inr q))), h.bel.trans (below_grownBy k |>.mono h.bel.size), h.ok, fun y hy => by
    rw [List.mem_singleton.1 hy]
    exact ⟨hz2, Nat.le_trans h.bel.size hz, fun q => by have := h.mem.lt z q; omega⟩⟩
/-- the law's own block no more -/
theorem PlS.drop (h : PlS w wr p b av tv D m Z) (m' : Nat) (hm : m ≤ m') : PlS w wr p b av tv D m' [] :=
  ⟨h.mem, KDisk.turnM (S := fun _ => False) h.disk (Turn.of_grown (World.grownBy.refl _ _)) (fun _ _ q => q.elim) (fun i hi => .inl (List.mem_append.2 (.inr hi))), h.bel, ⟨h.ok.len, h.ok.f1, h.ok.f2, h.ok.kl, Nat.le_trans h.ok.wl hm⟩, fun z hz => by cases hz⟩
end
theorem nowT_at (n : Nat) (l : List (List UInt8)) (W : List (Nat × List UInt8)) (i : Nat) (h : i < n) : (nowT n l W)[i]? = some (str (readL l W i)) := by
  unfold nowT
  rw [List.getElem?_map, List.getElem?_range h]
  rfl
/-- behind the closure -/
theorem PlS.cutted {w wr w5 w6 : World} {p : PlB} {b : Nat} {av tv : Value} {D : DiskS} {m : Nat} {Z : List Nat} (ks : List UInt8) (h : PlS w wr p b av tv D m Z)
    (hd : KDisk w.heap.size (Z ++ xsP p av tv) w5 b (cutD D ks)) (t5 : Turn (rest w.heap.size (Z ++ xsP p av tv)) wr w5)
    (hp : PlAt w6 p (.slice none 0 0) (.slice none 0 0) (lastL (cutL D.last D.wait ks)) (lastL (cutL D.last D.wait ks)) true (-1)) (t6 : Turn (fun i => i ∈ p.all) w5 w6) :
    PlS w w6 p b (.slice none 0 0) (.slice none 0 0) (cutD D ks) m Z := by
  have hb5 := t5.bel h.bel h.bel.size
  have hl : (cutL D.last D.wait ks).length = 6 := (cutL_length _ _ _).trans h.ok.len
  have hx : xsP p (.slice none 0 0) (.slice none 0 0) = p.all := by simp [xsP, ownO, Value.ownBlock]
  refine ⟨⟨?_, World.ownsRow_nil _ _ _ _, World.ownsRow_nil _ _ _ _, fun g e => by simp [Value.ownBlock] at e, fun g e => by simp [Value.ownBlock] at e, fun g e => by simp [Value.ownBlock] at e, h.mem.pn⟩, ?_, t6.below hb5 hb5.size (fun i hi q => by have := h.mem.pn i q; omega), ⟨hl, by show -1 ≤ (-1 : Int); decide, by show (-1 : Int) ≤ _; decide, by show ([] : List UInt8).length ≤ _; simp, Nat.zero_le _⟩, fun z hz => ?_⟩
  · show PlAt w6 p _ _ (nowT 6 (cutL D.last D.wait ks) []) (lastL (cutL D.last D.wait ks)) true (-1)
    rw [nowT_nil _ hl]
    exact hp
  · refine hd.turnM t6 (fun i _ q => by simp [xsP, q]) (fun i hi => .inl ?_)
    rw [hx] at hi
    rcases List.mem_append.1 hi with q | q
    · exact List.mem_append.2 (.inl q)
    · exact List.mem_append.2 (.inr (by simp [xsP, q]))
  · have h1 := h.zl z hz
    refine ⟨Nat.lt_of_lt_of_le h1.1 (Nat.le_trans t5.size t6.size), h1.2.1, fun q => h1.2.2 ?_⟩
    rw [hx] at q
    simp [xsP, q]
end Go.Proofs.Ytfomchkmedoenaa
