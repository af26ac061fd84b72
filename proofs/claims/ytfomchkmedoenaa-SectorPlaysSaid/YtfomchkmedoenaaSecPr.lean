/- SectorPlays: what a Write does to what lies in memory. -/
import Derived.Test.YtfomchkmedoenaaSecPq
import Derived.Test.YtfomchkmedoenaaRegT
import Derived.Test.YtfomchkmedoenaaSecX
namespace Go.Proofs.Ytfomchkmedoenaa
open Go.RowKit

theorem infoIntP : (Try.prog.info? 3).map (fun i => (i.zero, i.size, i.bytes)) = some (some (.int .i64 0), 1, 8) := by kernel_rfl
theorem infoStrP : (Try.prog.info? 9).map (fun i => (i.zero, i.size, i.bytes)) = some (some (.string ⟨#[]⟩), 1, 16) := by kernel_rfl
/-- the rows of what waits may turn -/
def rowsT (av tv : Value) (i : Nat) : Prop := av.ownBlock = some i ∨ tv.ownBlock = some i
theorem PlM.rowsOut {n0 : Nat} {wr : World} {p : PlB} {av tv : Value} {now last : List ByteArray} {W : List (Nat × List UInt8)} {off : Bool} {fuse : Int} (h : PlM n0 wr p av tv now last W off fuse) : ∀ i ∈ p.all, ¬ rowsT av tv i := by
  rintro i hi (q | q)
  · exact h.na i q hi
  · exact h.nt i q hi
theorem PlS.pushed {w wr v5 w5 w6 w8 : World} {p : PlB} {b j : Nat} {s : ByteArray} {av tv a' t' : Value} {D : DiskS} {m : Nat} {Z : List Nat} (h0 : PlS w wr p b av tv D m Z) (t0 : Turn (rest w.heap.size (Z ++ xsP p av tv)) wr v5) (hd0 : KDisk w.heap.size (Z ++ xsP p av tv) v5 b (wroteD D j s)) (hok : PlD (wroteD D j s) (m + 1))
    (h5 : v5.setCell ⟨p.FB, 0, none⟩ (.int .i64 (wroteD D j s).fuse) = w5) (h6 : (w5.setCell ⟨p.NB, j, none⟩ (.string (fullT s))).drew = w6)
    (ra : w8.ownsRow w.heap.size 3 1 a' (D.wait.length + 1) (atV D.wait ++ [.int .i64 (j : Nat)])) (rt : w8.ownsRow w.heap.size 9 1 t' (D.wait.length + 1) (txV D.wait ++ [.string (fullT s)]))
    (T8 : Turn (rowsT av tv) w6 w8) (ha : ∀ g, a'.ownBlock = some g → av.ownBlock = some g ∨ w6.heap.size ≤ g) (ht : ∀ g, t'.ownBlock = some g → tv.ownBlock = some g ∨ w6.heap.size ≤ g) (hat : ∀ g, a'.ownBlock = some g → t'.ownBlock ≠ some g) :
    PlS w ((w8.setCell ⟨p.AB, 0, none⟩ a').setCell ⟨p.TB, 0, none⟩ t') p b a' t' (wroteD D j s) (m + 1) Z := by
  have hM := ((h0.mem5 t0).setF (wroteD D j s).fuse)
  rw [h5] at hM
  have hM := hM.setN j (fullT s)
  have hM : PlM w.heap.size w6 p av tv ((nowT 6 D.last D.wait).set j (fullT s)) (lastL D.last) D.wait (!D.on) (wroteD D j s).fuse := by rw [← h6]; exact hM.grown (grownBy_drew (World.grownBy.refl _ _))
  have hAB : p.AB ∈ p.all := by simp [PlB.all]
  have hTB : p.TB ∈ p.all := by simp [PlB.all]
  have hFB : p.FB ∈ p.all := by simp [PlB.all]
  have hNB : p.NB ∈ p.all := by simp [PlB.all]
  obtain ⟨⟨nAL, nAT, nAN, nAO, nAF⟩, ⟨nLT, nLN, nLO, nLF⟩, ⟨nTN, nTO, nTF⟩, ⟨nNO, nNF⟩, nOF⟩ := six_nd hM.box.nd
  have B8 := hM.box.turn T8 hM.rowsOut
  have hlt := hM.box.lt
  have k1 : Turn (fun i => i = p.AB) w8 (w8.setCell ⟨p.AB, 0, none⟩ a') := (Turn.refl (fun i => i = p.AB) w8).setCell (fun _ => rfl) _ _
  have k2 : Turn (fun i => i = p.TB) (w8.setCell ⟨p.AB, 0, none⟩ a') ((w8.setCell ⟨p.AB, 0, none⟩ a').setCell ⟨p.TB, 0, none⟩ t') := (Turn.refl (fun i => i = p.TB) _).setCell (fun _ => rfl) _ _
  have hna : ∀ g, a'.ownBlock = some g → g ∉ p.all := fun g e q => by
    rcases ha g e with h | h
    · exact hM.na g h q
    · have := hlt g q; omega
  have hnt : ∀ g, t'.ownBlock = some g → g ∉ p.all := fun g e q => by
    rcases ht g e with h | h
    · exact hM.nt g h q
    · have := hlt g q; omega
  have k0 : Turn (fun i => i ∈ p.all) v5 w6 := by
    rw [← h6, ← h5]
    exact (((Turn.refl (fun i => i ∈ p.all) v5).setCell (fun _ => hFB) _ _).setCell (fun _ => hNB) _ _).drew
  have u : Turn (fun i => i ∈ xsP p av tv) v5 ((w8.setCell ⟨p.AB, 0, none⟩ a').setCell ⟨p.TB, 0, none⟩ t') := by
    have u0 : Turn (fun i => i ∈ xsP p av tv) v5 w6 := k0.mono (fun i _ q => by simp [xsP, q])
    have u1 : Turn (fun i => i ∈ xsP p av tv) w6 w8 := T8.mono (fun i _ q => by rcases q with q | q <;> simp [xsP, ownO_mem.2 q])
    exact ((u0.then u1).then (k1.mono (fun i _ q => by rw [q]; simp [xsP, hAB]))).then (k2.mono (fun i _ q => by rw [q]; simp [xsP, hTB]))
  have hbv := t0.bel h0.bel h0.bel.size
  have hsz : v5.heap.size ≤ w6.heap.size := k0.size
  have hpn : ∀ i ∈ xsP p av tv, w.heap.size ≤ i := fun i hi => by
    simp only [xsP, List.mem_append] at hi
    rcases hi with hi | hi | hi
    · exact hM.pn i hi
    · exact (hM.ra.lt i (ownO_mem.1 hi)).1
    · exact (hM.rt.lt i (ownO_mem.1 hi)).1
  have hf2 : str (fullL s.data.toList) = fullT s := rfl
  refine ⟨⟨⟨?_, ?_, ?_, ?_, ?_, ?_, hM.box.nd, nowT_len _ _ _⟩, ?_, ?_, hna, hnt, hat, hM.pn⟩, ?_, u.below hbv hbv.size (fun i hi q => by have := hpn i q; omega), hok, fun z hz => ?_⟩
  · exact k2.heap (heap_setCell B8.a 0 _) nAT
  · exact heap_setCell (k1.heap B8.t nAT.symm) 0 _
  · exact k2.heap (k1.heap B8.l nAL.symm) nLT
  · rw [show nowT 6 (wroteD D j s).last (wroteD D j s).wait = (nowT 6 D.last D.wait).set j (fullT s) from by rw [← hf2]; exact wrote_now _ _ _ _ _]
    exact k2.heap (k1.heap B8.n nAN.symm) nTN.symm
  · exact k2.heap (k1.heap B8.o nAO.symm) nTO.symm
  · exact k2.heap (k1.heap B8.f nAF.symm) nTF.symm
  · show World.ownsRow _ _ _ _ _ (D.wait ++ [(j, fullL s.data.toList)]).length (atV (D.wait ++ [(j, fullL s.data.toList)]))
    rw [List.length_append, List.length_singleton, show atV (D.wait ++ [(j, fullL s.data.toList)]) = atV D.wait ++ [.int .i64 (j : Nat)] from by simp [atV]]
    exact own_turn (own_turn ra k1 (fun g e q => hna g e (q ▸ hAB))) k2 (fun g e q => hna g e (q ▸ hTB))
  · show World.ownsRow _ _ _ _ _ (D.wait ++ [(j, fullL s.data.toList)]).length (txV (D.wait ++ [(j, fullL s.data.toList)]))
    rw [List.length_append, List.length_singleton, show txV (D.wait ++ [(j, fullL s.data.toList)]) = txV D.wait ++ [.string (fullT s)] from by simp [txV, hf2]]
    exact own_turn (own_turn rt k1 (fun g e q => hnt g e (q ▸ hAB))) k2 (fun g e q => hnt g e (q ▸ hTB))
  · refine hd0.turnM u (fun i _ q => List.mem_append.2 (.inr q)) (fun i hi => ?_)
    simp only [xsP, List.mem_append] at hi ⊢
    rcases hi with hi | hi | hi | hi
    · exact .inl (.inl hi)
    · exact .inl (.inr (.inl hi))
    · rcases ha i (ownO_mem.1 hi) with q | q
      · exact .inl (.inr (.inr (.inl (ownO_mem.2 q))))
      · exact .inr (by omega)
    · rcases ht i (ownO_mem.1 hi) with q | q
      · exact .inl (.inr (.inr (.inr (ownO_mem.2 q))))
      · exact .inr (by omega)
  · have h1 := h0.z5 t0 z hz
    refine ⟨Nat.lt_of_lt_of_le h1.1 u.size, h1.2.1, fun q => ?_⟩
    simp only [xsP, List.mem_append] at q
    rcases q with q | q | q
    · exact h1.2.2 (by simp [xsP, q])
    · rcases ha z (ownO_mem.1 q) with e | e
      · exact h1.2.2 (by simp [xsP, ownO_mem.2 e])
      · omega
    · rcases ht z (ownO_mem.1 q) with e | e
      · exact h1.2.2 (by simp [xsP, ownO_mem.2 e])
      · omega
/-- the built row of one cell, and what was there -/
theorem rows_alloc {av tv : Value} {a b : World} (h : Turn (rowsT av tv) a b) (o : Obj) : Turn (rowsT av tv) a (b.alloc o) := h.alloc o
theorem rows_a {av tv : Value} {a b c : World} (h : Turn (rowsT av tv) a b) (g : b.grownBy c av.ownBlock) : Turn (rowsT av tv) a c := h.row g (fun _ _ e => .inl e)
theorem rows_t {av tv : Value} {a b c : World} (h : Turn (rowsT av tv) a b) (g : b.grownBy c tv.ownBlock) : Turn (rowsT av tv) a c := h.row g (fun _ _ e => .inr e)
theorem own_far {b c : World} {B n s : Nat} {t : TypeId} {v : Value} {xs : List Value} {row : Option Nat} (h : b.ownsRow B t s v n xs) (g : b.grownBy c row) (hn : ∀ x, v.ownBlock = some x → row ≠ some x) : c.ownsRow B t s v n xs :=
  own_turn h ((Turn.refl (fun i => row = some i) b).row g (fun _ _ e => e)) (fun x e q => hn x e q)
theorem no_row {a t : Value} {V h : Nat} (hat : ∀ g, a.ownBlock = some g → t.ownBlock ≠ some g) (ha : ∀ g, a.ownBlock = some g → g < V) (hh : t.ownBlock = some h ∨ V ≤ h) : a.ownBlock ≠ some h := by
  intro q
  rcases hh with h1 | h1
  · exact hat h q h1
  · have := ha h q; omega
theorem new_apart {a t : Value} {V g h H : Nat} (hat : ∀ g, a.ownBlock = some g → t.ownBlock ≠ some g) (ha : ∀ g, a.ownBlock = some g → g < V) (hg : a.ownBlock = some g ∨ g = H) (hH : h < H) (hh : t.ownBlock = some h ∨ V ≤ h) : g ≠ h := by
  rintro rfl
  rcases hg with h1 | h1
  · exact no_row hat ha hh h1
  · omega
theorem own_far2 {b c : World} {B n m s g cc : Nat} {t : TypeId} {xs : List Value} {row : Option Nat} (h : b.ownsRow B t s (.slice (some ⟨g, 0, none⟩) n cc) m xs) (k : b.grownBy c row) (hn : row ≠ some g) : c.ownsRow B t s (.slice (some ⟨g, 0, none⟩) n cc) m xs :=
  own_far h k (fun x e q => hn (q.trans (by rw [← e]; rfl)))
theorem flip_at {a t : Value} (hat : ∀ g, a.ownBlock = some g → t.ownBlock ≠ some g) : ∀ g, t.ownBlock = some g → a.ownBlock ≠ some g := fun g h q => hat g q h
end Go.Proofs.Ytfomchkmedoenaa
