/- SectorPlays: what each act does to what lies in memory. -/
import Derived.Test.YtfomchkmedoenaaSecPo
namespace Go.Proofs.Ytfomchkmedoenaa
open Go.RowKit

section
variable {w wr w5 : World} {p : PlB} {b : Nat} {av tv : Value} {D : DiskS} {m : Nat} {Z : List Nat}
theorem PlS.mem5 (h : PlS w wr p b av tv D m Z) (t : Turn (rest w.heap.size (Z ++ xsP p av tv)) wr w5) : PlM w.heap.size w5 p av tv (nowT 6 D.last D.wait) (lastL D.last) D.wait (!D.on) D.fuse :=
  h.mem.turn t (fun i hi q => q.2 (List.mem_append.2 (.inr hi)))
theorem PlS.z5 (h : PlS w wr p b av tv D m Z) (t : Turn (rest w.heap.size (Z ++ xsP p av tv)) wr w5) : ∀ z ∈ Z, z < w5.heap.size ∧ w.heap.size ≤ z ∧ z ∉ xsP p av tv :=
  fun z hz => ⟨Nat.lt_of_lt_of_le (h.zl z hz).1 t.size, (h.zl z hz).2⟩
theorem PlS.cut (h : PlS w wr p b av tv D m Z) (hm : m ≤ 1000) (t5 : Turn (rest w.heap.size (Z ++ xsP p av tv)) wr w5) (ks : List UInt8) (ka : Option Addr) (kn kc : Nat) (hk : BytesAt w (.slice ka kn kc) ks) (hkl : kn ≤ 140737488351232) (hkg : 0 < kn → ∀ g o, ka = some ⟨g, o, none⟩ → g < w.heap.size)
    (hd : KDisk w.heap.size (Z ++ xsP p av tv) w5 b (cutD D ks)) :
    Calls Try.prog 7 #[.slice ka kn kc, .pointer (some ⟨p.AB, 0, none⟩), .pointer (some ⟨p.LB, 0, none⟩), .pointer (some ⟨p.TB, 0, none⟩), .pointer (some ⟨p.NB, 0, none⟩), .pointer (some ⟨p.OB, 0, none⟩), .pointer (some ⟨p.FB, 0, none⟩)] w5
      fun e w' => e = .returned (.tuple #[]) ∧ PlS w w' p b (.slice none 0 0) (.slice none 0 0) (cutD D ks) m Z := by
  have hM := h.mem5 t5
  have hLB : p.LB ∈ p.all := by simp [PlB.all]
  obtain ⟨hs, hW⟩ := h.secs
  have hkl5 : ks.length = kn := by obtain ⟨_, _, e, _⟩ := hk; injection e with _ e _; exact e.symm
  have hb5 := t5.bel h.bel h.bel.size
  have hk5 : BytesAt w5 (.slice ka kn kc) ks := bytes_below hk hb5 hkg
  refine (pcut_any p av tv _ _ _ D.last D.wait ka kn kc ks w5 hM.box h.ok.len hs hW (by have := h.ok.wl; omega) hM.at_ hM.tx_ hk5 hkl
    (fun g o c n e q => hM.na g (by rw [e]; rfl) (by rw [q]; exact hLB)) (fun g o c n e q => hM.nt g (by rw [e]; rfl) (by rw [q]; exact hLB)) (fun hp g o e q => by have := hkg hp g o e; have := h.mem.pn p.LB hLB; omega)).mono ?_
  rintro e w6 ⟨rfl, hp, t6⟩
  exact ⟨rfl, h.cutted ks hd t5 hp t6⟩
/-- behind a call that changes no more than the disk's fuse and keep, the fuse's box stored -/
theorem PlS.fused (h : PlS w wr p b av tv D m Z) (t5 : Turn (rest w.heap.size (Z ++ xsP p av tv)) wr w5) (E : DiskS) (he : E.last = D.last ∧ E.wait = D.wait ∧ E.on = D.on) (ho : PlD E m) (hd : KDisk w.heap.size (Z ++ xsP p av tv) w5 b E) (f : Int) (hf : f = E.fuse) :
    PlS w (w5.setCell ⟨p.FB, 0, none⟩ (.int .i64 f)) p b av tv E m Z := by
  subst hf
  have hM := (h.mem5 t5).setF E.fuse
  have hb5 := t5.bel h.bel h.bel.size
  have hFB : p.FB ∈ p.all := by simp [PlB.all]
  have k : Turn (fun i => i = p.FB) w5 (w5.setCell ⟨p.FB, 0, none⟩ (.int .i64 E.fuse)) := (Turn.refl (fun i => i = p.FB) w5).setCell (fun _ => rfl) _ _
  refine ⟨by rw [he.1, he.2.1, he.2.2]; exact hM, hd.turn k (fun i _ e => by rw [e]; exact List.mem_append.2 (.inr (by simp [xsP, hFB]))), k.below hb5 hb5.size (fun i hi e => by have := h.mem.pn p.FB hFB; omega), ho, fun z hz => ?_⟩
  have h1 := h.z5 t5 z hz
  exact ⟨Nat.lt_of_lt_of_le h1.1 k.size, h1.2⟩
/-- behind Start -/
theorem PlS.started (h : PlS w wr p b av tv D m Z) (t5 : Turn (rest w.heap.size (Z ++ xsP p av tv)) wr w5) (hd : KDisk w.heap.size (Z ++ xsP p av tv) w5 b { D with on := true }) :
    PlS w (w5.setCell ⟨p.OB, 0, none⟩ (.bool false)) p b av tv { D with on := true } m Z := by
  have hM := (h.mem5 t5).setO false
  have hb5 := t5.bel h.bel h.bel.size
  have hOB : p.OB ∈ p.all := by simp [PlB.all]
  have k : Turn (fun i => i = p.OB) w5 (w5.setCell ⟨p.OB, 0, none⟩ (.bool false)) := (Turn.refl (fun i => i = p.OB) w5).setCell (fun _ => rfl) _ _
  refine ⟨hM, hd.turn k (fun i _ e => by rw [e]; exact List.mem_append.2 (.inr (by simp [xsP, hOB]))), k.below hb5 hb5.size (fun i hi e => by have := h.mem.pn p.OB hOB; omega), ⟨h.ok.len, h.ok.f1, h.ok.f2, h.ok.kl, h.ok.wl⟩, fun z hz => ?_⟩
  have h1 := h.z5 t5 z hz
  exact ⟨Nat.lt_of_lt_of_le h1.1 k.size, h1.2⟩
/-- behind Sync, what lasts and what waits stored -/
theorem PlS.synced {v5 w6 w7 w8 : World} {nowc : Array Value} (h0 : PlS w wr p b av tv D m Z) (t0 : Turn (rest w.heap.size (Z ++ xsP p av tv)) wr v5) (hd0 : KDisk w.heap.size (Z ++ xsP p av tv) v5 b (syncD { D with fuse := decF D.fuse })) (hok : PlD { D with fuse := decF D.fuse } m) (h5 : v5.setCell ⟨p.FB, 0, none⟩ (.int .i64 (decF D.fuse)) = w5)
    (hn : (strV (nowT 6 D.last D.wait)).toArray = nowc) (h6 : w5.setRow p.LB nowc = w6) (h7 : w6.setRow p.AB #[Value.slice none 0 0] = w7) (h8 : w7.setRow p.TB #[Value.slice none 0 0] = w8) :
    PlS w w8 p b (.slice none 0 0) (.slice none 0 0) (syncD { D with fuse := decF D.fuse }) m Z := by
  have hM := (h0.mem5 t0).setF (decF D.fuse)
  have hFB : p.FB ∈ p.all := by simp [PlB.all]
  have k0 : Turn (fun i => i = p.FB) v5 w5 := by rw [← h5]; exact (Turn.refl (fun i => i = p.FB) v5).setCell (fun _ => rfl) _ _
  rw [h5] at hM
  have hd : KDisk w.heap.size (Z ++ xsP p av tv) w5 b (syncD { D with fuse := decF D.fuse }) := hd0.turn k0 (fun i _ e => by rw [e]; exact List.mem_append.2 (.inr (by simp [xsP, hFB])))
  have hbv := t0.bel h0.bel h0.bel.size
  have hb5 : Below w.heap.size w w5 := k0.below hbv hbv.size (fun i hi e => by have := h0.mem.pn p.FB hFB; omega)
  obtain ⟨⟨nAL, nAT, nAN, nAO, nAF⟩, ⟨nLT, nLN, nLO, nLF⟩, ⟨nTN, nTO, nTF⟩, ⟨nNO, nNF⟩, nOF⟩ := six_nd hM.box.nd
  obtain ⟨hs, hW⟩ := h0.secs
  have B := hM.box
  have l6 := setRow_heap w5 p.LB _ nowc _ _ B.l
  have a6 := (setRow_other w5 p.LB p.AB nowc nAL).trans B.a
  have t6 := (setRow_other w5 p.LB p.TB nowc nLT.symm).trans B.t
  have n6 := (setRow_other w5 p.LB p.NB nowc nLN.symm).trans B.n
  have o6 := (setRow_other w5 p.LB p.OB nowc nLO.symm).trans B.o
  have f6 := (setRow_other w5 p.LB p.FB nowc nLF.symm).trans B.f
  rw [h6] at l6 a6 t6 n6 o6 f6
  have a7 := setRow_heap w6 p.AB _ #[Value.slice none 0 0] _ _ a6
  have l7 := (setRow_other w6 p.AB p.LB #[Value.slice none 0 0] nAL.symm).trans l6
  have t7 := (setRow_other w6 p.AB p.TB #[Value.slice none 0 0] nAT.symm).trans t6
  have n7 := (setRow_other w6 p.AB p.NB #[Value.slice none 0 0] nAN.symm).trans n6
  have o7 := (setRow_other w6 p.AB p.OB #[Value.slice none 0 0] nAO.symm).trans o6
  have f7 := (setRow_other w6 p.AB p.FB #[Value.slice none 0 0] nAF.symm).trans f6
  rw [h7] at l7 a7 t7 n7 o7 f7
  have t8 := setRow_heap w7 p.TB _ #[Value.slice none 0 0] _ _ t7
  have a8 := (setRow_other w7 p.TB p.AB #[Value.slice none 0 0] nAT).trans a7
  have l8 := (setRow_other w7 p.TB p.LB #[Value.slice none 0 0] nLT).trans l7
  have n8 := (setRow_other w7 p.TB p.NB #[Value.slice none 0 0] nTN.symm).trans n7
  have o8 := (setRow_other w7 p.TB p.OB #[Value.slice none 0 0] nTO.symm).trans o7
  have f8 := (setRow_other w7 p.TB p.FB #[Value.slice none 0 0] nTF.symm).trans f7
  rw [h8] at l8 a8 t8 n8 o8 f8
  have u : Turn (fun i => i ∈ p.all) w5 w8 := by
    have u1 : Turn (fun i => i ∈ p.all) w5 w6 := by rw [← h6]; exact turn_setRow (by simp [PlB.all]) _
    have u2 : Turn (fun i => i ∈ p.all) w6 w7 := by rw [← h7]; exact turn_setRow (by simp [PlB.all]) _
    have u3 : Turn (fun i => i ∈ p.all) w7 w8 := by rw [← h8]; exact turn_setRow (by simp [PlB.all]) _
    exact (u1.then u2).then u3
  have hx : xsP p (.slice none 0 0) (.slice none 0 0) = p.all := by simp [xsP, ownO, Value.ownBlock]
  have e1 : nowT 6 (syncL D.last D.wait) [] = nowT 6 D.last D.wait := sync_now D.last D.wait h0.ok.len hW
  have e2 : lastL (syncL D.last D.wait) = nowT 6 D.last D.wait := sync_last D.last D.wait h0.ok.len hW
  refine ⟨⟨?_, World.ownsRow_nil _ _ _ _, World.ownsRow_nil _ _ _ _, fun g e => by simp [Value.ownBlock] at e, fun g e => by simp [Value.ownBlock] at e, fun g e => by simp [Value.ownBlock] at e, h0.mem.pn⟩, ?_, u.below hb5 hb5.size (fun i hi q => by have := h0.mem.pn i q; omega), ⟨(syncL_length _ _).trans h0.ok.len, hok.f1, hok.f2, hok.kl, Nat.zero_le _⟩, fun z hz => ?_⟩
  · show PlAt w8 p _ _ (nowT 6 (syncL D.last D.wait) []) (lastL (syncL D.last D.wait)) (!D.on) (decF D.fuse)
    rw [e1, e2]
    subst hn
    exact ⟨a8, t8, l8, n8, o8, f8, B.nd, nowT_len _ _ _⟩
  · refine hd.turnM u (fun i _ q => by simp [xsP, q]) (fun i hi => .inl ?_)
    rw [hx] at hi
    rcases List.mem_append.1 hi with q | q
    · exact List.mem_append.2 (.inl q)
    · exact List.mem_append.2 (.inr (by simp [xsP, q]))
  · have h1 := h0.z5 t0 z hz
    refine ⟨Nat.lt_of_lt_of_le h1.1 (Nat.le_trans k0.size u.size), h1.2.1, fun q => h1.2.2 ?_⟩
    rw [hx] at q
    simp [xsP, q]
theorem PlS.more (h : PlS w wr p b av tv D m Z) : PlS w wr p b av tv D (m + 1) Z := ⟨h.mem, h.disk, h.bel, ⟨h.ok.len, h.ok.f1, h.ok.f2, h.ok.kl, Nat.le_succ_of_le h.ok.wl⟩, h.zl⟩
end
end Go.Proofs.Ytfomchkmedoenaa
