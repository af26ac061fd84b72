/- The walk of a book's lay. -/
import Derived.Test.YtfpbnfjlabhhoaaDoorLbD
import Derived.Deep.RegionHeld3
namespace Go.Proofs.YtfpbnfjlabhhoaaDoor
open Go.RowKit
attribute [local irreducible] shaL

/-! what turns, and more blocks of the caller's own -/
theorem KDisk.turnMore {n0 : Nat} {X Y : List Nat} {S : Nat → Prop} {w w' : World} {b : Nat} {D : DiskS} (h : KDisk n0 X w b D) (k : Turn S w w') (hS : ∀ i, i < w.heap.size → S i → i ∈ X) (hY : ∀ i ∈ Y, i ∈ X ∨ w.heap.size ≤ i) : KDisk n0 Y w' b D := by
  have := DiskAt.turn h k (fun i hi q s => q.1.2 (hS i hi s))
  exact KDisk.of this (fun i _ q => ⟨q.1.1, fun hy => by rcases hY i hy with h1 | h1; exact q.1.2 h1; exact absurd q.2 (by omega)⟩)

def ownB (v : Value) : List Nat := v.ownBlock.toList
theorem ownB_mem {v : Value} {x : Nat} : x ∈ ownB v ↔ v.ownBlock = some x := by unfold ownB; simp
/-- block g is a book that holds B on a disk at block b that holds D; all their blocks lie from n0 on, none of them is one of X -/
structure KBookAt (n0 : Nat) (X : List Nat) (w : World) (g b : Nat) (B : BookS) (D : DiskS) (rv : Value) : Prop where
  mem : BookMem w g b B rv
  gn : n0 ≤ g
  gX : g ∉ X
  rn : ∀ x, rv.ownBlock = some x → n0 ≤ x ∧ x ∉ X ∧ x ≠ g
  disk : KDisk n0 (ownB rv ++ g :: X) w b D
def KBook (n0 : Nat) (X : List Nat) (w : World) (g b : Nat) (B : BookS) (D : DiskS) : Prop := ∃ rv, KBookAt n0 X w g b B D rv
theorem own_down {w : World} {B B' n size : Nat} {t : TypeId} {v : Value} {xs : List Value} (h : w.ownsRow B t size v n xs) (hb : B' ≤ B) : w.ownsRow B' t size v n xs := by
  refine ⟨h.1, ?_⟩
  rcases h.2 with h' | ⟨g, cap, cur, e, hB, r⟩
  · exact .inl h'
  · exact .inr ⟨g, cap, cur, e, Nat.le_trans hb hB, r⟩
/-- what laying a record tells, and leaves -/
def layS (B : BookS) (D : DiskS) (p t : Nat) (L : List ByteArray) (used : Nat) (s : ByteArray) : Int × BookS × DiskS :=
  let r := writesS D (B.first + p * B.size + used) (nextS t L.length s)
  if r.1 = 0 then (0, { B with place := p, turn := t, recs := L ++ [s], used := used + partsN s.size }, r.2) else (r.1, { B with failed := true }, r.2)
theorem rest_mono {n0 : Nat} {X Y : List Nat} (h : ∀ x ∈ X, x ∈ Y) {w w' : World} (k : Turn (rest n0 Y) w w') : Turn (rest n0 X) w w' := k.mono (fun _ _ q => ⟨q.1, fun hx => q.2 (h _ hx)⟩)

theorem held_ck {w w' : World} {HB : Nat} {a b c : Value} (h : w.cell? ⟨HB, 0, none⟩ = some a ∧ w.cell? ⟨HB, 1, none⟩ = some b ∧ w.cell? ⟨HB, 2, none⟩ = some c) (k : w.grownBy w' none) : w'.cell? ⟨HB, 0, none⟩ = some a ∧ w'.cell? ⟨HB, 1, none⟩ = some b ∧ w'.cell? ⟨HB, 2, none⟩ = some c := ⟨k.cell h.1 (by simp), k.cell h.2.1 (by simp), k.cell h.2.2 (by simp)⟩
theorem turn_ck {w w' : World} {n0 HB : Nat} {Y : List Nat} {a b c : Value} (h : w.cell? ⟨HB, 0, none⟩ = some a ∧ w.cell? ⟨HB, 1, none⟩ = some b ∧ w.cell? ⟨HB, 2, none⟩ = some c) (k : Turn (rest n0 Y) w w') (hm : HB ∈ Y) (hlt : HB < w.heap.size) : w'.cell? ⟨HB, 0, none⟩ = some a ∧ w'.cell? ⟨HB, 1, none⟩ = some b ∧ w'.cell? ⟨HB, 2, none⟩ = some c :=
  ⟨(k.cell hlt (fun q => q.2 hm) _).trans h.1, (k.cell hlt (fun q => q.2 hm) _).trans h.2.1, (k.cell hlt (fun q => q.2 hm) _).trans h.2.2⟩
theorem form_pos {w : World} {B n m : Nat} {t : TypeId} {size : Nat} {v : Value} {xs : List Value} (h : w.ownsRow B t size v n xs) (e : m = n) (h1 : 1 ≤ n) : ∃ g c, v = .slice (some ⟨g, 0, none⟩) m c := by
  subst e
  rcases own_form h with ⟨_, h0⟩ | ⟨g, c, e⟩
  · omega
  · exact ⟨g, c, e⟩
set_option maxRecDepth 100000 in
set_option maxHeartbeats 6400000 in
theorem lay_any (n0 n : Nat) (X : List Nat) (w : World) (g b : Nat) (B : BookS) (D : DiskS) (rv : Value) (hK : KBookAt n0 X w g b B D rv) (hX : ∀ x ∈ X, x < w.heap.size) (hn0 : n0 ≤ w.heap.size) (ho : BookOK n B) (hnl : D.last.length = n) (hon : D.on = true)
    (hwl : D.wait.length ≤ 100000000) (hf : D.fuse ≤ 9223372036854775807) (hk : D.keep.length ≤ 9223372036854775807)
    (p t used : Nat) (hp : p ≤ 1) (ht : t ≤ 4294967295) (hv : Value) (L : List ByteArray) (hvL : w.ownsRow 0 9 1 hv L.length (strsV L)) (hvr : hv = rv ∨ hv = .slice none 0 0) (hLu : L.length ≤ used) (s : ByteArray) (hs : s.size ≤ 900) (hus : used + partsN s.size ≤ B.size) (hr : ShaReady w) (hsX : n0 ≤ 0 → False) (hrX : n0 ≤ 1 → False) :
    Calls Tryd.prog 17 #[.pointer (some ⟨g, 0, none⟩), .int .i64 p, .agg #[.int .u32 t, hv, .int .i64 used], .string s] w fun e w' =>
      e = .returned (.int .i64 (layS B D p t L used s).1) ∧ KBook n0 X w' g b (layS B D p t L used s).2.1 (layS B D p t L used s).2.2 ∧ Turn (rest n0 X) w w' := by
  obtain ⟨ha, hc, rfl⟩ := slice_own' hvL
  have hgl := hK.mem.lt.1
  obtain ⟨HB, hHB⟩ : ∃ HB, w.heap.size = HB := ⟨_, rfl⟩
  obtain ⟨w1, hW1⟩ : ∃ w1, w.alloc (.cells #[.int .u32 t, .slice ha L.length hc, .int .i64 used] 43) = w1 := ⟨_, rfl⟩
  have hh1 : w1.heap[HB]? = some (.cells #[.int .u32 t, .slice ha L.length hc, .int .i64 used] 43 (0, 0)) := by rw [← hW1]; exact heap_alloc_at _ _ _ hHB
  have hg1 : w.grownBy w1 none := by rw [← hW1]; exact World.grownBy_alloc _ _ _
  have hB1 : w1.heap.size = HB + 1 := by rw [← hW1]; simp; omega
  obtain ⟨Y, hY⟩ : ∃ Y, HB :: (ownB rv ++ g :: X) = Y := ⟨_, rfl⟩
  have HYm : Hid (HB ∈ Y ∧ g ∈ Y ∧ (∀ x, rv.ownBlock = some x → x ∈ Y) ∧ ∀ x ∈ X, x ∈ Y) := by
    rw [← hY]
    refine ⟨by simp, by simp, fun x e => ?_, fun x hx => by simp [hx]⟩
    simp only [List.mem_cons, List.mem_append]
    exact .inr (.inl (ownB_mem.2 e))
  have HYl : Hid (∀ x ∈ Y, x < w1.heap.size) := by
    rw [← hY]
    intro x hx
    simp only [List.mem_cons, List.mem_append] at hx
    rcases hx with rfl | hx | rfl | hx
    · omega
    · have := hK.mem.lt.2 x (ownB_mem.1 hx); omega
    · omega
    · have := hX x hx; omega
  have HD1 : Hid (KDisk n0 Y w1 b D) := hK.disk.more hg1 (by
    rw [← hY]
    intro x hx
    rcases List.mem_cons.1 hx with rfl | hx
    · exact .inr (by omega)
    · exact .inl hx)
  have HM1 := Lib.hid (hK.mem.grown hg1)
  have hgHB : g ≠ HB := by omega
  have HOK := Lib.hid ho
  have hfi := ho.area
  have hfew := ho.few
  have hpz : p * B.size ≤ 1 * B.size := Nat.mul_le_mul_right _ hp
  have hpN := partsN_le s.size hs
  have hp1 := partsN_pos s.size
  have HBEG : Hid (∀ w', w1.grownBy w' none → Calls Tryd.prog 21 #[.pointer (some ⟨g, 0, none⟩), .int .i64 p] w' fun e w'' => e = .returned (.int .i64 (B.first + p * B.size : Nat)) ∧ w'.grownBy w'' none) :=
    fun w' h => begin_any w' g b B rv (HM1.out.grown h) p n hp HOK.out
  have HNXT : Hid (∀ w', w1.grownBy w' none → Calls Tryd.prog 27 #[.agg #[.int .u32 t, .slice ha L.length hc, .int .i64 used], .string s] w' fun e w'' => ∃ v, e = .returned v ∧ w''.ownsRow w'.heap.size 9 1 v (partsN s.size) (strsV (nextS t L.length s)) ∧ w'.grownBy w'' none) :=
    fun w' h => next_any t L.length ht (by omega) ha hc _ s hs w' ((hr.grown hg1).grown h)
  have HNL := Lib.hid (nextS_length t L.length s)
  have HNZ := Lib.hid (nextS_size t L.length s)
  have HLAY : Hid (layS B D p t L used s = if (writesS D (B.first + p * B.size + used) (nextS t L.length s)).1 = 0 then (0, { B with place := p, turn := t, recs := L ++ [s], used := used + partsN s.size }, (writesS D (B.first + p * B.size + used) (nextS t L.length s)).2) else ((writesS D (B.first + p * B.size + used) (nextS t L.length s)).1, { B with failed := true }, (writesS D (B.first + p * B.size + used) (nextS t L.length s)).2)) := rfl
  obtain ⟨A, hA⟩ : ∃ A, B.first + p * B.size = A := ⟨_, rfl⟩
  rw [hA] at HBEG HLAY
  obtain ⟨AT, hAT⟩ : ∃ AT, A + used = AT := ⟨_, rfl⟩
  rw [hAT] at HLAY
  obtain ⟨N, hN⟩ : ∃ N, nextS t L.length s = N := ⟨_, rfl⟩
  rw [hN] at HNXT HNL HNZ HLAY
  have hATn : AT + N.length ≤ D.last.length := by rw [HNL.out, hnl]; have := Nat.le_trans hpz (by omega : 1 * B.size ≤ B.size); rw [← hAT, ← hA]; rcases (by omega : p = 0 ∨ p = 1) with rfl | rfl <;> omega
  have HWRT : Hid (∀ (w' : World) (vg cc : Nat), w1.grownBy w' none → w'.ownsRow w1.heap.size 9 1 (.slice (some ⟨vg, 0, none⟩) N.length cc) N.length (strsV N) → Calls Tryd.prog 26 #[.pointer (some ⟨g, 0, none⟩), .int .i64 AT, .slice (some ⟨vg, 0, none⟩) N.length cc] w' fun e w'' =>
      e = .returned (.int .i64 (writesS D AT N).1) ∧ KDisk n0 Y w'' b (writesS D AT N).2 ∧ Turn (rest n0 Y) w' w'') := by
    intro w' vg cc hg' hrow
    have hvg := hrow.lt vg rfl
    have hsz := hg'.size
    refine (write_all n0 (vg :: Y) w' g b (bookCells b B rv).tail D ?_ (by have := hg1.size; omega) (by simp [HYm.out.2.1]) ?_ AT vg 0 cc N (strs_own hrow) (by simp) (fun t ht => by rw [HNZ.out t ht]; decide) ?_ hon hATn (by omega) hwl hf hk (by rw [HNL.out]; exact hp1)).mono ?_
    · intro x hx
      rcases List.mem_cons.1 hx with rfl | hx
      · exact hvg.2
      · exact Nat.lt_of_lt_of_le (HYl.out x hx) hsz
    · exact (HM1.out.grown hg').blk
    · exact HD1.out.more hg' (by
        intro x hx
        rcases List.mem_cons.1 hx with rfl | hx
        · exact .inr hvg.1
        · exact .inl hx)
    · rintro e w'' ⟨rfl, q1, q2⟩
      exact ⟨rfl, KDisk.of q1 (fun i _ q => ⟨q.1.1, fun hy => q.1.2 (by simp [hy])⟩), rest_mono (fun x hx => by simp [hx]) q2⟩
  have HDIV := Lib.hid (And.intro hp1 (And.intro hpN hus))
  have hA1 : A ≤ 2048 := by rw [← hA]; rcases (by omega : p = 0 ∨ p = 1) with rfl | rfl <;> omega
  have hu1 : used ≤ 1024 := by omega
  have e1 : (A : Int) + (used : Int) = (AT : Int) := by omega
  have e2 : IntKind.i64.wrap (AT : Int) = (AT : Int) := wrap_i64_nat AT (by omega)
  have HS1 : Hid (w1.cell? ⟨HB, 0, none⟩ = some (.int .u32 t) ∧ w1.cell? ⟨HB, 1, none⟩ = some (.slice ha L.length hc) ∧ w1.cell? ⟨HB, 2, none⟩ = some (.int .i64 used)) := ⟨cell_of hh1 0, cell_of hh1 1, cell_of hh1 2⟩
  have HH1 := Lib.hid hh1
  have HKK := Lib.hid (And.intro hK (And.intro hX hn0))
  have HV := Lib.hid (And.intro hvL (And.intro hvr (And.intro hLu hs)))
  have HG1 := Lib.hid hg1
  have HAA := Lib.hid (And.intro hA (And.intro hAT hN))
  have HSR := Lib.hid (And.intro hsX hrX)
  have HB1 := Lib.hid hB1
  have HP := Lib.hid (And.intro hp (And.intro ht hgHB))
  clear hh1 hK hX hn0 hvL hvr hLu hs hg1 hA hAT hN hsX hrX hr ho hgl hATn hnl hwl hf hk hon hpz hfi hfew hpN hp1 hus hY hp ht hgHB
  go_enter Tryd.func17, Tryd.ntmps17
  go_upto_region 1 with (fail)
  go_cut [9] (fun ev wx => ev = .int .i64 (writesS D AT N).1 ∧ Hid (wx.heap[HB]? = some (.cells #[.int .u32 t, .slice ha L.length hc, .int .i64 used] 43 (0, 0))) ∧ Hid (KDisk n0 Y wx b (writesS D AT N).2) ∧ Hid (Turn (rest n0 Y) w1 wx))
  case first =>
    have hG : w1.grownBy w1.drew none := grownBy_drew (World.grownBy.refl _ _)
    go_wp2_with fail
    go_region_held3 (fun w' => w'.cell? ⟨HB, 0, none⟩ = some (.int .u32 t) ∧ w'.cell? ⟨HB, 1, none⟩ = some (.slice ha L.length hc) ∧ w'.cell? ⟨HB, 2, none⟩ = some (.int .i64 used)) (first | exact ck | exact HS1.out)
      (first
        | (go_at_call 21; refine (HBEG.out _ hG).mono ?_; rintro e wb ⟨rfl, hb⟩; (try have hR := own_turn hR (S := fun _ => False) (Turn.of_grown hb) (fun _ _ q => q)); have hG := grownBy_trans hG hb; have ck := held_ck HS1.out hG)
        | (go_at_call 27; refine (HNXT.out _ hG).mono ?_; rintro e wn ⟨v, rfl, hR0, hn⟩; have hR := own_down hR0 hG.size; have hG := grownBy_trans hG hn; have ck := held_ck HS1.out hG)
        | (go_at_call 26; (obtain ⟨vg, vc, rfl⟩ : ∃ vg vc, v = .slice (some ⟨vg, 0, none⟩) N.length vc := form_pos hR HNL.out HDIV.out.1); rw [← HNL.out] at hR; refine (HWRT.out _ vg vc hG hR).mono ?_; rintro e ww ⟨rfl, hd, htt⟩; have ck := turn_ck (held_ck HS1.out hG) htt HYm.out.1 (Nat.lt_of_lt_of_le (by have := HB1.out; omega) hG.size)))
    go_wp2_with fail
    go_meet
    case rel => exact ⟨rfl, htt.inX HYm.out.1 (hG.heap HH1.out (by simp)), hd, (Turn.of_grown hG).then htt⟩
  case rest =>
    obtain ⟨rfl, HHB, HDc, HTc⟩ := hcut
    have hbk : wc.heap[g]? = some (.cells (bookCells b B rv).toArray 45 (0, 0)) := HTc.out.inX HYm.out.2.1 HM1.out.blk
    have HBK := Lib.hid hbk
    have HLT := Lib.hid (Nat.le_trans HG1.out.size HTc.out.size)
    have HROW : Hid (wc.ownsRow 0 9 1 rv B.recs.length (strsV B.recs)) := own_turn HM1.out.recs HTc.out (fun x e q => q.2 (HYm.out.2.2.1 x e))
    have HTW : Hid (Turn (rest n0 X) w wc) := rest_mono HYm.out.2.2.2 ((Turn.of_grown HG1.out).then HTc.out)
    obtain ⟨R, hR⟩ : ∃ R, writesS D AT N = R := ⟨_, rfl⟩
    rw [hR] at HLAY HDc ⊢
    have b0 := cell_of hbk 0
    have b3 := cell_of hbk 3
    have b4 := cell_of hbk 4
    have b5 := cell_of hbk 5
    have b6 := cell_of hbk 6
    have b7 := cell_of hbk 7
    have f7 := free_of hbk 7
    simp [bookCells] at b0 b3 b4 b5 b6 b7
    clear hbk hR
    by_cases h0 : R.1 = 0
    · have hl := HLAY.out
      rw [if_pos h0] at hl
      have HL := Lib.hid hl
      have e3 : (R.1 == 0) = true := by simpa using h0
      have e4 : (R.1 != 0) = false := by simpa using h0
      have k0 := cell_of HHB.out 0
      have k1 := cell_of HHB.out 1
      have k2 := cell_of HHB.out 2
      simp at k0 k1 k2
      have hvb : ∀ x, (Value.slice ha L.length hc).ownBlock = some x → rv.ownBlock = some x := by
        intro x e
        rcases HV.out.2.1 with h | h
        · rw [← h]; exact e
        · injection h with h1 h2 h3; subst h1; simp [Value.ownBlock] at e
      have hvw : wc.ownsRow 0 9 1 (.slice ha L.length hc) L.length (strsV L) :=
        own_turn (own_turn HV.out.1 (S := fun _ => False) (Turn.of_grown HG1.out) (fun _ _ q => q)) HTc.out (fun x e q => q.2 (HYm.out.2.2.1 x (hvb x e)))
      have HWI := Lib.hid (with_any t used _ L s (by have := HV.out.2.2.2; omega) (by omega) (by have := HV.out.2.2.1; omega) wc hvw)
      have HVB := Lib.hid hvb
      clear hl h0 hvb hvw
      go_wp2_with fail
      refine HWI.out.mono ?_
      rintro e w2 ⟨g2, c2, rfl, hrow, hg2, hat⟩
      have hne : (Value.slice ha L.length hc).ownBlock ≠ some g := fun e => (HKK.out.1.rn g (HVB.out g e)).2.2 rfl
      have hbk2 : w2.heap[g]? = some (.cells (bookCells b B rv).toArray 45 (0, 0)) := hg2.heap HBK.out hne
      have hgc : g < wc.heap.size := (Array.getElem?_eq_some_iff.1 HBK.out).1
      have hg2g : g2 ≠ g := by
        rcases hat with e | e
        · intro h; exact hne (by rw [← h]; exact e)
        · omega
      have c3 := cell_of hbk2 3
      have c4 := cell_of hbk2 4
      have c5 := cell_of hbk2 5
      have c6 := cell_of hbk2 6
      have f3 := free_of hbk2 3
      have f4 := free_of hbk2 4
      have f5 := free_of hbk2 5
      have f6 := free_of hbk2 6
      simp [bookCells] at c3 c4 c5 c6
      have HBK2 := Lib.hid hbk2
      have HW2 := Lib.hid (And.intro hrow (And.intro hg2 (And.intro hat hg2g)))
      clear hbk2 hrow hg2 hat hg2g hne b0 b3 b4 b5 b6 b7 f7 k0 k1 k2
      go_wp2_with fail
      go_ret
      rw [HL.out]
      have t2 : Turn (fun i => (Value.slice ha L.length hc).ownBlock = some i) wc w2 := (Turn.refl _ wc).row HW2.out.2.1 (fun i _ e => e)
      have t3 : Turn (fun i => i = g) w2 ((((w2.setCell ⟨g, 3, none⟩ (.int .i64 p)).setCell ⟨g, 4, none⟩ (.int .u32 t)).setCell ⟨g, 5, none⟩ (.slice (some ⟨g2, 0, none⟩) (L.length + 1) c2)).setCell ⟨g, 6, none⟩ (.int .i64 (used + partsN s.size : Nat))) :=
        (((((Turn.refl (fun i => i = g) w2).setCell (fun _ => rfl) _ _).setCell (fun _ => rfl) _ _).setCell (fun _ => rfl) _ _).setCell (fun _ => rfl) _ _)
      have hmem : ∀ x, (Value.slice (some ⟨g2, 0, none⟩) (L.length + 1) c2).ownBlock = some x → x = g2 := fun x e => by simpa [Value.ownBlock] using e.symm
      have hn0 : n0 ≤ wc.heap.size := Nat.le_trans HKK.out.2.2 HLT.out
      refine ⟨rfl, ⟨.slice (some ⟨g2, 0, none⟩) (L.length + 1) c2, ⟨?_, ?_⟩, HKK.out.1.gn, HKK.out.1.gX, ?_, ?_⟩, ?_⟩
      · rw [heap_setCell (heap_setCell (heap_setCell (heap_setCell HBK2.out 3 _) 4 _) 5 _) 6 _]; rfl
      · have : (L ++ [s]).length = L.length + 1 := by simp
        show World.ownsRow _ 0 _ 1 _ (L ++ [s]).length _
        rw [this]
        exact own_turn HW2.out.1 t3 (fun x e q => HW2.out.2.2.2 ((hmem x e).symm.trans q))
      · intro x e
        rw [hmem x e]
        rcases HW2.out.2.2.1 with e2 | e2
        · exact HKK.out.1.rn g2 (HVB.out g2 e2)
        · exact ⟨Nat.le_trans hn0 e2, fun hx => by have := HKK.out.2.1 g2 hx; have := HLT.out; omega, HW2.out.2.2.2⟩
      · refine KDisk.turnMore (KDisk.turnMore HDc.out t2 (fun i _ e => HYm.out.2.2.1 i (HVB.out i e)) (Y := g2 :: g :: X) (fun i hi => ?_)) t3 (fun i _ e => by rw [e]; simp) (fun i hi => .inl ?_)
        · rcases List.mem_cons.1 hi with rfl | hi
          · rcases HW2.out.2.2.1 with e2 | e2
            · exact .inl (HYm.out.2.2.1 _ (HVB.out _ e2))
            · exact .inr e2
          · rcases List.mem_cons.1 hi with rfl | hi
            · exact .inl HYm.out.2.1
            · exact .inl (HYm.out.2.2.2 i hi)
        · simp only [List.mem_append, List.mem_cons] at hi ⊢
          rcases hi with hi | hi
          · exact .inl (hmem i (ownB_mem.1 hi))
          · exact .inr hi
      · refine (HTW.out.trans t2 (fun i _ e => ?_)).trans t3 (fun i _ e => by rw [e]; exact ⟨HKK.out.1.gn, HKK.out.1.gX⟩)
        have := HKK.out.1.rn i (HVB.out i e)
        exact ⟨this.1, this.2.1⟩
    · have e3 : (R.1 == 0) = false := by simpa using h0
      have e4 : (R.1 != 0) = true := by simpa using h0
      have hl := HLAY.out
      rw [if_neg h0] at hl
      have HL := Lib.hid hl
      clear hl h0
      go_wp2_with fail
      go_ret
      rw [HL.out]
      have t7 : Turn (fun i => i = g) wc (wc.setCell ⟨g, 7, none⟩ (.bool true)) := (Turn.refl (fun i => i = g) wc).setCell (fun _ => rfl) _ _
      refine ⟨rfl, ⟨rv, ⟨?_, own_turn HROW.out t7 (fun x e q => (HKK.out.1.rn x e).2.2 q)⟩, HKK.out.1.gn, HKK.out.1.gX, HKK.out.1.rn, ?_⟩, ?_⟩
      · rw [heap_setCell HBK.out]; rfl
      · exact KDisk.turnMore HDc.out t7 (fun i _ e => by rw [e]; exact HYm.out.2.1) (fun i hi => .inl (by
          simp only [List.mem_append, List.mem_cons] at hi
          rcases hi with hi | rfl | hi
          · exact HYm.out.2.2.1 i (ownB_mem.1 hi)
          · exact HYm.out.2.1
          · exact HYm.out.2.2.2 i hi))
      · exact HTW.out.trans t7 (fun i _ e => by rw [e]; exact ⟨HKK.out.1.gn, HKK.out.1.gX⟩)
end Go.Proofs.YtfpbnfjlabhhoaaDoor
