/- The walks of a book's sectors, of halfOf where nothing stands. -/
import Derived.Test.YtfpbnfjlabhhoaaDoorLbE
import Derived.Test.YtfpbnfjlabhhoaaDoorOctetR
namespace Go.Proofs.YtfpbnfjlabhhoaaDoor
open Go.RowKit
attribute [local irreducible] shaL

/-- what is read of the sectors from A on: the first k -/
def secsK (D : DiskS) (A k : Nat) : List ByteArray := (List.range k).map fun i => str (readL D.last D.wait (A + i))
theorem secsK_length (D : DiskS) (A k : Nat) : (secsK D A k).length = k := by simp [secsK]
theorem secsK_succ (D : DiskS) (A k : Nat) : secsK D A (k + 1) = secsK D A k ++ [str (readL D.last D.wait (A + k))] := by simp [secsK, List.range_succ]

set_option maxRecDepth 100000 in
set_option maxHeartbeats 3200000 in
theorem sectors_any (F : Nat → Prop) (n : Nat) (w : World) (g b : Nat) (B : BookS) (D : DiskS) (rv : Value) (hM : BookMem w g b B rv) (hD : DiskAt F w b D) (ho : BookOK n B) (hnl : D.last.length = n) (hon : D.on = true) (hwl : D.wait.length ≤ 1000000000) (p : Nat) (hp : p ≤ 1) :
    Calls Tryd.prog 13 #[.pointer (some ⟨g, 0, none⟩), .int .i64 p] w fun e w' => ∃ v, e = .returned (.tuple #[v, .int .i64 0]) ∧ w'.ownsRow w.heap.size 9 1 v B.size (strsV (secsK D (B.first + p * B.size) B.size)) ∧ w.grownBy w' none := by
  obtain ⟨i0, hi, hz0, hz1, hz2⟩ := info_parts infoStrW
  have hfi := ho.area
  have hfew := ho.few
  have hpz : p * B.size ≤ 1 * B.size := Nat.mul_le_mul_right _ hp
  have HBEG : Hid (∀ w', w.grownBy w' none → Calls Tryd.prog 21 #[.pointer (some ⟨g, 0, none⟩), .int .i64 p] w' fun e w'' => e = .returned (.int .i64 (B.first + p * B.size : Nat)) ∧ w'.grownBy w'' none) :=
    fun w' h => begin_any w' g b B rv (hM.grown h) p n hp ho
  obtain ⟨A, hA⟩ : ∃ A, B.first + p * B.size = A := ⟨_, rfl⟩
  have hAn : A + B.size ≤ n := by rw [← hA]; rcases (by omega : p = 0 ∨ p = 1) with rfl | rfl <;> omega
  rw [hA] at HBEG ⊢
  have HRD : Hid (∀ (w' : World) (i : Nat), w.grownBy w' none → i < n → Calls Tryd.prog 20 #[.pointer (some ⟨b, 0, none⟩), .int .i64 i] w' fun e w'' => e = .returned (.tuple #[.string (str (readL D.last D.wait i)), .int .i64 0]) ∧ w'.grownBy w'' none) :=
    fun w' i h hi => read_ok _ b i D w' (hD.grown h) hon (by omega) hwl
  obtain ⟨c0, _, c2, _⟩ := hM.at_
  have HC0 := Lib.hid c0
  have HNX : Hid (∀ k, secsK D A (k + 1) = secsK D A k ++ [str (readL D.last D.wait (A + k))]) := secsK_succ D A
  have HNL : Hid (∀ k, (secsK D A k).length = k) := secsK_length D A
  obtain ⟨N, hN⟩ : ∃ N, B.size = N := ⟨_, rfl⟩
  rw [hN] at c2 hAn ⊢
  have hN1 : (N : Int) ≤ 1024 := by omega
  have hN0 : (0 : Int) ≤ (N : Int) := by omega
  clear c0 hM hD ho hpz hA hfi hN
  go_enter Tryd.func13, Tryd.ntmps13
  go_wp2_with (at_make; refine wpList_make_full _ rfl _ _ 32 rfl w.heap.size 9 i0 (.string ⟨#[]⟩) 1 Tryd.underlying32 hi hz0 hz1 _ _ _ _ N rfl rfl rfl rfl ?c1 ?c2 ?c3 ?_)
  case c1 => rw [hz2]; omega
  case c2 => unfold maxLen; omega
  case c3 => exact Nat.le_refl _
  intro w3 hown hg
  have hm : (madeCells #[Value.string ⟨#[]⟩] N).toList = strsV (fillS (secsK D A 0) N) := made_strs N
  rw [hm] at hown
  obtain ⟨vg, hvg⟩ : ∃ vg, w.heap.size = vg := ⟨_, rfl⟩
  rw [hvg] at hown ⊢
  have HO3 := Lib.hid hown
  have HG3 := Lib.hid hg
  have HVG := Lib.hid hvg
  clear hown hg hm hvg c2
  go_wp2_with fail
  go_loopw [17] (fun iv wr => ∃ k : Nat, k ≤ N ∧ iv = .int .i64 k ∧ Hid (wr.ownsRow vg 9 1 (.slice (some ⟨vg, 0, none⟩) N N) N (strsV (fillS (secsK D A k) N))) ∧ Hid (w.grownBy wr none)) (fun iv _ => N - (intOf iv).toNat)
  case atStart => exact ⟨0, Nat.zero_le _, rfl, HO3.out, HG3.out⟩
  case round =>
    clear HO3 HG3
    obtain ⟨k, hk, rfl, HO, HG⟩ := hrel
    by_cases hlt : k < N
    · have d1 : (k : Int) < (N : Int) := by omega
      have d0 : (0 : Int) ≤ (k : Int) := by omega
      obtain ⟨q, hq⟩ : ∃ q, A + k = q := ⟨_, rfl⟩
      have e1 : (A : Int) + (k : Int) = (q : Int) := by omega
      have e2 := wrap_i64_nat q (by omega)
      have hnx := HNX.out k
      have hat := fillS_at (secsK D A k) N (by rw [HNL.out]; exact hlt)
      have hput := fillS_put (secsK D A k) N (str (readL D.last D.wait (A + k))) (by rw [HNL.out]; exact hlt)
      rw [HNL.out] at hat hput
      rw [← hnx, hq] at hput
      have HR := Lib.hid (fun w' (h : w.grownBy w' none) => HRD.out w' q h (by omega))
      generalize str (readL D.last D.wait q) = S at HR hput
      have HP := Lib.hid (And.intro hput hat)
      have hC : wr.cell? ⟨g, 0, none⟩ = some (.pointer (some ⟨b, 0, none⟩)) := HG.out.cell HC0.out (by simp)
      have HCC := Lib.hid hC
      have hG : w.grownBy wr.drew none := grownBy_drew HG.out
      have hRow := World.ownsRow.drew HO.out
      clear hnx hat hput hq hC
      go_wp2_with fail
      go_region_held3 (fun w' => w'.cell? ⟨g, 0, none⟩ = some (.pointer (some ⟨b, 0, none⟩))) (first | exact ck | exact HCC.out)
        (first
          | (go_at_call 21; refine (HBEG.out _ hG).mono ?_; rintro e wb ⟨rfl, hb⟩; have hRow := own_turn hRow (S := fun _ => False) (Turn.of_grown hb) (fun _ _ q => q); have hG := grownBy_trans hG hb; have ck := hG.cell HC0.out (by simp))
          | (go_at_call 20; refine (HR.out _ hG).mono ?_; rintro e wd ⟨rfl, hd⟩; have hRow := own_turn hRow (S := fun _ => False) (Turn.of_grown hd) (fun _ _ q => q); have hG := grownBy_trans hG hd; have ck := hG.cell HC0.out (by simp)))
      have hf := hRow.frozenAt k
      have hc : wd.cell? ⟨vg, k, none⟩ = some (.string ⟨#[]⟩) := (hRow.cellAt k (by omega)).trans HP.out.2
      have HRow := Lib.hid hRow
      have HGd := Lib.hid hG
      clear hRow hG ck
      go_wp2_with fail
      go_roundw
      case rel =>
        refine ⟨k + 1, by omega, by go_num, ?_, grownBy_setNew HGd.out (by rw [HVG.out]; exact Nat.le_refl _) _ _⟩
        show World.ownsRow _ _ _ _ _ _ _
        rw [← HP.out.1]
        exact (HRow.out.stored _ _).1
      case measure => simp [intOf]; omega
    · have hkN : k = N := by omega
      subst hkN
      have d1 : ¬ (k : Int) < (k : Int) := by omega
      have hrow := HO.out
      rw [fillS_full _ _ (HNL.out k)] at hrow
      have HRW := Lib.hid hrow
      clear hrow HO
      go_wp2_with fail
      go_returns
      exact ⟨_, rfl, by rw [HVG.out]; exact HRW.out, HG.out⟩

/-- a half's turn, as its first sector tells it -/
def turnOf (s : ByteArray) : Nat := val (s.data.toList.take 4)
theorem num4 (s : ByteArray) (h : s.size = 64) : ((⟨s, 0⟩ : RSt).num 4).1 = turnOf s := by
  unfold RSt.num
  rw [if_pos ⟨by decide, by decide⟩]
  unfold RSt.fixed turnOf
  rw [if_neg (by simp), if_neg (by decide), if_neg (by show ¬ ((s.size : Nat) : Int) < 4; omega)]
  show val (s.extract 0 4).data.toList = val (s.data.toList.take 4)
  rw [ByteArray.data_extract]
  simp
theorem turnOf_lt (s : ByteArray) (h : s.size = 64) : turnOf s < 4294967296 := by
  have := val_lt (s.data.toList.take 4)
  have h2 : (s.data.toList.take 4).length = 4 := by rw [List.length_take]; show min 4 s.size = 4; omega
  rw [h2] at this
  exact this
set_option maxRecDepth 100000 in
set_option maxHeartbeats 1600000 in
/-- nothing stands there -/
theorem halfOf_none (w : World) (v : Value) (s : ByteArray) (r : List ByteArray) (hv : StrsAt w v (s :: r)) (hs : s.size = 64) (h0 : turnOf s = 0) (hr : r.length ≤ 1024) :
    Calls Tryd.prog 14 #[v] w fun e w' => e = .returned (.agg #[.int .u32 0, .slice none 0 0, .int .i64 0]) ∧ w.grownBy w' none := by
  obtain ⟨a, c, rfl⟩ := hv.form
  obtain ⟨vg, vo, rfl, hc⟩ := hv.at_ 0 s rfl
  rw [Nat.add_zero] at hc
  have hn4 := num4 s hs
  rw [h0] at hn4
  have hlen : (s :: r).length = r.length + 1 := rfl
  rw [hlen]
  have hpos : (0 : Int) < ((r.length + 1 : Nat) : Int) := by omega
  have HC := Lib.hid hc
  have HN := Lib.hid hn4
  have HSZ := Lib.hid hs
  clear hv h0 hn4 hlen hs
  go_enter Tryd.func14, Tryd.ntmps14
  obtain ⟨w1, hW1⟩ : ∃ w1, w.alloc (.cells #[.int .u32 0, .slice none 0 0, .int .i64 0] 43) = w1 := ⟨_, rfl⟩
  have hc1 : w1.cell? ⟨vg, vo, none⟩ = some (.string s) := by rw [← hW1]; exact (World.grownBy_alloc w _ none).cell HC.out (by simp)
  have hr1 : w1.heap[w.heap.size]? = some (.cells #[.int .u32 0, .slice none 0 0, .int .i64 0] 43 (0, 0)) := by rw [← hW1]; exact heap_alloc_at _ _ _ rfl
  have hg1 : w.grownBy w1 none := by rw [← hW1]; exact World.grownBy_alloc _ _ _
  go_wp2_with fail
  refine (read_any s w1).mono ?_
  rintro e w2 ⟨rfl, hrd, hg2⟩
  have HRD := Lib.hid hrd
  have HRS : Hid (RsAt w2 (some ⟨w1.heap.size, 0, none⟩) (some ⟨s, 0⟩)) := ⟨_, rfl, hrd⟩
  have hr2 := hg2.heap hr1 (by simp)
  have hG2 := grownBy_trans hg1 hg2
  clear hrd hg2 hr1 hc1
  go_wp2_with fail
  refine (rnum_any 4 w2 _ _ HRS.out (by rintro x ⟨⟩; show s.size ≤ _; rw [HSZ.out]; decide)).mono ?_
  rintro e w3 ⟨rfl, hrs, hg3⟩
  have hz : ((Option.map (fun s => (RSt.num s 4).1) (some (⟨s, 0⟩ : RSt))).getD 0) = 0 := HN.out
  rw [hz]
  have hlt1 : w.heap.size < w1.heap.size := by rw [← hW1]; simp
  have hr3 := hg3.heap hr2 (by show some w1.heap.size ≠ some w.heap.size; simp; omega)
  have hG3 := grown_row hG2 hg3 (by intro x e; have : w1.heap.size = x := by simpa [prow] using e
                                    omega)
  have HR3 := Lib.hid hr3
  have HG3 := Lib.hid hG3
  clear hrs hr2 hr3 hG2 hG3 hg3 hz HRS HRD
  obtain ⟨w3b, hW3b⟩ : ∃ w3b, w3.alloc (.cells #[.int .u32 0, .slice none 0 0, .int .i64 0] 43) = w3b := ⟨_, rfl⟩
  have hz3 : w3b.heap[w3.heap.size]? = some (.cells #[.int .u32 0, .slice none 0 0, .int .i64 0] 43 (0, 0)) := by rw [← hW3b]; exact heap_alloc_at _ _ _ rfl
  have hg3b : w3.grownBy w3b none := by rw [← hW3b]; exact World.grownBy_alloc _ _ _
  have x0 := cell_of hz3 0
  have x1 := cell_of hz3 1
  have x2 := cell_of hz3 2
  have y0 := free_of hz3 0
  have y1 := free_of hz3 1
  have y2 := free_of hz3 2
  simp at x0 x1 x2
  obtain ⟨w4, hW4⟩ : ∃ w4, ((w3b.setCell ⟨w3.heap.size, 0, none⟩ (.int .u32 0)).setCell ⟨w3.heap.size, 1, none⟩ (.slice none 0 0)).setCell ⟨w3.heap.size, 2, none⟩ (.int .i64 0) = w4 := ⟨_, rfl⟩
  have hz4 : w4.heap[w3.heap.size]? = some (.cells #[.int .u32 0, .slice none 0 0, .int .i64 0] 43 (0, 0)) := by
    rw [← hW4, heap_setCell (heap_setCell (heap_setCell hz3 0 _) 1 _) 2 _]; rfl
  have hlt3 : w.heap.size ≤ w3.heap.size := HG3.out.size
  have hne3 : w3.heap.size ≠ w.heap.size := by have := (Array.getElem?_eq_some_iff.1 HR3.out).1; omega
  have hg4 : w.grownBy w4 none := by
    rw [← hW4]
    exact grownBy_setNew (grownBy_setNew (grownBy_setNew (grownBy_trans HG3.out hg3b) hlt3 _ _) hlt3 _ _) hlt3 _ _
  have hr4 : w4.heap[w.heap.size]? = some (.cells #[.int .u32 0, .slice none 0 0, .int .i64 0] 43 (0, 0)) := by
    rw [← hW4, heap_setCell_ne _ _ _ _ hne3, heap_setCell_ne _ _ _ _ hne3, heap_setCell_ne _ _ _ _ hne3]
    exact hg3b.heap HR3.out (by simp)
  have r0 := cell_of hr4 0
  have r1 := cell_of hr4 1
  have r2 := cell_of hr4 2
  have q0 := free_of hr4 0
  have q1 := free_of hr4 1
  have q2 := free_of hr4 2
  simp at r0 r1 r2
  have z0 := cell_of hz4 0
  simp at z0
  have HG4 := Lib.hid (And.intro hg4 hr4)
  clear hg4 hr4 hz4 hz3 hg3b
  go_wp2_with fail
  obtain ⟨w5, hW5⟩ : ∃ w5, ((w4.setCell ⟨w.heap.size, 0, none⟩ (.int .u32 0)).setCell ⟨w.heap.size, 1, none⟩ (.slice none 0 0)).setCell ⟨w.heap.size, 2, none⟩ (.int .i64 0) = w5 := ⟨_, rfl⟩
  rw [hW5]
  have hr5 : w5.heap[w.heap.size]? = some (.cells #[.int .u32 0, .slice none 0 0, .int .i64 0] 43 (0, 0)) := by
    rw [← hW5, heap_setCell (heap_setCell (heap_setCell HG4.out.2 0 _) 1 _) 2 _]; rfl
  have p0 := cell_of hr5 0
  have p1 := cell_of hr5 1
  have p2 := cell_of hr5 2
  simp at p0 p1 p2
  have hg5 : w.grownBy w5 none := by
    rw [← hW5]
    exact grownBy_setNew (grownBy_setNew (grownBy_setNew HG4.out.1 (Nat.le_refl _) _ _) (Nat.le_refl _) _ _) (Nat.le_refl _) _ _
  exact bodyPost_ret (v := .agg #[.int .u32 0, .slice none 0 0, .int .i64 0]) (by simp [results, Tryd.results14, go_sem, p0, p1, p2]; try rfl) rfl ⟨rfl, hg5⟩
end Go.Proofs.YtfpbnfjlabhhoaaDoor
