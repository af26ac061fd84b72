/- The walk of a half's next. -/
import Derived.Test.YtfpbnfjlabhhoaaDoorLbA
namespace Go.Proofs.YtfpbnfjlabhhoaaDoor
open Go.RowKit
attribute [local irreducible] shaL

/-- what lies there in next: the half, the row of sectors -/
structure NextAt (w wr : World) (HB g n : Nat) (half : Array Value) (L : List ByteArray) : Prop where
  half : wr.heap[HB]? = some (.cells half 43 (0, 0))
  row : wr.ownsRow w.heap.size 9 1 (.slice (some ⟨g, 0, none⟩) n n) n (strsV L)
  grow : w.grownBy wr none
  old : w.heap.size ≤ HB ∧ w.heap.size ≤ g ∧ HB ≠ g
theorem NextAt.step {w wr w' : World} {HB g n : Nat} {half : Array Value} {L : List ByteArray} {r : Option Nat} (h : NextAt w wr HB g n half L) (k : wr.grownBy w' r) (hb : r ≠ some HB) (hg : r ≠ some g) (hn : ∀ x, r = some x → w.heap.size ≤ x) : NextAt w w' HB g n half L :=
  ⟨(k.block HB (Array.getElem?_eq_some_iff.1 h.half).1 (fun e => hb e.symm)).trans h.half,
   own_turn h.row ((Turn.refl (fun i => r = some i) wr).row k (fun i _ e => e)) (fun x hx e => by cases hx; exact hg e),
   grown_row h.grow k hn, h.old⟩
theorem NextAt.quiet {w wr w' : World} {HB g n : Nat} {half : Array Value} {L : List ByteArray} (h : NextAt w wr HB g n half L) (k : wr.grownBy w' none) : NextAt w w' HB g n half L := h.step k (by simp) (by simp) (by simp)
theorem NextAt.lt {w wr : World} {HB g n : Nat} {half : Array Value} {L : List ByteArray} (h : NextAt w wr HB g n half L) : HB < wr.heap.size ∧ g < wr.heap.size := ⟨(Array.getElem?_eq_some_iff.1 h.half).1, (h.row.lt g rfl).2⟩

theorem NextAt.store {w wr : World} {HB g n k : Nat} {half : Array Value} {L L' : List ByteArray} {v : Value} (h : NextAt w wr HB g n half L) (e : (strsV L).set k v = strsV L') : NextAt w (wr.setCell ⟨g, k, none⟩ v) HB g n half L' :=
  ⟨by rw [heap_setCell_ne _ _ _ _ (fun e => h.old.2.2 e.symm)]; exact h.half,
   by rw [← e]; exact (h.row.stored _ _).1, grownBy_setNew h.grow h.old.2.1 _ _, h.old⟩
/-- the Writer's pieces of a part's sector, the last one first -/
def piecesS (turn num : Nat) (s : ByteArray) (i : Nat) : List ByteArray :=
  [str (List.replicate (39 - (partS s i).size) 0), partS s i, nameS turn num s, str (be (partS s i).size 1), str (be (partsN s.size) 1), str (be i 1), str (be num 2), str (be turn 4)]
theorem pieces_flat (turn num : Nat) (s : ByteArray) (i : Nat) : str (flat (piecesS turn num s i)) = str (bodyL turn num s i) := by
  simp [piecesS, flat, bodyL, str]

set_option maxRecDepth 100000 in
set_option maxHeartbeats 6400000 in
theorem next_any (turn num : Nat) (ht : turn ≤ 4294967295) (hn : num ≤ 65535) (a : Option Addr) (c : Nat) (u : Value) (s : ByteArray) (hs : s.size ≤ 900) (w : World) (hr : ShaReady w) :
    Calls Tryd.prog 27 #[.agg #[.int .u32 turn, .slice a num c, u], .string s] w fun e w' => ∃ v, e = .returned v ∧ w'.ownsRow w.heap.size 9 1 v (partsN s.size) (strsV (nextS turn num s)) ∧ w.grownBy w' none := by
  obtain ⟨i0, hi, hz0, hz1, hz2⟩ := info_parts infoStrW
  have HR := Lib.hid hr
  have HNM := Lib.hid (fun w (h : ShaReady w) => nameOf_any turn num ht hn s (by omega) w h)
  have HPT := Lib.hid (fun w => parts_any s.size (by omega) w)
  have hpN := partsN_le s.size hs
  have HS := Lib.hid hs
  have hp1 := partsN_pos s.size
  have HPM := Lib.hid (partsN_mid s.size)
  have HPL := Lib.hid (partsN_last s.size)
  have HPI := Lib.hid (partsN_in s.size)
  have HNS := Lib.hid (nameS_size turn num s)
  have HPC := Lib.hid (pieces_flat turn num s)
  have HSE : Hid (∀ i, secS turn num s i = sumS (str (bodyL turn num s i))) := fun _ => rfl
  have HBL : Hid (∀ i, (str (bodyL turn num s i)).size = 56) := fun i => bodyL_length turn num s i
  have HPS := Lib.hid (fun i => partS_size s i)
  have HNX : Hid (∀ k, nextK turn num s (k + 1) = nextK turn num s k ++ [secS turn num s k]) := nextK_succ turn num s
  have HNL : Hid (∀ k, (nextK turn num s k).length = k) := nextK_length turn num s
  have HFIN : Hid (nextS turn num s = nextK turn num s (partsN s.size)) := rfl
  have HPD : Hid (∀ i, piecesS turn num s i = [str (List.replicate (39 - (partS s i).size) 0), partS s i, nameS turn num s, str (be (partS s i).size 1), str (be (partsN s.size) 1), str (be i 1), str (be num 2), str (be turn 4)]) := fun _ => rfl
  generalize nameS turn num s = NM at HNM HNS HPD
  obtain ⟨N, hN⟩ : ∃ N, partsN s.size = N := ⟨_, rfl⟩
  rw [hN] at HPT hpN hp1 HPM HPL HPI HFIN HPD ⊢
  have hN0 : (N : Int) ≤ 24 := by omega
  clear hr hs hN
  have ut := wrap_u64 turn (by omega)
  have un := wrap_u64 num (by omega)
  have uN := wrap_u64 N (by omega)
  go_enter Tryd.func27, Tryd.ntmps27
  go_wp2_with fail
  have hh1 : (w.alloc (.cells #[.int .u32 turn, .slice a num c, u] 43)).heap[w.heap.size]? = some (.cells #[.int .u32 turn, .slice a num c, u] 43 (0, 0)) := heap_alloc_at _ _ _ rfl
  have hg1 : w.grownBy (w.alloc (.cells #[.int .u32 turn, .slice a num c, u] 43)) none := World.grownBy_alloc _ _ _
  refine (HNM.out _ (HR.out.grown hg1)).mono ?_
  rintro e w2 ⟨rfl, g2⟩
  have HH2 := Lib.hid (g2.heap hh1 (by simp))
  have HG2 := Lib.hid (grownBy_trans hg1 g2)
  clear hh1 hg1 g2 HNM
  go_wp2_with (first
    | (go_at_call 16; refine (HPT.out _).mono ?_; rintro e wq ⟨rfl, rfl⟩)
    | (at_make; refine wpList_make_full _ rfl _ _ 32 rfl w.heap.size 9 i0 (.string ⟨#[]⟩) 1 Tryd.underlying32 hi hz0 hz1 _ _ _ _ N rfl rfl rfl rfl ?c1 ?c2 ?c3 ?_))
  case c1 => rw [hz2]; omega
  case c2 => unfold maxLen; omega
  case c3 => exact HG2.out.size
  intro w3 hown hg
  have hm : (madeCells #[Value.string ⟨#[]⟩] N).toList = strsV (fillS (nextK turn num s 0) N) := made_strs N
  rw [hm] at hown
  obtain ⟨g, hgg⟩ : ∃ g, w2.heap.size = g := ⟨_, rfl⟩
  rw [hgg] at hown ⊢
  have HA3 : Hid (NextAt w w3 w.heap.size g N #[.int .u32 turn, .slice a num c, u] (fillS (nextK turn num s 0) N)) :=
    ⟨hg.heap HH2.out (by simp), hown, grownBy_trans HG2.out hg, Nat.le_refl _, by have := HG2.out.size; omega, by have := (Array.getElem?_eq_some_iff.1 HH2.out).1; omega⟩
  clear hown hg hm hgg HG2 HH2
  go_wp2_with fail
  go_loopw [27] (fun iv wr => ∃ k : Nat, k ≤ N ∧ iv = .int .i64 k ∧ Hid (NextAt w wr w.heap.size g N #[.int .u32 turn, .slice a num c, u] (fillS (nextK turn num s k) N))) (fun iv _ => N - (intOf iv).toNat)
  case atStart => exact ⟨0, Nat.zero_le _, rfl, HA3.out⟩
  case round =>
    clear HA3
    obtain ⟨k, hk, rfl, HA⟩ := hrel
    by_cases hlt : k < N
    · have d1 : (k : Int) < (N : Int) := by omega
      have d0 : (0 : Int) ≤ (k : Int) := by omega
      obtain ⟨x, hx⟩ : ∃ x, 39 * k = x := ⟨_, rfl⟩
      obtain ⟨y, hy⟩ : ∃ y, 39 * (k + 1) = y := ⟨_, rfl⟩
      have hxs : x ≤ s.size := by have := HPI.out k hlt; omega
      have e1 : (k : Int) * 39 = (x : Int) := by omega
      have e2 : ((k : Int) + 1) * 39 = (y : Int) := by omega
      have e3 : (0 : Int) ≤ (x : Int) := by omega
      have hS9 := HS.out
      have HPK : Hid (partS s k = s.extract x (min y s.size)) := by
        show partS s k = _
        unfold partS
        rw [hx, hy]
      have hy9 : y ≤ 1000 := by omega
      have e5 : (s.size : Int) ≤ 900 := by omega
      have hxy : x ≤ y := by omega
      have HXY := Lib.hid (And.intro hx hy)
      clear hx hy
      go_upto_region 7 with (fail)
      go_cut [9] (fun pv wx => pv = .string (partS s k) ∧ Hid (wx = wr))
      case first =>
        by_cases hys : y ≤ s.size
        · have f1 : ¬ (s.size : Int) < (y : Int) := by omega
          have f2 : (y : Int) ≤ (s.size : Int) := by omega
          have f3 : (x : Int) ≤ (y : Int) := by omega
          go_wp2_with fail
          go_meet
          case rel => exact ⟨by rw [HPK.out]; congr 2; omega, rfl⟩
        · have f1 : (s.size : Int) < (y : Int) := by omega
          have f2 : ¬ (y : Int) ≤ (s.size : Int) := by omega
          have f3 : (x : Int) ≤ (s.size : Int) := by omega
          go_wp2_with fail
          go_meet
          case rel => exact ⟨by rw [HPK.out]; congr 2; omega, rfl⟩
      case rest =>
        obtain ⟨rfl, HWX⟩ := hcut
        have hq := HPS.out k
        have hq39 : (partS s k).size ≤ 39 := by rw [hq]; omega
        have HPDk := HPD.out k
        have HPCk := HPC.out k
        have HSEk := HSE.out k
        have HBLk := HBL.out k
        have HNXk := HNX.out k
        obtain rfl : wc = wr := HWX.out
        clear HWX hq HPK HXY
        generalize partS s k = P at hq39 HPDk ⊢
        obtain ⟨q, hPq⟩ : ∃ q, P.size = q := ⟨_, rfl⟩
        rw [hPq] at hq39 HPDk
        have uk := wrap_u64 k (by omega)
        have uq := wrap_u64 q (by omega)
        have hPqi : (P.size : Int) = (q : Int) := by omega
        have hnq : (39 : Int) - (q : Int) = ((39 - q : Nat) : Int) := by omega
        have hq9 : (q : Int) ≤ 39 := by omega
        have HN39 := Lib.hid (fun w => noughts_any (39 - q) (by omega) w)
        have hzl : (str (List.replicate (39 - q) (0 : UInt8))).size = 39 - q := by rw [str_size, List.length_replicate]
        obtain ⟨Z, hZ⟩ : ∃ Z, str (List.replicate (39 - q) (0 : UInt8)) = Z := ⟨_, rfl⟩
        rw [hZ] at HPDk HN39 hzl
        obtain ⟨t1, ht1⟩ : ∃ t, str (be turn 4) = t := ⟨_, rfl⟩
        obtain ⟨t2, ht2⟩ : ∃ t, str (be num 2) = t := ⟨_, rfl⟩
        obtain ⟨t3, ht3⟩ : ∃ t, str (be k 1) = t := ⟨_, rfl⟩
        obtain ⟨t4, ht4⟩ : ∃ t, str (be N 1) = t := ⟨_, rfl⟩
        obtain ⟨t5, ht5⟩ : ∃ t, str (be q 1) = t := ⟨_, rfl⟩
        have z1 : t1.size = 4 := by rw [← ht1, str_size, be_length]
        have z2 : t2.size = 2 := by rw [← ht2, str_size, be_length]
        have z3 : t3.size = 1 := by rw [← ht3, str_size, be_length]
        have z4 : t4.size = 1 := by rw [← ht4, str_size, be_length]
        have z5 : t5.size = 1 := by rw [← ht5, str_size, be_length]
        rw [ht1, ht2, ht3, ht4, ht5] at HPDk
        have HZ := Lib.hid (And.intro hZ (And.intro ht1 (And.intro ht2 (And.intro ht3 (And.intro ht4 ht5)))))
        clear hZ ht1 ht2 ht3 ht4 ht5
        have hcw : (wc.alloc (.cells #[.pointer none, .int .i64 0, .int .i64 0] 92)).heap[w.heap.size]? = _ := (World.grownBy_alloc wc (.cells #[.pointer none, .int .i64 0, .int .i64 0] 92) none).heap HA.out.half (by simp)
        have c0 := cell_of hcw 0
        simp at c0
        have hW0 := wfresh wc
        have HA0 := Lib.hid (HA.out.quiet (World.grownBy_alloc wc (.cells #[.pointer none, .int .i64 0, .int .i64 0] 92) none))
        have HAL := Lib.hid HA.out.lt
        have hWn : w.heap.size ≤ wc.heap.size := HA.out.grow.size
        have HCL : Hid (NextAt w wc w.heap.size g N #[.int .u32 turn, .slice a num c, u] (fillS (nextK turn num s k) N)) := HA.out
        clear HA hcw
        go_wp2_with fail
        obtain ⟨WB, hWB⟩ : ∃ WB, wc.heap.size = WB := ⟨_, rfl⟩
        rw [hWB] at hW0 hWn HAL ⊢
        obtain ⟨v0, hv0⟩ : ∃ v0, wc.alloc (.cells #[.pointer none, .int .i64 0, .int .i64 0] 92) = v0 := ⟨_, rfl⟩
        rw [hv0] at hW0 HA0 c0 ⊢
        clear hv0 hWB HCL
        have step : ∀ (wa wb : World), NextAt w wa w.heap.size g N #[.int .u32 turn, .slice a num c, u] (fillS (nextK turn num s k) N) → wa.grownBy wb (some WB) → NextAt w wb w.heap.size g N #[.int .u32 turn, .slice a num c, u] (fillS (nextK turn num s k) N) :=
          fun wa wb h q => h.step q (by intro e; cases e; have := HAL.out; omega) (by intro e; cases e; have := HAL.out; omega) (by intro x e; cases e; exact hWn)
        have HSTEP := Lib.hid step
        have HW0 := Lib.hid hW0
        clear step hW0
        refine (wnum_at turn 4 (by decide) (by decide) (by omega) (by omega) v0 WB [] HW0.out (by decide)).mono ?_
        rintro e v1 ⟨rfl, h1, g1⟩
        have HA1 := Lib.hid (HSTEP.out _ _ HA0.out g1)
        rw [HZ.out.2.1] at h1
        have HW1 := Lib.hid h1
        clear g1 h1 HA0 HW0 c0
        go_wp2_with fail
        refine (wnum_at num 2 (by decide) (by decide) (by omega) (by omega) v1 WB _ HW1.out (by simp only [total_cons, z1, z2, z3, z4, z5, hPq, HNS.out, hzl]; have : total [] = 0 := rfl; omega)).mono ?_
        rintro e v2 ⟨rfl, h2, g2⟩
        rw [HZ.out.2.2.1] at h2
        have HA2 := Lib.hid (HSTEP.out _ _ HA1.out g2)
        have HW2 := Lib.hid h2
        clear g2 h2 HA1 HW1
        go_wp2_with fail
        refine (wnum_at k 1 (by decide) (by decide) (by omega) (by omega) v2 WB _ HW2.out (by simp only [total_cons, z1, z2, z3, z4, z5, hPq, HNS.out, hzl]; have : total [] = 0 := rfl; omega)).mono ?_
        rintro e v3 ⟨rfl, h3, g3⟩
        rw [HZ.out.2.2.2.1] at h3
        have HA3 := Lib.hid (HSTEP.out _ _ HA2.out g3)
        have HW3 := Lib.hid h3
        clear g3 h3 HA2 HW2
        go_wp2_with fail
        refine (wnum_at N 1 (by decide) (by decide) (by omega) (by omega) v3 WB _ HW3.out (by simp only [total_cons, z1, z2, z3, z4, z5, hPq, HNS.out, hzl]; have : total [] = 0 := rfl; omega)).mono ?_
        rintro e v4 ⟨rfl, h4, g4⟩
        rw [HZ.out.2.2.2.2.1] at h4
        have HA4 := Lib.hid (HSTEP.out _ _ HA3.out g4)
        have HW4 := Lib.hid h4
        clear g4 h4 HA3 HW3
        go_wp2_with fail
        refine (wnum_at q 1 (by decide) (by decide) (by omega) (by omega) v4 WB _ HW4.out (by simp only [total_cons, z1, z2, z3, z4, z5, hPq, HNS.out, hzl]; have : total [] = 0 := rfl; omega)).mono ?_
        rintro e v5 ⟨rfl, h5, g5⟩
        rw [HZ.out.2.2.2.2.2] at h5
        have HA5 := Lib.hid (HSTEP.out _ _ HA4.out g5)
        have HW5 := Lib.hid h5
        clear g5 h5 HA4 HW4
        go_wp2_with fail
        refine (wfixed_at NM 8 (by rw [HNS.out]; rfl) v5 WB _ HW5.out (by simp only [total_cons, z1, z2, z3, z4, z5, hPq, HNS.out, hzl]; have : total [] = 0 := rfl; omega)).mono ?_
        rintro e v6 ⟨rfl, h6, g6⟩
        have HA6 := Lib.hid (HSTEP.out _ _ HA5.out g6)
        have HW6 := Lib.hid h6
        clear g6 h6 HA5 HW5
        go_wp2_with fail
        refine (wfixed_at P (q : Int) hPqi v6 WB _ HW6.out (by simp only [total_cons, z1, z2, z3, z4, z5, hPq, HNS.out, hzl]; have : total [] = 0 := rfl; omega)).mono ?_
        rintro e v7 ⟨rfl, h7, g7⟩
        have HA7 := Lib.hid (HSTEP.out _ _ HA6.out g7)
        have HW7 := Lib.hid h7
        clear g7 h7 HA6 HW6
        go_wp2_with fail
        refine (HN39.out _).mono ?_
        rintro e v8 ⟨rfl, g8⟩
        have HA8 := Lib.hid (HA7.out.quiet g8)
        have HW8 := Lib.hid (HW7.out.grown g8)
        clear g8 HA7 HW7
        go_wp2_with fail
        refine (wfixed_at Z ((39 - q : Nat) : Int) (by rw [hzl]) v8 WB _ HW8.out (by simp only [total_cons, z1, z2, z3, z4, z5, hPq, HNS.out, hzl]; have : total [] = 0 := rfl; omega)).mono ?_
        rintro e v9 ⟨rfl, h9, g9⟩
        have HA9 := Lib.hid (HSTEP.out _ _ HA8.out g9)
        have HW9 := Lib.hid h9
        clear g9 h9 HA8 HW8
        have hby := bytes_ok v9 WB _ HW9.out (by simp only [total_cons, z1, z2, z3, z4, z5, hPq, HNS.out, hzl]; have : total [] = 0 := rfl; omega)
        rw [← HPDk, HPCk] at hby
        obtain ⟨BD, hBD⟩ : ∃ BD, str (bodyL turn num s k) = BD := ⟨_, rfl⟩
        rw [hBD] at hby HSEk HBLk
        have HBY := Lib.hid hby
        clear hby HW9 hBD
        go_wp2_with fail
        refine HBY.out.mono ?_
        rintro e v10 ⟨rfl, g10⟩
        have HA10 := Lib.hid (HA9.out.quiet g10)
        have HT := Lib.hid (tagged_new v10 8 [BD] _ 1 8 rfl rfl rfl (HR.out.grown HA10.out.grow) (by simp) (by
          intro x hx
          simp at hx
          subst hx
          omega))
        have h16 := tagS_size 8 [BD]
        have HSM : Hid (sumS BD = BD ++ (tagS 8 [BD]).extract 0 8) := rfl
        generalize tagS 8 [BD] = T at HT h16 HSM
        clear HA9 g10 HBY
        go_wp2_with fail
        refine HT.out.mono ?_
        rintro e v11 ⟨rfl, g11⟩
        have HA11 := Lib.hid (HA10.out.quiet g11)
        have hE8 : (T.extract 0 8).size = 8 := by rw [ByteArray.size_extract]; omega
        have hsum : BD.size + (T.extract 0 8).size ≤ 9223372036854775807 := by omega
        have h16i : (8 : Int) ≤ (T.size : Int) := by omega
        have hf := HA11.out.row.frozenAt k
        have hnl := HNL.out k
        have hat := fillS_at (nextK turn num s k) N (by omega)
        have hput := fillS_put (nextK turn num s k) N (secS turn num s k) (by omega)
        rw [hnl] at hat hput
        rw [← HNXk, HSEk, HSM.out] at hput
        have hc : v11.cell? ⟨g, k, none⟩ = some (.string ⟨#[]⟩) := (HA11.out.row.cellAt k (by omega)).trans hat
        have HP := Lib.hid hput
        clear HT g11 HA10 hat hput hnl
        go_wp2_with fail
        go_roundw
        case rel =>
          exact ⟨k + 1, by omega, by go_num, HA11.out.store HP.out⟩
        case measure => simp [intOf]; omega
    · have hkN : k = N := by omega
      subst hkN
      have d1 : ¬ (k : Int) < (k : Int) := by omega
      have hrow := HA.out.row
      rw [fillS_full _ _ (HNL.out k), ← HFIN.out] at hrow
      have HRW := Lib.hid hrow
      have HGR := Lib.hid HA.out.grow
      clear hrow HA
      go_wp2_with fail
      go_ret
      exact ⟨_, rfl, HRW.out, HGR.out⟩
end Go.Proofs.YtfpbnfjlabhhoaaDoor
