/- The walk of a half's next. · What a book holds in memory; the walks of a half's with, of begin, takes, Left, and a book's writings. · What a book holds in memory; the walks of begin, takes, Left, write. · The walk of a book's lay. · The walks of a book's Put, Compact, Records. · The walk of a book's Compact. · The walks of a book's sectors, of halfOf where nothing stands. · The walk of logbook.Open. · Books on new disks; the walk of the laws' speaks. -/
import Derived.Test.YtbakhdbnfmoceaaGreatDoorLbA
import Derived.Test.YtbakhdbnfmoceaaGreatDoorSecK
import Derived.Test.YtbakhdbnfmoceaaGreatDoorBits
import Derived.Deep.AppendLies
import Derived.Handy
import Derived.Deep.RegionHeld3
import Derived.Test.YtbakhdbnfmoceaaGreatDoorOctetR
namespace Go.Proofs.YtbakhdbnfmoceaaGreatDoor
open Go.RowKit
attribute [local irreducible] shaL

/-- what lies there in next: the half, the row of sectors -/
structure NextAt (w wr : World) (HB g n : Nat) (half : Array Value) (L : List ByteArray) : Prop where
  half : wr.heap[HB]? = some (.cells half 78 (0, 0))
  row : wr.ownsRow w.heap.size 9 1 (.slice (some ⟨g, 0, none⟩) n n) n (strsV L)
  grow : w.grownBy wr none
  old : w.heap.size ≤ HB ∧ w.heap.size ≤ g ∧ HB ≠ g
theorem NextAt.step {w wr w' : World} {HB g n : Nat} {half : Array Value} {L : List ByteArray} {r : Option Nat} (h : NextAt w wr HB g n half L) (k : wr.grownBy w' r) (hb : r ≠ some HB) (hg : r ≠ some g) (hn : ∀ x, r = some x → w.heap.size ≤ x) : NextAt w w' HB g n half L :=
  ⟨(k.block HB (Array.getElem?_eq_some_iff.1 h.half).1 (fun e => hb e.symm)).trans h.half,
   own_turn h.row ((Turn.refl (fun i => r = some i) wr).row k (fun i _ e => e)) (fun x hx e => by cases hx; exact hg e),
   grown_row h.grow k hn, h.old⟩
theorem NextAt.quiet {w wr w' : World} {HB g n : Nat} {half : Array Value} {L : List ByteArray} (h : NextAt w wr HB g n half L) (k : wr.grownBy w' none) : NextAt w w' HB g n half L := h.step k (by simp) (by simp) (by simp)
theorem NextAt.lt {w wr : World} {HB g n : Nat} {half : Array Value} {L : List ByteArray} (h : NextAt w wr HB g n half L) : HB < wr.heap.size ∧ g < wr.heap.size := ⟨(Array.getElem?_eq_some_iff.1 h.half).1, (h.row.lt g rfl).2⟩

theorem NextAt.store {w wr : World} {HB g n k : Nat} {half : Array Value} {L L' : List ByteArray} {v : Value} (h : NextAt w wr HB g n half L) (e : (strsV L).set k v = strsV L') : NextAt w (wr.setCell ⟨g, k, none⟩ v) HB g n half L' :=
  ⟨by rw [heap_setCell_ne _ _ _ _ (fun e => h.old.2.2 e.symm)]; exact h.half,
   by rw [← e]; exact (h.row.stored _ _).1, grownBy_setNew h.grow h.old.2.1 _ _, h.old⟩
/-- the Writer's pieces of a part's sector, the last one first -/
def piecesS (turn num : Nat) (s : ByteArray) (i : Nat) : List ByteArray :=
  [str (List.replicate (39 - (partS s i).size) 0), partS s i, nameS turn num s, str (be (partS s i).size 1), str (be (partsN s.size) 1), str (be i 1), str (be num 2), str (be turn 4)]
theorem pieces_flat (turn num : Nat) (s : ByteArray) (i : Nat) : str (flat (piecesS turn num s i)) = str (bodyL turn num s i) := by
  simp [piecesS, flat, bodyL, str]

set_option maxRecDepth 100000 in
set_option maxHeartbeats 6400000 in
theorem next_any (turn num : Nat) (ht : turn ≤ 4294967295) (hn : num ≤ 65535) (a : Option Addr) (c : Nat) (u : Value) (s : ByteArray) (hs : s.size ≤ 900) (w : World) (hr : ShaReady w) :
    Calls Tryz.prog 63 #[.agg #[.int .u32 turn, .slice a num c, u], .string s] w fun e w' => ∃ v, e = .returned v ∧ w'.ownsRow w.heap.size 9 1 v (partsN s.size) (strsV (nextS turn num s)) ∧ w.grownBy w' none := by
  obtain ⟨i0, hi, hz0, hz1, hz2⟩ := info_parts infoStrW
  have HR := Lib.hid hr
  have HNM := Lib.hid (fun w (h : ShaReady w) => nameOf_any turn num ht hn s (by omega) w h)
  have HPT := Lib.hid (fun w => parts_any s.size (by omega) w)
  have hpN := partsN_le s.size hs
  have HS := Lib.hid hs
  have hp1 := partsN_pos s.size
  have HPM := Lib.hid (partsN_mid s.size)
  have HPL := Lib.hid (partsN_last s.size)
  have HPI := Lib.hid (partsN_in s.size)
  have HNS := Lib.hid (nameS_size turn num s)
  have HPC := Lib.hid (pieces_flat turn num s)
  have HSE : Hid (∀ i, secS turn num s i = sumS (str (bodyL turn num s i))) := fun _ => rfl
  have HBL : Hid (∀ i, (str (bodyL turn num s i)).size = 56) := fun i => bodyL_length turn num s i
  have HPS := Lib.hid (fun i => partS_size s i)
  have HNX : Hid (∀ k, nextK turn num s (k + 1) = nextK turn num s k ++ [secS turn num s k]) := nextK_succ turn num s
  have HNL : Hid (∀ k, (nextK turn num s k).length = k) := nextK_length turn num s
  have HFIN : Hid (nextS turn num s = nextK turn num s (partsN s.size)) := rfl
  have HPD : Hid (∀ i, piecesS turn num s i = [str (List.replicate (39 - (partS s i).size) 0), partS s i, nameS turn num s, str (be (partS s i).size 1), str (be (partsN s.size) 1), str (be i 1), str (be num 2), str (be turn 4)]) := fun _ => rfl
  generalize nameS turn num s = NM at HNM HNS HPD
  obtain ⟨N, hN⟩ : ∃ N, partsN s.size = N := ⟨_, rfl⟩
  rw [hN] at HPT hpN hp1 HPM HPL HPI HFIN HPD ⊢
  have hN0 : (N : Int) ≤ 24 := by omega
  clear hr hs hN
  have ut := wrap_u64 turn (by omega)
  have un := wrap_u64 num (by omega)
  have uN := wrap_u64 N (by omega)
  go_enter Tryz.func63, Tryz.ntmps63
  go_wp2_with fail
  have hh1 : (w.alloc (.cells #[.int .u32 turn, .slice a num c, u] 78)).heap[w.heap.size]? = some (.cells #[.int .u32 turn, .slice a num c, u] 78 (0, 0)) := heap_alloc_at _ _ _ rfl
  have hg1 : w.grownBy (w.alloc (.cells #[.int .u32 turn, .slice a num c, u] 78)) none := World.grownBy_alloc _ _ _
  refine (HNM.out _ (HR.out.grown hg1)).mono ?_
  rintro e w2 ⟨rfl, g2⟩
  have HH2 := Lib.hid (g2.heap hh1 (by simp))
  have HG2 := Lib.hid (grownBy_trans hg1 g2)
  clear hh1 hg1 g2 HNM
  go_wp2_with (first
    | (go_at_call 36; refine (HPT.out _).mono ?_; rintro e wq ⟨rfl, rfl⟩)
    | (at_make; refine wpList_make_full _ rfl _ _ 23 rfl w.heap.size 9 i0 (.string ⟨#[]⟩) 1 Tryz.underlying23 hi hz0 hz1 _ _ _ _ N rfl rfl rfl rfl ?c1 ?c2 ?c3 ?_))
  case c1 => rw [hz2]; omega
  case c2 => unfold maxLen; omega
  case c3 => exact HG2.out.size
  intro w3 hown hg
  have hm : (madeCells #[Value.string ⟨#[]⟩] N).toList = strsV (fillS (nextK turn num s 0) N) := made_strs N
  rw [hm] at hown
  obtain ⟨g, hgg⟩ : ∃ g, w2.heap.size = g := ⟨_, rfl⟩
  rw [hgg] at hown ⊢
  have HA3 : Hid (NextAt w w3 w.heap.size g N #[.int .u32 turn, .slice a num c, u] (fillS (nextK turn num s 0) N)) :=
    ⟨hg.heap HH2.out (by simp), hown, grownBy_trans HG2.out hg, Nat.le_refl _, by have := HG2.out.size; omega, by have := (Array.getElem?_eq_some_iff.1 HH2.out).1; omega⟩
  clear hown hg hm hgg HG2 HH2
  go_wp2_with fail
  go_loopw [27] (fun iv wr => ∃ k : Nat, k ≤ N ∧ iv = .int .i64 k ∧ Hid (NextAt w wr w.heap.size g N #[.int .u32 turn, .slice a num c, u] (fillS (nextK turn num s k) N))) (fun iv _ => N - (intOf iv).toNat)
  case atStart => exact ⟨0, Nat.zero_le _, rfl, HA3.out⟩
  case round =>
    clear HA3
    obtain ⟨k, hk, rfl, HA⟩ := hrel
    by_cases hlt : k < N
    · have d1 : (k : Int) < (N : Int) := by omega
      have d0 : (0 : Int) ≤ (k : Int) := by omega
      obtain ⟨x, hx⟩ : ∃ x, 39 * k = x := ⟨_, rfl⟩
      obtain ⟨y, hy⟩ : ∃ y, 39 * (k + 1) = y := ⟨_, rfl⟩
      have hxs : x ≤ s.size := by have := HPI.out k hlt; omega
      have e1 : (k : Int) * 39 = (x : Int) := by omega
      have e2 : ((k : Int) + 1) * 39 = (y : Int) := by omega
      have e3 : (0 : Int) ≤ (x : Int) := by omega
      have hS9 := HS.out
      have HPK : Hid (partS s k = s.extract x (min y s.size)) := by
        show partS s k = _
        unfold partS
        rw [hx, hy]
      have hy9 : y ≤ 1000 := by omega
      have e5 : (s.size : Int) ≤ 900 := by omega
      have hxy : x ≤ y := by omega
      have HXY := Lib.hid (And.intro hx hy)
      clear hx hy
      go_upto_region 7 with (fail)
      go_cut [9] (fun pv wx => pv = .string (partS s k) ∧ Hid (wx = wr))
      case first =>
        by_cases hys : y ≤ s.size
        · have f1 : ¬ (s.size : Int) < (y : Int) := by omega
          have f2 : (y : Int) ≤ (s.size : Int) := by omega
          have f3 : (x : Int) ≤ (y : Int) := by omega
          go_wp2_with fail
          go_meet
          case rel => exact ⟨by rw [HPK.out]; congr 2; omega, rfl⟩
        · have f1 : (s.size : Int) < (y : Int) := by omega
          have f2 : ¬ (y : Int) ≤ (s.size : Int) := by omega
          have f3 : (x : Int) ≤ (s.size : Int) := by omega
          go_wp2_with fail
          go_meet
          case rel => exact ⟨by rw [HPK.out]; congr 2; omega, rfl⟩
      case rest =>
        obtain ⟨rfl, HWX⟩ := hcut
        have hq := HPS.out k
        have hq39 : (partS s k).size ≤ 39 := by rw [hq]; omega
        have HPDk := HPD.out k
        have HPCk := HPC.out k
        have HSEk := HSE.out k
        have HBLk := HBL.out k
        have HNXk := HNX.out k
        obtain rfl : wc = wr := HWX.out
        clear HWX hq HPK HXY
        generalize partS s k = P at hq39 HPDk ⊢
        obtain ⟨q, hPq⟩ : ∃ q, P.size = q := ⟨_, rfl⟩
        rw [hPq] at hq39 HPDk
        have uk := wrap_u64 k (by omega)
        have uq := wrap_u64 q (by omega)
        have hPqi : (P.size : Int) = (q : Int) := by omega
        have hnq : (39 : Int) - (q : Int) = ((39 - q : Nat) : Int) := by omega
        have hq9 : (q : Int) ≤ 39 := by omega
        have HN39 := Lib.hid (fun w => noughts_any (39 - q) (by omega) w)
        have hzl : (str (List.replicate (39 - q) (0 : UInt8))).size = 39 - q := by rw [str_size, List.length_replicate]
        obtain ⟨Z, hZ⟩ : ∃ Z, str (List.replicate (39 - q) (0 : UInt8)) = Z := ⟨_, rfl⟩
        rw [hZ] at HPDk HN39 hzl
        obtain ⟨t1, ht1⟩ : ∃ t, str (be turn 4) = t := ⟨_, rfl⟩
        obtain ⟨t2, ht2⟩ : ∃ t, str (be num 2) = t := ⟨_, rfl⟩
        obtain ⟨t3, ht3⟩ : ∃ t, str (be k 1) = t := ⟨_, rfl⟩
        obtain ⟨t4, ht4⟩ : ∃ t, str (be N 1) = t := ⟨_, rfl⟩
        obtain ⟨t5, ht5⟩ : ∃ t, str (be q 1) = t := ⟨_, rfl⟩
        have z1 : t1.size = 4 := by rw [← ht1, str_size, be_length]
        have z2 : t2.size = 2 := by rw [← ht2, str_size, be_length]
        have z3 : t3.size = 1 := by rw [← ht3, str_size, be_length]
        have z4 : t4.size = 1 := by rw [← ht4, str_size, be_length]
        have z5 : t5.size = 1 := by rw [← ht5, str_size, be_length]
        rw [ht1, ht2, ht3, ht4, ht5] at HPDk
        have HZ := Lib.hid (And.intro hZ (And.intro ht1 (And.intro ht2 (And.intro ht3 (And.intro ht4 ht5)))))
        clear hZ ht1 ht2 ht3 ht4 ht5
        have hcw : (wc.alloc (.cells #[.pointer none, .int .i64 0, .int .i64 0] 100)).heap[w.heap.size]? = _ := (World.grownBy_alloc wc (.cells #[.pointer none, .int .i64 0, .int .i64 0] 100) none).heap HA.out.half (by simp)
        have c0 := cell_of hcw 0
        simp at c0
        have hW0 := wfresh wc
        have HA0 := Lib.hid (HA.out.quiet (World.grownBy_alloc wc (.cells #[.pointer none, .int .i64 0, .int .i64 0] 100) none))
        have HAL := Lib.hid HA.out.lt
        have hWn : w.heap.size ≤ wc.heap.size := HA.out.grow.size
        have HCL : Hid (NextAt w wc w.heap.size g N #[.int .u32 turn, .slice a num c, u] (fillS (nextK turn num s k) N)) := HA.out
        clear HA hcw
        go_wp2_with fail
        obtain ⟨WB, hWB⟩ : ∃ WB, wc.heap.size = WB := ⟨_, rfl⟩
        rw [hWB] at hW0 hWn HAL ⊢
        obtain ⟨v0, hv0⟩ : ∃ v0, wc.alloc (.cells #[.pointer none, .int .i64 0, .int .i64 0] 100) = v0 := ⟨_, rfl⟩
        rw [hv0] at hW0 HA0 c0 ⊢
        clear hv0 hWB HCL
        have step : ∀ (wa wb : World), NextAt w wa w.heap.size g N #[.int .u32 turn, .slice a num c, u] (fillS (nextK turn num s k) N) → wa.grownBy wb (some WB) → NextAt w wb w.heap.size g N #[.int .u32 turn, .slice a num c, u] (fillS (nextK turn num s k) N) :=
          fun wa wb h q => h.step q (by intro e; cases e; have := HAL.out; omega) (by intro e; cases e; have := HAL.out; omega) (by intro x e; cases e; exact hWn)
        have HSTEP := Lib.hid step
        have HW0 := Lib.hid hW0
        clear step hW0
        refine (wnum_at turn 4 (by decide) (by decide) (by omega) (by omega) v0 WB [] HW0.out (by decide)).mono ?_
        rintro e v1 ⟨rfl, h1, g1⟩
        have HA1 := Lib.hid (HSTEP.out _ _ HA0.out g1)
        rw [HZ.out.2.1] at h1
        have HW1 := Lib.hid h1
        clear g1 h1 HA0 HW0 c0
        go_wp2_with fail
        refine (wnum_at num 2 (by decide) (by decide) (by omega) (by omega) v1 WB _ HW1.out (by simp only [total_cons, z1, z2, z3, z4, z5, hPq, HNS.out, hzl]; have : total [] = 0 := rfl; omega)).mono ?_
        rintro e v2 ⟨rfl, h2, g2⟩
        rw [HZ.out.2.2.1] at h2
        have HA2 := Lib.hid (HSTEP.out _ _ HA1.out g2)
        have HW2 := Lib.hid h2
        clear g2 h2 HA1 HW1
        go_wp2_with fail
        refine (wnum_at k 1 (by decide) (by decide) (by omega) (by omega) v2 WB _ HW2.out (by simp only [total_cons, z1, z2, z3, z4, z5, hPq, HNS.out, hzl]; have : total [] = 0 := rfl; omega)).mono ?_
        rintro e v3 ⟨rfl, h3, g3⟩
        rw [HZ.out.2.2.2.1] at h3
        have HA3 := Lib.hid (HSTEP.out _ _ HA2.out g3)
        have HW3 := Lib.hid h3
        clear g3 h3 HA2 HW2
        go_wp2_with fail
        refine (wnum_at N 1 (by decide) (by decide) (by omega) (by omega) v3 WB _ HW3.out (by simp only [total_cons, z1, z2, z3, z4, z5, hPq, HNS.out, hzl]; have : total [] = 0 := rfl; omega)).mono ?_
        rintro e v4 ⟨rfl, h4, g4⟩
        rw [HZ.out.2.2.2.2.1] at h4
        have HA4 := Lib.hid (HSTEP.out _ _ HA3.out g4)
        have HW4 := Lib.hid h4
        clear g4 h4 HA3 HW3
        go_wp2_with fail
        refine (wnum_at q 1 (by decide) (by decide) (by omega) (by omega) v4 WB _ HW4.out (by simp only [total_cons, z1, z2, z3, z4, z5, hPq, HNS.out, hzl]; have : total [] = 0 := rfl; omega)).mono ?_
        rintro e v5 ⟨rfl, h5, g5⟩
        rw [HZ.out.2.2.2.2.2] at h5
        have HA5 := Lib.hid (HSTEP.out _ _ HA4.out g5)
        have HW5 := Lib.hid h5
        clear g5 h5 HA4 HW4
        go_wp2_with fail
        refine (wfixed_at NM 8 (by rw [HNS.out]; rfl) v5 WB _ HW5.out (by simp only [total_cons, z1, z2, z3, z4, z5, hPq, HNS.out, hzl]; have : total [] = 0 := rfl; omega)).mono ?_
        rintro e v6 ⟨rfl, h6, g6⟩
        have HA6 := Lib.hid (HSTEP.out _ _ HA5.out g6)
        have HW6 := Lib.hid h6
        clear g6 h6 HA5 HW5
        go_wp2_with fail
        refine (wfixed_at P (q : Int) hPqi v6 WB _ HW6.out (by simp only [total_cons, z1, z2, z3, z4, z5, hPq, HNS.out, hzl]; have : total [] = 0 := rfl; omega)).mono ?_
        rintro e v7 ⟨rfl, h7, g7⟩
        have HA7 := Lib.hid (HSTEP.out _ _ HA6.out g7)
        have HW7 := Lib.hid h7
        clear g7 h7 HA6 HW6
        go_wp2_with fail
        refine (HN39.out _).mono ?_
        rintro e v8 ⟨rfl, g8⟩
        have HA8 := Lib.hid (HA7.out.quiet g8)
        have HW8 := Lib.hid (HW7.out.grown g8)
        clear g8 HA7 HW7
        go_wp2_with fail
        refine (wfixed_at Z ((39 - q : Nat) : Int) (by rw [hzl]) v8 WB _ HW8.out (by simp only [total_cons, z1, z2, z3, z4, z5, hPq, HNS.out, hzl]; have : total [] = 0 := rfl; omega)).mono ?_
        rintro e v9 ⟨rfl, h9, g9⟩
        have HA9 := Lib.hid (HSTEP.out _ _ HA8.out g9)
        have HW9 := Lib.hid h9
        clear g9 h9 HA8 HW8
        have hby := bytes_ok v9 WB _ HW9.out (by simp only [total_cons, z1, z2, z3, z4, z5, hPq, HNS.out, hzl]; have : total [] = 0 := rfl; omega)
        rw [← HPDk, HPCk] at hby
        obtain ⟨BD, hBD⟩ : ∃ BD, str (bodyL turn num s k) = BD := ⟨_, rfl⟩
        rw [hBD] at hby HSEk HBLk
        have HBY := Lib.hid hby
        clear hby HW9 hBD
        go_wp2_with fail
        refine HBY.out.mono ?_
        rintro e v10 ⟨rfl, g10⟩
        have HA10 := Lib.hid (HA9.out.quiet g10)
        have HT := Lib.hid (tagged_new v10 8 [BD] _ 1 8 rfl rfl rfl (HR.out.grown HA10.out.grow) (by simp) (by
          intro x hx
          simp at hx
          subst hx
          omega))
        have h16 := tagS_size 8 [BD]
        have HSM : Hid (sumS BD = BD ++ (tagS 8 [BD]).extract 0 8) := rfl
        generalize tagS 8 [BD] = T at HT h16 HSM
        clear HA9 g10 HBY
        go_wp2_with fail
        refine HT.out.mono ?_
        rintro e v11 ⟨rfl, g11⟩
        have HA11 := Lib.hid (HA10.out.quiet g11)
        have hE8 : (T.extract 0 8).size = 8 := by rw [ByteArray.size_extract]; omega
        have hsum : BD.size + (T.extract 0 8).size ≤ 9223372036854775807 := by omega
        have h16i : (8 : Int) ≤ (T.size : Int) := by omega
        have hf := HA11.out.row.frozenAt k
        have hnl := HNL.out k
        have hat := fillS_at (nextK turn num s k) N (by omega)
        have hput := fillS_put (nextK turn num s k) N (secS turn num s k) (by omega)
        rw [hnl] at hat hput
        rw [← HNXk, HSEk, HSM.out] at hput
        have hc : v11.cell? ⟨g, k, none⟩ = some (.string ⟨#[]⟩) := (HA11.out.row.cellAt k (by omega)).trans hat
        have HP := Lib.hid hput
        clear HT g11 HA10 hat hput hnl
        go_wp2_with fail
        go_roundw
        case rel =>
          exact ⟨k + 1, by omega, by go_num, HA11.out.store HP.out⟩
        case measure => simp [intOf]; omega
    · have hkN : k = N := by omega
      subst hkN
      have d1 : ¬ (k : Int) < (k : Int) := by omega
      have hrow := HA.out.row
      rw [fillS_full _ _ (HNL.out k), ← HFIN.out] at hrow
      have HRW := Lib.hid hrow
      have HGR := Lib.hid HA.out.grow
      clear hrow HA
      go_wp2_with fail
      go_ret
      exact ⟨_, rfl, HRW.out, HGR.out⟩
end Go.Proofs.YtbakhdbnfmoceaaGreatDoor

namespace Go.Proofs.YtbakhdbnfmoceaaGreatDoor
open Go.RowKit
attribute [local irreducible] shaL

set_option maxRecDepth 100000 in
set_option maxHeartbeats 1600000 in
/-- with a record behind the others -/
theorem with_any (t used : Nat) (rv : Value) (L : List ByteArray) (s : ByteArray) (hs : s.size ≤ 1000000) (hu : used ≤ 1000000) (hL : L.length ≤ 1000000) (w : World) (hv : w.ownsRow 0 9 1 rv L.length (strsV L)) :
    Calls Tryz.prog 61 #[.agg #[.int .u32 t, rv, .int .i64 used], .string s] w fun e w' => ∃ g c, e = .returned (.agg #[.int .u32 t, .slice (some ⟨g, 0, none⟩) (L.length + 1) c, .int .i64 (used + partsN s.size : Nat)]) ∧
      w'.ownsRow 0 9 1 (.slice (some ⟨g, 0, none⟩) (L.length + 1) c) (L.length + 1) (strsV (L ++ [s])) ∧ w.grownBy w' rv.ownBlock ∧ (rv.ownBlock = some g ∨ w.heap.size ≤ g) := by
  obtain ⟨i0, hi, hz0, hz1, hz2⟩ := info_parts infoStrW
  obtain ⟨ra, rc, rfl⟩ := slice_own' hv
  have HPT := Lib.hid (fun w => parts_any s.size (by omega) w)
  have hpl : partsN s.size ≤ 1000001 := by unfold partsN; split <;> omega
  generalize partsN s.size = P at HPT hpl ⊢
  have HV := Lib.hid hv
  have hsz : (s.size : Int) ≤ 1000000 := by omega
  clear hv
  go_enter Tryz.func61, Tryz.ntmps61
  obtain ⟨B, hB⟩ : ∃ B, w.heap.size = B := ⟨_, rfl⟩
  obtain ⟨w1, hW1⟩ : ∃ w1, (w.alloc (.cells #[.int .u32 t, .slice ra L.length rc, .int .i64 used] 78)).alloc (.cells #[.int .u32 0, .slice none 0 0, .int .i64 0] 78) = w1 := ⟨_, rfl⟩
  have hh1 : w1.heap[B]? = some (.cells #[.int .u32 t, .slice ra L.length rc, .int .i64 used] 78 (0, 0)) := by
    rw [← hW1, Below.heap_alloc _ _ _ (by simp; omega)]; exact heap_alloc_at _ _ _ hB
  have hr1 : w1.heap[B + 1]? = some (.cells #[.int .u32 0, .slice none 0 0, .int .i64 0] 78 (0, 0)) := by
    rw [← hW1]; exact heap_alloc_at _ _ _ (by simp; omega)
  have hg1 : w.grownBy w1 none := by rw [← hW1]; exact grownBy_alloc' (World.grownBy_alloc _ _ _) _
  have hv1 := own_turn HV.out (S := fun _ => False) (Turn.of_grown hg1) (fun _ _ q => q)
  have c1 := cell_of hh1 1
  simp at c1
  have hrl : ∀ x, (Value.slice ra L.length rc).ownBlock = some x → x < B := fun x e => by rw [← hB]; exact (HV.out.lt x e).2
  have hB1 : w1.heap.size = B + 2 := by rw [← hW1]; simp; omega
  have HH := Lib.hid (And.intro hh1 hr1)
  have HG1 := Lib.hid hg1
  have HRL := Lib.hid hrl
  have hv2 : Hid ((w1.alloc (.cells #[.string s] 9)).ownsRow 0 9 1 (.slice ra L.length rc) L.length (strsV L)) := hv1.alloc _
  clear hh1 hr1 hg1 hv1 hrl
  go_wp2_with (at_builtin; refine wpList_append_lies _ rfl _ _ 23 rfl 0 9 i0 (.string ⟨#[]⟩) 1 16 Tryz.underlying23 hi hz0 hz1 hz2 rfl (by decide) _ _ _ rfl hv2.out ⟨B + 2, 0, none⟩ 1 1 [.string s] rfl rfl ?q1 ?q2 (by decide) ?q3 ?q4 ?q5 _ rfl ?_)
  case q1 => rw [← hB1]; exact lit_one w1 s
  case q2 => intro u hu; simp at hu; subst hu; rfl
  case q3 => unfold maxLen; omega
  case q4 => omega
  case q5 => exact Nat.zero_le _
  intro g cap w2 hown hg hat hlt
  rw [push_strs] at hown
  have hb2 : w2.heap[B]? = _ := hg.heap (World.grownBy_alloc w1 (.cells #[.string s] 9) none |>.heap HH.out.1 (by simp)) (fun e => by have := HRL.out B e; omega)
  have hr2 : w2.heap[B + 1]? = _ := hg.heap (World.grownBy_alloc w1 (.cells #[.string s] 9) none |>.heap HH.out.2 (by simp)) (fun e => by have := HRL.out _ e; omega)
  have hgB : g ≠ B ∧ g ≠ B + 1 := by
    rcases hat with e | e
    · have := HRL.out g e; omega
    · omega
  have HG2 : Hid (w.grownBy w2 (Value.slice ra L.length rc).ownBlock) := by
    refine ⟨hg.os.trans HG1.out.os, hg.tape.trans HG1.out.tape, hg.output.trans HG1.out.output, Nat.le_trans (Nat.le_trans HG1.out.size (by simp)) hg.size, fun i hi hne => ?_⟩
    rw [hg.block i (by simp; omega) hne, (World.grownBy_alloc w1 (.cells #[.string s] 9) none).block i (by omega) (by simp)]
    exact HG1.out.block i hi (by simp)
  have HAT : Hid ((Value.slice ra L.length rc).ownBlock = some g ∨ B ≤ g) := by
    rcases hat with e | e
    · exact .inl e
    · exact .inr (by omega)
  have HOW := Lib.hid hown
  have HB2 := Lib.hid hb2
  have HR2 := Lib.hid hr2
  have HGB := Lib.hid hgB
  have f1 := free_of hb2 1
  have c1' := cell_of hb2 1
  simp at c1'
  clear hg hown hat hb2 hr2 hgB HH c1
  go_wp2_with fail
  obtain ⟨w3, hW3⟩ : ∃ w3, w2.setCell ⟨B, 1, none⟩ (.slice (some ⟨g, 0, none⟩) (L.length + 1) cap) = w3 := ⟨_, rfl⟩
  rw [hW3]
  have hb3 : w3.heap[B]? = some (.cells #[.int .u32 t, .slice (some ⟨g, 0, none⟩) (L.length + 1) cap, .int .i64 used] 78 (0, 0)) := by
    rw [← hW3, heap_setCell HB2.out]; rfl
  have hr3 : w3.heap[B + 1]? = some (.cells #[.int .u32 0, .slice none 0 0, .int .i64 0] 78 (0, 0)) := by
    rw [← hW3, heap_setCell_ne _ _ _ _ (by omega)]; exact HR2.out
  have ho3 : Hid (w3.ownsRow 0 9 1 (.slice (some ⟨g, 0, none⟩) (L.length + 1) cap) (L.length + 1) (strsV (L ++ [s]))) := by
    rw [← hW3]
    exact own_turn HOW.out (S := fun i => i = B) ((Turn.refl (fun i => i = B) w2).setCell (fun _ => rfl) _ _) (fun x e q => by cases e; exact HGB.out.1 q)
  have hg3 : Hid (w.grownBy w3 (Value.slice ra L.length rc).ownBlock) := by rw [← hW3]; exact grownBy_setNew HG2.out (by omega) _ _
  have c2 := cell_of hb3 2
  simp at c2
  have f2 := free_of hb3 2
  have HB3 := Lib.hid hb3
  have HR3 := Lib.hid hr3
  have hu3 : (used : Int) ≤ 1000000 := by omega
  have hp3 : (P : Int) ≤ 1000001 := by omega
  clear hW3 hW1 c1' f1 HOW HB2 HR2 hb3 hr3 HG2 hv2
  have hw := wrap_i64_nat (used + P) (by omega)
  rw [Int.natCast_add] at hw
  have HBL := Lib.hid hB
  have HG1s := Lib.hid HG1.out.size
  clear HG1 hB
  go_region_with ((go_at_call 36; refine (HPT.out _).mono ?_; rintro e wq ⟨rfl, rfl⟩))
  all_goals
    obtain ⟨w4, hW4⟩ : ∃ w4, (w3.setCell ⟨B, 2, none⟩ (.int .i64 (↑used + ↑P))).drew = w4 := ⟨_, rfl⟩
    rw [hW4]
    have hb4 : w4.heap[B]? = some (.cells #[.int .u32 t, .slice (some ⟨g, 0, none⟩) (L.length + 1) cap, .int .i64 (↑used + ↑P)] 78 (0, 0)) := by
      rw [← hW4]; show (w3.setCell _ _).heap[B]? = _; rw [heap_setCell HB3.out]; rfl
    have hr4 : w4.heap[B + 1]? = some (.cells #[.int .u32 0, .slice none 0 0, .int .i64 0] 78 (0, 0)) := by
      rw [← hW4]; show (w3.setCell _ _).heap[B + 1]? = _; rw [heap_setCell_ne _ _ _ _ (by omega)]; exact HR3.out
    have HO4 : Hid (w4.ownsRow 0 9 1 (.slice (some ⟨g, 0, none⟩) (L.length + 1) cap) (L.length + 1) (strsV (L ++ [s]))) := by
      rw [← hW4]
      exact own_turn ho3.out (S := fun i => i = B) ((Turn.refl (fun i => i = B) w3).setCell (fun _ => rfl) _ _).drew (fun x e q => by cases e; exact HGB.out.1 q)
    have HG4 : Hid (w.grownBy w4 (Value.slice ra L.length rc).ownBlock) := by rw [← hW4]; exact grownBy_drew (grownBy_setNew hg3.out (by have := HBL.out; omega) _ _)
    have k0 := cell_of hb4 0
    have k1 := cell_of hb4 1
    have k2 := cell_of hb4 2
    have r0 := cell_of hr4 0
    have r1 := cell_of hr4 1
    have r2 := cell_of hr4 2
    have q0 := free_of hr4 0
    have q1 := free_of hr4 1
    have q2 := free_of hr4 2
    simp at k0 k1 k2 r0 r1 r2
    clear hW4 hb4 c2 f2 ho3 hg3 HB3 HR3
    go_wp2_with fail
    obtain ⟨w5, hW5⟩ : ∃ w5, ((w4.setCell ⟨B + 1, 0, none⟩ (.int .u32 t)).setCell ⟨B + 1, 1, none⟩ (.slice (some ⟨g, 0, none⟩) (L.length + 1) cap)).setCell ⟨B + 1, 2, none⟩ (.int .i64 (↑used + ↑P)) = w5 := ⟨_, rfl⟩
    rw [hW5]
    have hr5 : w5.heap[B + 1]? = some (.cells #[.int .u32 t, .slice (some ⟨g, 0, none⟩) (L.length + 1) cap, .int .i64 (↑used + ↑P)] 78 (0, 0)) := by
      rw [← hW5, heap_setCell (heap_setCell (heap_setCell hr4 0 _) 1 _) 2 _]; rfl
    have p0 := cell_of hr5 0
    have p1 := cell_of hr5 1
    have p2 := cell_of hr5 2
    simp at p0 p1 p2
    have HO5 : Hid (w5.ownsRow 0 9 1 (.slice (some ⟨g, 0, none⟩) (L.length + 1) cap) (L.length + 1) (strsV (L ++ [s]))) := by
      rw [← hW5]
      exact own_turn HO4.out (S := fun i => i = B + 1) ((((Turn.refl (fun i => i = B + 1) w4).setCell (fun _ => rfl) _ _).setCell (fun _ => rfl) _ _).setCell (fun _ => rfl) _ _) (fun x e q => by cases e; exact HGB.out.2 q)
    have HG5 : Hid (w.grownBy w5 (Value.slice ra L.length rc).ownBlock) := by
      rw [← hW5]
      exact grownBy_setNew (grownBy_setNew (grownBy_setNew HG4.out (by have := HBL.out; omega) _ _) (by have := HBL.out; omega) _ _) (by have := HBL.out; omega) _ _
    clear hW5 hr5 hr4 k0 k1 k2 r0 r1 r2 q0 q1 q2
    exact bodyPost_ret (v := .agg #[.int .u32 t, .slice (some ⟨g, 0, none⟩) (L.length + 1) cap, .int .i64 (↑used + ↑P)]) (by simp [results, Tryz.results61, go_sem, p0, p1, p2]; try rfl) rfl ⟨g, cap, by rw [Int.natCast_add], HO5.out, HG5.out, by rw [HBL.out]; exact HAT.out⟩
end Go.Proofs.YtbakhdbnfmoceaaGreatDoor

namespace Go.Proofs.YtbakhdbnfmoceaaGreatDoor
open Go.RowKit
attribute [local irreducible] shaL

structure BookS where
  first : Nat
  size : Nat
  place : Nat
  turn : Nat
  recs : List ByteArray
  used : Nat
  failed : Bool
/-- a book's cells: its disk is block b, its records rv -/
def bookCells (b : Nat) (B : BookS) (rv : Value) : List Value := [.pointer (some ⟨b, 0, none⟩), .int .i64 B.first, .int .i64 B.size, .int .i64 B.place, .int .u32 B.turn, rv, .int .i64 B.used, .bool B.failed]
structure BookMem (w : World) (g b : Nat) (B : BookS) (rv : Value) : Prop where
  blk : w.heap[g]? = some (.cells (bookCells b B rv).toArray 80 (0, 0))
  recs : w.ownsRow 0 9 1 rv B.recs.length (strsV B.recs)
/-- a book that may be, on a disk of n sectors -/
structure BookOK (n : Nat) (B : BookS) : Prop where
  area : B.first + 2 * B.size ≤ n
  few : n ≤ 1024
  four : 4 ≤ B.size
  place : B.place ≤ 1
  turn : B.turn ≤ 4294967295
  recs : B.recs.length ≤ B.used
  used : B.used ≤ B.size
theorem BookMem.turned {S : Nat → Prop} {w w' : World} {g b : Nat} {B : BookS} {rv : Value} (h : BookMem w g b B rv) (k : Turn S w w') (hg : ¬ S g) (hr : ∀ x, rv.ownBlock = some x → ¬ S x) : BookMem w' g b B rv := ⟨k.heap h.blk hg, own_turn h.recs k hr⟩
theorem BookMem.grown {w w' : World} {g b : Nat} {B : BookS} {rv : Value} (h : BookMem w g b B rv) (k : w.grownBy w' none) : BookMem w' g b B rv := h.turned (S := fun _ => False) (Turn.of_grown k) (fun q => q) (fun _ _ q => q)
theorem BookMem.lt {w : World} {g b : Nat} {B : BookS} {rv : Value} (h : BookMem w g b B rv) : g < w.heap.size ∧ ∀ x, rv.ownBlock = some x → x < w.heap.size := ⟨(Array.getElem?_eq_some_iff.1 h.blk).1, fun x e => (h.recs.lt x e).2⟩
theorem BookMem.at_ {w : World} {g b : Nat} {B : BookS} {rv : Value} (h : BookMem w g b B rv) : w.cell? ⟨g, 0, none⟩ = some (.pointer (some ⟨b, 0, none⟩)) ∧ w.cell? ⟨g, 1, none⟩ = some (.int .i64 B.first) ∧ w.cell? ⟨g, 2, none⟩ = some (.int .i64 B.size) ∧ w.cell? ⟨g, 3, none⟩ = some (.int .i64 B.place) ∧
    w.cell? ⟨g, 4, none⟩ = some (.int .u32 B.turn) ∧ w.cell? ⟨g, 5, none⟩ = some rv ∧ w.cell? ⟨g, 6, none⟩ = some (.int .i64 B.used) ∧ w.cell? ⟨g, 7, none⟩ = some (.bool B.failed) :=
  ⟨cell_of h.blk 0, cell_of h.blk 1, cell_of h.blk 2, cell_of h.blk 3, cell_of h.blk 4, cell_of h.blk 5, cell_of h.blk 6, cell_of h.blk 7⟩

set_option maxRecDepth 100000 in
set_option maxHeartbeats 1600000 in
theorem begin_any (w : World) (g b : Nat) (B : BookS) (rv : Value) (h : BookMem w g b B rv) (p n : Nat) (hp : p ≤ 1) (ho : BookOK n B) :
    Calls Tryz.prog 59 #[.pointer (some ⟨g, 0, none⟩), .int .i64 p] w fun e w' => e = .returned (.int .i64 (B.first + p * B.size : Nat)) ∧ w.grownBy w' none := by
  obtain ⟨_, c1, c2, _⟩ := h.at_
  have h1 := ho.area
  have h2 := ho.few
  generalize B.first = f at *
  generalize B.size = z at *
  have e1 : (p : Int) * (z : Int) = ((p * z : Nat) : Int) := by rw [Int.natCast_mul]
  have hpz : p * z ≤ 1 * z := Nat.mul_le_mul_right _ hp
  have e2 : (f : Int) + ((p * z : Nat) : Int) = ((f + p * z : Nat) : Int) := by rw [Int.natCast_add]
  have e3 := wrap_i64_nat (p * z) (by omega)
  have e4 := wrap_i64_nat (f + p * z) (by omega)
  generalize p * z = q at e1 e2 e3 e4 ⊢
  generalize f + q = r at e2 e4 ⊢
  clear h ho
  go_enter Tryz.func59, Tryz.ntmps59
  go_wp2_with fail
  go_region
  all_goals
    go_wp2_with fail
    go_ret
    exact ⟨rfl, grownBy_drew (World.grownBy.refl _ _)⟩
theorem left_nil (w : World) : Calls Tryz.prog 35 #[.pointer none] w fun e w' => e = .returned (.int .i64 0) ∧ w = w' := by
  go_enter Tryz.func35, Tryz.ntmps35
  go_wp2_with fail
  go_ret
  exact ⟨rfl, rfl⟩
set_option maxRecDepth 100000 in
set_option maxHeartbeats 1600000 in
theorem bleft_any (w : World) (g b : Nat) (B : BookS) (rv : Value) (h : BookMem w g b B rv) (n : Nat) (ho : BookOK n B) :
    Calls Tryz.prog 35 #[.pointer (some ⟨g, 0, none⟩)] w fun e w' => e = .returned (.int .i64 (B.size - B.used : Nat)) ∧ w.grownBy w' none := by
  obtain ⟨_, _, c2, _, _, _, c6, _⟩ := h.at_
  have h1 := ho.area
  have h2 := ho.few
  have h3 := ho.used
  generalize B.used = u at *
  generalize B.size = z at *
  have e2 : (z : Int) - (u : Int) = ((z - u : Nat) : Int) := by omega
  have e4 := wrap_i64_nat (z - u) (by omega)
  generalize z - u = r at e2 e4 ⊢
  clear h ho
  go_enter Tryz.func35, Tryz.ntmps35
  go_wp2_with fail
  go_region
  all_goals
    go_wp2_with fail
    go_ret
    exact ⟨rfl, grownBy_drew (World.grownBy.refl _ _)⟩
/-- why a book takes no record -/
def takesI (B : BookS) (s : ByteArray) : Int := if 900 < s.size then 2 else if B.failed then 21 else 0
theorem takes_nil (s : ByteArray) (w : World) : Calls Tryz.prog 34 #[.pointer none, .string s] w fun e w' => e = .returned (.int .i64 1) ∧ w = w' := by
  go_enter Tryz.func34, Tryz.ntmps34
  go_wp2_with fail
  go_ret
  exact ⟨rfl, rfl⟩
theorem takes_any (w : World) (g b : Nat) (B : BookS) (rv : Value) (h : BookMem w g b B rv) (s : ByteArray) (hs : s.size ≤ maxLen) :
    Calls Tryz.prog 34 #[.pointer (some ⟨g, 0, none⟩), .string s] w fun e w' => e = .returned (.int .i64 (takesI B s)) ∧ w = w' := by
  obtain ⟨_, _, _, _, _, _, _, c7⟩ := h.at_
  unfold takesI
  unfold maxLen at hs
  clear h
  by_cases h9 : 900 < s.size
  · have h9' : (900 : Int) < (s.size : Int) := by omega
    rw [if_pos h9]
    go_enter Tryz.func34, Tryz.ntmps34
    go_wp2_with fail
    go_ret
    exact ⟨rfl, rfl⟩
  · have h9' : ¬ (900 : Int) < (s.size : Int) := by omega
    rw [if_neg h9]
    cases hf : B.failed with
    | true =>
      rw [hf] at c7
      go_enter Tryz.func34, Tryz.ntmps34
      go_wp2_with fail
      go_ret
      exact ⟨rfl, rfl⟩
    | false =>
      rw [hf] at c7
      go_enter Tryz.func34, Tryz.ntmps34
      go_wp2_with fail
      go_ret
      exact ⟨rfl, rfl⟩

/-- what a book's writing of sectors tells, and leaves -/
def writesS : DiskS → Nat → List ByteArray → Int × DiskS
  | D, _, [] => if D.fuse = 0 then (8, cutD D D.keep) else (0, syncD { D with fuse := decF D.fuse })
  | D, i, s :: r => if D.fuse = 0 then (8, cutD D D.keep) else writesS (wroteD D i s) (i + 1) r

set_option maxRecDepth 100000 in
set_option maxHeartbeats 1600000 in
theorem write_all (n0 : Nat) (Y : List Nat) (w : World) (g b : Nat) (cs : List Value) (D : DiskS) (hY : ∀ x ∈ Y, x < w.heap.size) (hn : n0 ≤ w.heap.size) (hg : g ∈ Y) (hb : w.heap[g]? = some (.cells (.pointer (some ⟨b, 0, none⟩) :: cs).toArray 80 (0, 0)))
    (at_ vg vo c : Nat) (L : List ByteArray) (hv : StrsAt w (.slice (some ⟨vg, vo, none⟩) L.length c) L) (hvY : vg ∈ Y) (hL : ∀ t ∈ L, t.size ≤ 64) (hD : KDisk n0 Y w b D) (hon : D.on = true)
    (hat : at_ + L.length ≤ D.last.length) (hlast : D.last.length ≤ 1024) (hwl : D.wait.length ≤ 100000000) (hf : D.fuse ≤ 9223372036854775807) (hk : D.keep.length ≤ 9223372036854775807) (h0 : 0 < L.length) :
    Calls Tryz.prog 62 #[.pointer (some ⟨g, 0, none⟩), .int .i64 at_, .slice (some ⟨vg, vo, none⟩) L.length c] w fun e w' => e = .returned (.int .i64 (writesS D at_ L).1) ∧ KDisk n0 Y w' b (writesS D at_ L).2 ∧ Turn (rest n0 Y) w w' := by
  have HY := Lib.hid hY
  have HG := Lib.hid hg
  have HB := Lib.hid hb
  have HV := Lib.hid hv
  have HVY := Lib.hid hvY
  have HL := Lib.hid hL
  have HN := Lib.hid hn
  have HD := Lib.hid (And.intro hD (And.intro hon (And.intro hf hk)))
  have HAT := Lib.hid (And.intro hat hlast)
  have hLl : (L.length : Int) ≤ 1024 := by omega
  have hati : (at_ : Int) ≤ 1024 := by omega
  have HWL := Lib.hid hwl
  clear hY hg hb hv hvY hL hD hon hf hk hwl hn
  go_enter Tryz.func62, Tryz.ntmps62
  go_wp2_with fail
  go_loopw [12] (fun iv wr => ∃ (k : Nat) (E : DiskS), k ≤ L.length ∧ iv = .int .i64 k ∧ Hid (KDisk n0 Y wr b E ∧ E.on = true ∧ E.fuse ≤ 9223372036854775807 ∧ E.keep.length ≤ 9223372036854775807 ∧ E.last.length = D.last.length ∧ E.wait.length = D.wait.length + k) ∧ Hid (writesS E (at_ + k) (L.drop k) = writesS D at_ L) ∧ Hid (Turn (rest n0 Y) w wr)) (fun iv _ => L.length - (intOf iv).toNat)
  case atStart => exact ⟨0, D, Nat.zero_le _, rfl, ⟨HD.out.1, HD.out.2.1, HD.out.2.2.1, HD.out.2.2.2, rfl, rfl⟩, by show _ = _; rw [Nat.add_zero, List.drop_zero], Turn.refl _ _⟩
  case round =>
    obtain ⟨k, E, hkl, rfl, HE, HW, HT⟩ := hrel
    have hY' : ∀ x ∈ Y, x < wr.heap.size := fun x hx => Nat.lt_of_lt_of_le (HY.out x hx) HT.out.size
    have hn' : n0 ≤ wr.heap.size := Nat.le_trans HN.out HT.out.size
    have hb' : wr.heap[g]? = _ := HT.out.inX HG.out HB.out
    have c0 := cell_of hb' 0
    simp at c0
    have HYN := Lib.hid (And.intro hY' hn')
    clear hb' hY' hn'
    by_cases hlt : k < L.length
    · have d1 : (k : Int) < (L.length : Int) := by omega
      have d0 : (0 : Int) ≤ (k : Int) := by omega
      obtain ⟨s, hs⟩ : ∃ s, L[k]? = some s := ⟨_, List.getElem?_eq_getElem hlt⟩
      have hds : L.drop k = s :: L.drop (k + 1) := by rw [List.drop_eq_getElem_cons hlt]; congr 1; exact (List.getElem?_eq_some_iff.1 hs).2
      have hsz := HL.out s (List.mem_of_getElem? hs)
      obtain ⟨vg', vo', he, hcell⟩ := HV.out.at_ k s hs
      cases he
      have cs' : wr.cell? ⟨vg, vo + k, none⟩ = some (.string s) := (HT.out.cell (HY.out _ HVY.out) (fun q => q.2 HVY.out) _).trans hcell
      obtain ⟨q, hq⟩ : ∃ q, at_ + k = q := ⟨_, rfl⟩
      have e1 : (at_ : Int) + (k : Int) = (q : Int) := by omega
      have e5 : (q : Int) ≤ 2048 := by omega
      have HQ := Lib.hid hq
      have hw := HW.out
      rw [hds, hq] at hw
      have HW2 := Lib.hid hw
      clear hs hds hcell hw HW hq
      by_cases hf0 : E.fuse = 0
      · have HP := Lib.hid (write_power_k (X := Y) (n0 := n0) q s HE.out.1 HE.out.2.1 (by rw [HE.out.2.2.2.2.1]; have := HAT.out; have := HQ.out; omega) hsz hf0 HE.out.2.2.2.1 (by have := HE.out.2.2.2.2.2; have := HWL.out; have := HAT.out; omega))
        have hr : writesS E q (s :: L.drop (k + 1)) = (8, cutD E E.keep) := by rw [writesS, if_pos hf0]
        rw [HW2.out] at hr
        have HR := Lib.hid hr
        clear hr hf0
        go_wp2_with fail
        refine HP.out.mono ?_
        rintro e w2 ⟨rfl, k2, t2⟩
        go_wp2_with fail
        go_ret
        exact ⟨by rw [HR.out]; rfl, by rw [HR.out]; exact k2, HT.out.then t2⟩
      · have HP := Lib.hid (write_k (n0 := n0) HYN.out.1 HYN.out.2 q s HE.out.1 HE.out.2.1 (by rw [HE.out.2.2.2.2.1]; have := HAT.out; have := HQ.out; omega) hsz hf0 HE.out.2.2.1 (by have := HE.out.2.2.2.2.2; have := HWL.out; have := HAT.out; omega))
        have hr : writesS E q (s :: L.drop (k + 1)) = writesS (wroteD E q s) (q + 1) (L.drop (k + 1)) := by rw [writesS, if_neg hf0]
        rw [HW2.out] at hr
        have HR := Lib.hid hr
        clear hr hf0
        go_wp2_with fail
        refine HP.out.mono ?_
        rintro e w2 ⟨rfl, k2, t2⟩
        go_wp2_with fail
        go_roundw
        case rel =>
          refine ⟨k + 1, wroteD E q s, by omega, by go_num, ⟨k2, HE.out.2.1, ?_, HE.out.2.2.2.1, HE.out.2.2.2.2.1, ?_⟩, by show _ = _; rw [HR.out, ← HQ.out]; rfl, HT.out.then t2⟩
          · have := HE.out.2.2.1
            show decF E.fuse ≤ _
            unfold decF
            split <;> omega
          · show (E.wait ++ [_]).length = _
            rw [List.length_append, HE.out.2.2.2.2.2]
            show _ + 1 = _
            omega
        case measure => simp [intOf]; omega
    · have hkL : k = L.length := by omega
      have hw := HW.out
      rw [List.drop_of_length_le (by omega)] at hw
      have d1 : ¬ (k : Int) < (L.length : Int) := by omega
      have hEl : 0 < E.last.length := by rw [HE.out.2.2.2.2.1]; have := HAT.out; omega
      by_cases hf0 : E.fuse = 0
      · have HP := Lib.hid (sync_power_k (X := Y) (n0 := n0) HE.out.1 HE.out.2.1 hEl hf0 HE.out.2.2.2.1 (by have := HE.out.2.2.2.2.2; have := HWL.out; have := HAT.out; omega))
        rw [writesS, if_pos hf0] at hw
        have HR := Lib.hid hw.symm
        clear hw hf0
        go_wp2_with fail
        refine HP.out.mono ?_
        rintro e w2 ⟨rfl, k2, t2⟩
        go_wp2_with fail
        go_ret
        exact ⟨by rw [HR.out]; rfl, by rw [HR.out]; exact k2, HT.out.then t2⟩
      · have HP := Lib.hid (sync_k (X := Y) (n0 := n0) HE.out.1 HE.out.2.1 hEl hf0 HE.out.2.2.1 (by have := HE.out.2.2.2.2.2; have := HWL.out; have := HAT.out; omega))
        rw [writesS, if_neg hf0] at hw
        have HR := Lib.hid hw.symm
        clear hw hf0
        go_wp2_with fail
        refine HP.out.mono ?_
        rintro e w2 ⟨rfl, k2, t2⟩
        go_wp2_with fail
        go_ret
        exact ⟨by rw [HR.out]; rfl, by rw [HR.out]; exact k2, HT.out.then t2⟩
end Go.Proofs.YtbakhdbnfmoceaaGreatDoor

namespace Go.Proofs.YtbakhdbnfmoceaaGreatDoor
open Go.RowKit
attribute [local irreducible] shaL

/-! what turns, and more blocks of the caller's own -/
theorem KDisk.turnMore {n0 : Nat} {X Y : List Nat} {S : Nat → Prop} {w w' : World} {b : Nat} {D : DiskS} (h : KDisk n0 X w b D) (k : Turn S w w') (hS : ∀ i, i < w.heap.size → S i → i ∈ X) (hY : ∀ i ∈ Y, i ∈ X ∨ w.heap.size ≤ i) : KDisk n0 Y w' b D := by
  have := DiskAt.turn h k (fun i hi q s => q.1.2 (hS i hi s))
  exact KDisk.of this (fun i _ q => ⟨q.1.1, fun hy => by rcases hY i hy with h1 | h1; exact q.1.2 h1; exact absurd q.2 (by omega)⟩)

def ownB (v : Value) : List Nat := v.ownBlock.toList
theorem ownB_mem {v : Value} {x : Nat} : x ∈ ownB v ↔ v.ownBlock = some x := by unfold ownB; simp
/-- block g is a book that holds B on a disk at block b that holds D; all their blocks lie from n0 on, none of them is one of X -/
structure KBookAt (n0 : Nat) (X : List Nat) (w : World) (g b : Nat) (B : BookS) (D : DiskS) (rv : Value) : Prop where
  mem : BookMem w g b B rv
  gn : n0 ≤ g
  gX : g ∉ X
  rn : ∀ x, rv.ownBlock = some x → n0 ≤ x ∧ x ∉ X ∧ x ≠ g
  disk : KDisk n0 (ownB rv ++ g :: X) w b D
def KBook (n0 : Nat) (X : List Nat) (w : World) (g b : Nat) (B : BookS) (D : DiskS) : Prop := ∃ rv, KBookAt n0 X w g b B D rv
theorem own_down {w : World} {B B' n size : Nat} {t : TypeId} {v : Value} {xs : List Value} (h : w.ownsRow B t size v n xs) (hb : B' ≤ B) : w.ownsRow B' t size v n xs := by
  refine ⟨h.1, ?_⟩
  rcases h.2 with h' | ⟨g, cap, cur, e, hB, r⟩
  · exact .inl h'
  · exact .inr ⟨g, cap, cur, e, Nat.le_trans hb hB, r⟩
/-- what laying a record tells, and leaves -/
def layS (B : BookS) (D : DiskS) (p t : Nat) (L : List ByteArray) (used : Nat) (s : ByteArray) : Int × BookS × DiskS :=
  let r := writesS D (B.first + p * B.size + used) (nextS t L.length s)
  if r.1 = 0 then (0, { B with place := p, turn := t, recs := L ++ [s], used := used + partsN s.size }, r.2) else (r.1, { B with failed := true }, r.2)
theorem rest_mono {n0 : Nat} {X Y : List Nat} (h : ∀ x ∈ X, x ∈ Y) {w w' : World} (k : Turn (rest n0 Y) w w') : Turn (rest n0 X) w w' := k.mono (fun _ _ q => ⟨q.1, fun hx => q.2 (h _ hx)⟩)

theorem held_ck {w w' : World} {HB : Nat} {a b c : Value} (h : w.cell? ⟨HB, 0, none⟩ = some a ∧ w.cell? ⟨HB, 1, none⟩ = some b ∧ w.cell? ⟨HB, 2, none⟩ = some c) (k : w.grownBy w' none) : w'.cell? ⟨HB, 0, none⟩ = some a ∧ w'.cell? ⟨HB, 1, none⟩ = some b ∧ w'.cell? ⟨HB, 2, none⟩ = some c := ⟨k.cell h.1 (by simp), k.cell h.2.1 (by simp), k.cell h.2.2 (by simp)⟩
theorem turn_ck {w w' : World} {n0 HB : Nat} {Y : List Nat} {a b c : Value} (h : w.cell? ⟨HB, 0, none⟩ = some a ∧ w.cell? ⟨HB, 1, none⟩ = some b ∧ w.cell? ⟨HB, 2, none⟩ = some c) (k : Turn (rest n0 Y) w w') (hm : HB ∈ Y) (hlt : HB < w.heap.size) : w'.cell? ⟨HB, 0, none⟩ = some a ∧ w'.cell? ⟨HB, 1, none⟩ = some b ∧ w'.cell? ⟨HB, 2, none⟩ = some c :=
  ⟨(k.cell hlt (fun q => q.2 hm) _).trans h.1, (k.cell hlt (fun q => q.2 hm) _).trans h.2.1, (k.cell hlt (fun q => q.2 hm) _).trans h.2.2⟩
theorem form_pos {w : World} {B n m : Nat} {t : TypeId} {size : Nat} {v : Value} {xs : List Value} (h : w.ownsRow B t size v n xs) (e : m = n) (h1 : 1 ≤ n) : ∃ g c, v = .slice (some ⟨g, 0, none⟩) m c := by
  subst e
  rcases own_form h with ⟨_, h0⟩ | ⟨g, c, e⟩
  · omega
  · exact ⟨g, c, e⟩
set_option maxRecDepth 100000 in
set_option maxHeartbeats 6400000 in
theorem lay_any (n0 n : Nat) (X : List Nat) (w : World) (g b : Nat) (B : BookS) (D : DiskS) (rv : Value) (hK : KBookAt n0 X w g b B D rv) (hX : ∀ x ∈ X, x < w.heap.size) (hn0 : n0 ≤ w.heap.size) (ho : BookOK n B) (hnl : D.last.length = n) (hon : D.on = true)
    (hwl : D.wait.length ≤ 100000000) (hf : D.fuse ≤ 9223372036854775807) (hk : D.keep.length ≤ 9223372036854775807)
    (p t used : Nat) (hp : p ≤ 1) (ht : t ≤ 4294967295) (hv : Value) (L : List ByteArray) (hvL : w.ownsRow 0 9 1 hv L.length (strsV L)) (hvr : hv = rv ∨ hv = .slice none 0 0) (hLu : L.length ≤ used) (s : ByteArray) (hs : s.size ≤ 900) (hus : used + partsN s.size ≤ B.size) (hr : ShaReady w) (hsX : n0 ≤ 0 → False) (hrX : n0 ≤ 1 → False) :
    Calls Tryz.prog 37 #[.pointer (some ⟨g, 0, none⟩), .int .i64 p, .agg #[.int .u32 t, hv, .int .i64 used], .string s] w fun e w' =>
      e = .returned (.int .i64 (layS B D p t L used s).1) ∧ KBook n0 X w' g b (layS B D p t L used s).2.1 (layS B D p t L used s).2.2 ∧ Turn (rest n0 X) w w' := by
  obtain ⟨ha, hc, rfl⟩ := slice_own' hvL
  have hgl := hK.mem.lt.1
  obtain ⟨HB, hHB⟩ : ∃ HB, w.heap.size = HB := ⟨_, rfl⟩
  obtain ⟨w1, hW1⟩ : ∃ w1, w.alloc (.cells #[.int .u32 t, .slice ha L.length hc, .int .i64 used] 78) = w1 := ⟨_, rfl⟩
  have hh1 : w1.heap[HB]? = some (.cells #[.int .u32 t, .slice ha L.length hc, .int .i64 used] 78 (0, 0)) := by rw [← hW1]; exact heap_alloc_at _ _ _ hHB
  have hg1 : w.grownBy w1 none := by rw [← hW1]; exact World.grownBy_alloc _ _ _
  have hB1 : w1.heap.size = HB + 1 := by rw [← hW1]; simp; omega
  obtain ⟨Y, hY⟩ : ∃ Y, HB :: (ownB rv ++ g :: X) = Y := ⟨_, rfl⟩
  have HYm : Hid (HB ∈ Y ∧ g ∈ Y ∧ (∀ x, rv.ownBlock = some x → x ∈ Y) ∧ ∀ x ∈ X, x ∈ Y) := by
    rw [← hY]
    refine ⟨by simp, by simp, fun x e => ?_, fun x hx => by simp [hx]⟩
    simp only [List.mem_cons, List.mem_append]
    exact .inr (.inl (ownB_mem.2 e))
  have HYl : Hid (∀ x ∈ Y, x < w1.heap.size) := by
    rw [← hY]
    intro x hx
    simp only [List.mem_cons, List.mem_append] at hx
    rcases hx with rfl | hx | rfl | hx
    · omega
    · have := hK.mem.lt.2 x (ownB_mem.1 hx); omega
    · omega
    · have := hX x hx; omega
  have HD1 : Hid (KDisk n0 Y w1 b D) := hK.disk.more hg1 (by
    rw [← hY]
    intro x hx
    rcases List.mem_cons.1 hx with rfl | hx
    · exact .inr (by omega)
    · exact .inl hx)
  have HM1 := Lib.hid (hK.mem.grown hg1)
  have hgHB : g ≠ HB := by omega
  have HOK := Lib.hid ho
  have hfi := ho.area
  have hfew := ho.few
  have hpz : p * B.size ≤ 1 * B.size := Nat.mul_le_mul_right _ hp
  have hpN := partsN_le s.size hs
  have hp1 := partsN_pos s.size
  have HBEG : Hid (∀ w', w1.grownBy w' none → Calls Tryz.prog 59 #[.pointer (some ⟨g, 0, none⟩), .int .i64 p] w' fun e w'' => e = .returned (.int .i64 (B.first + p * B.size : Nat)) ∧ w'.grownBy w'' none) :=
    fun w' h => begin_any w' g b B rv (HM1.out.grown h) p n hp HOK.out
  have HNXT : Hid (∀ w', w1.grownBy w' none → Calls Tryz.prog 63 #[.agg #[.int .u32 t, .slice ha L.length hc, .int .i64 used], .string s] w' fun e w'' => ∃ v, e = .returned v ∧ w''.ownsRow w'.heap.size 9 1 v (partsN s.size) (strsV (nextS t L.length s)) ∧ w'.grownBy w'' none) :=
    fun w' h => next_any t L.length ht (by omega) ha hc _ s hs w' ((hr.grown hg1).grown h)
  have HNL := Lib.hid (nextS_length t L.length s)
  have HNZ := Lib.hid (nextS_size t L.length s)
  have HLAY : Hid (layS B D p t L used s = if (writesS D (B.first + p * B.size + used) (nextS t L.length s)).1 = 0 then (0, { B with place := p, turn := t, recs := L ++ [s], used := used + partsN s.size }, (writesS D (B.first + p * B.size + used) (nextS t L.length s)).2) else ((writesS D (B.first + p * B.size + used) (nextS t L.length s)).1, { B with failed := true }, (writesS D (B.first + p * B.size + used) (nextS t L.length s)).2)) := rfl
  obtain ⟨A, hA⟩ : ∃ A, B.first + p * B.size = A := ⟨_, rfl⟩
  rw [hA] at HBEG HLAY
  obtain ⟨AT, hAT⟩ : ∃ AT, A + used = AT := ⟨_, rfl⟩
  rw [hAT] at HLAY
  obtain ⟨N, hN⟩ : ∃ N, nextS t L.length s = N := ⟨_, rfl⟩
  rw [hN] at HNXT HNL HNZ HLAY
  have hATn : AT + N.length ≤ D.last.length := by rw [HNL.out, hnl]; have := Nat.le_trans hpz (by omega : 1 * B.size ≤ B.size); rw [← hAT, ← hA]; rcases (by omega : p = 0 ∨ p = 1) with rfl | rfl <;> omega
  have HWRT : Hid (∀ (w' : World) (vg cc : Nat), w1.grownBy w' none → w'.ownsRow w1.heap.size 9 1 (.slice (some ⟨vg, 0, none⟩) N.length cc) N.length (strsV N) → Calls Tryz.prog 62 #[.pointer (some ⟨g, 0, none⟩), .int .i64 AT, .slice (some ⟨vg, 0, none⟩) N.length cc] w' fun e w'' =>
      e = .returned (.int .i64 (writesS D AT N).1) ∧ KDisk n0 Y w'' b (writesS D AT N).2 ∧ Turn (rest n0 Y) w' w'') := by
    intro w' vg cc hg' hrow
    have hvg := hrow.lt vg rfl
    have hsz := hg'.size
    refine (write_all n0 (vg :: Y) w' g b (bookCells b B rv).tail D ?_ (by have := hg1.size; omega) (by simp [HYm.out.2.1]) ?_ AT vg 0 cc N (strs_own hrow) (by simp) (fun t ht => by rw [HNZ.out t ht]; decide) ?_ hon hATn (by omega) hwl hf hk (by rw [HNL.out]; exact hp1)).mono ?_
    · intro x hx
      rcases List.mem_cons.1 hx with rfl | hx
      · exact hvg.2
      · exact Nat.lt_of_lt_of_le (HYl.out x hx) hsz
    · exact (HM1.out.grown hg').blk
    · exact HD1.out.more hg' (by
        intro x hx
        rcases List.mem_cons.1 hx with rfl | hx
        · exact .inr hvg.1
        · exact .inl hx)
    · rintro e w'' ⟨rfl, q1, q2⟩
      exact ⟨rfl, KDisk.of q1 (fun i _ q => ⟨q.1.1, fun hy => q.1.2 (by simp [hy])⟩), rest_mono (fun x hx => by simp [hx]) q2⟩
  have HDIV := Lib.hid (And.intro hp1 (And.intro hpN hus))
  have hA1 : A ≤ 2048 := by rw [← hA]; rcases (by omega : p = 0 ∨ p = 1) with rfl | rfl <;> omega
  have hu1 : used ≤ 1024 := by omega
  have e1 : (A : Int) + (used : Int) = (AT : Int) := by omega
  have e2 : IntKind.i64.wrap (AT : Int) = (AT : Int) := wrap_i64_nat AT (by omega)
  have HS1 : Hid (w1.cell? ⟨HB, 0, none⟩ = some (.int .u32 t) ∧ w1.cell? ⟨HB, 1, none⟩ = some (.slice ha L.length hc) ∧ w1.cell? ⟨HB, 2, none⟩ = some (.int .i64 used)) := ⟨cell_of hh1 0, cell_of hh1 1, cell_of hh1 2⟩
  have HH1 := Lib.hid hh1
  have HKK := Lib.hid (And.intro hK (And.intro hX hn0))
  have HV := Lib.hid (And.intro hvL (And.intro hvr (And.intro hLu hs)))
  have HG1 := Lib.hid hg1
  have HAA := Lib.hid (And.intro hA (And.intro hAT hN))
  have HSR := Lib.hid (And.intro hsX hrX)
  have HB1 := Lib.hid hB1
  have HP := Lib.hid (And.intro hp (And.intro ht hgHB))
  clear hh1 hK hX hn0 hvL hvr hLu hs hg1 hA hAT hN hsX hrX hr ho hgl hATn hnl hwl hf hk hon hpz hfi hfew hpN hp1 hus hY hp ht hgHB
  go_enter Tryz.func37, Tryz.ntmps37
  go_upto_region 1 with (fail)
  go_cut [9] (fun ev wx => ev = .int .i64 (writesS D AT N).1 ∧ Hid (wx.heap[HB]? = some (.cells #[.int .u32 t, .slice ha L.length hc, .int .i64 used] 78 (0, 0))) ∧ Hid (KDisk n0 Y wx b (writesS D AT N).2) ∧ Hid (Turn (rest n0 Y) w1 wx))
  case first =>
    have hG : w1.grownBy w1.drew none := grownBy_drew (World.grownBy.refl _ _)
    go_wp2_with fail
    go_region_held3 (fun w' => w'.cell? ⟨HB, 0, none⟩ = some (.int .u32 t) ∧ w'.cell? ⟨HB, 1, none⟩ = some (.slice ha L.length hc) ∧ w'.cell? ⟨HB, 2, none⟩ = some (.int .i64 used)) (first | exact ck | exact HS1.out)
      (first
        | (go_at_call 59; refine (HBEG.out _ hG).mono ?_; rintro e wb ⟨rfl, hb⟩; (try have hR := own_turn hR (S := fun _ => False) (Turn.of_grown hb) (fun _ _ q => q)); have hG := grownBy_trans hG hb; have ck := held_ck HS1.out hG)
        | (go_at_call 63; refine (HNXT.out _ hG).mono ?_; rintro e wn ⟨v, rfl, hR0, hn⟩; have hR := own_down hR0 hG.size; have hG := grownBy_trans hG hn; have ck := held_ck HS1.out hG)
        | (go_at_call 62; (obtain ⟨vg, vc, rfl⟩ : ∃ vg vc, v = .slice (some ⟨vg, 0, none⟩) N.length vc := form_pos hR HNL.out HDIV.out.1); rw [← HNL.out] at hR; refine (HWRT.out _ vg vc hG hR).mono ?_; rintro e ww ⟨rfl, hd, htt⟩; have ck := turn_ck (held_ck HS1.out hG) htt HYm.out.1 (Nat.lt_of_lt_of_le (by have := HB1.out; omega) hG.size)))
    go_wp2_with fail
    go_meet
    case rel => exact ⟨rfl, htt.inX HYm.out.1 (hG.heap HH1.out (by simp)), hd, (Turn.of_grown hG).then htt⟩
  case rest =>
    obtain ⟨rfl, HHB, HDc, HTc⟩ := hcut
    have hbk : wc.heap[g]? = some (.cells (bookCells b B rv).toArray 80 (0, 0)) := HTc.out.inX HYm.out.2.1 HM1.out.blk
    have HBK := Lib.hid hbk
    have HLT := Lib.hid (Nat.le_trans HG1.out.size HTc.out.size)
    have HROW : Hid (wc.ownsRow 0 9 1 rv B.recs.length (strsV B.recs)) := own_turn HM1.out.recs HTc.out (fun x e q => q.2 (HYm.out.2.2.1 x e))
    have HTW : Hid (Turn (rest n0 X) w wc) := rest_mono HYm.out.2.2.2 ((Turn.of_grown HG1.out).then HTc.out)
    obtain ⟨R, hR⟩ : ∃ R, writesS D AT N = R := ⟨_, rfl⟩
    rw [hR] at HLAY HDc ⊢
    have b0 := cell_of hbk 0
    have b3 := cell_of hbk 3
    have b4 := cell_of hbk 4
    have b5 := cell_of hbk 5
    have b6 := cell_of hbk 6
    have b7 := cell_of hbk 7
    have f7 := free_of hbk 7
    simp [bookCells] at b0 b3 b4 b5 b6 b7
    clear hbk hR
    by_cases h0 : R.1 = 0
    · have hl := HLAY.out
      rw [if_pos h0] at hl
      have HL := Lib.hid hl
      have e3 : (R.1 == 0) = true := by simpa using h0
      have e4 : (R.1 != 0) = false := by simpa using h0
      have k0 := cell_of HHB.out 0
      have k1 := cell_of HHB.out 1
      have k2 := cell_of HHB.out 2
      simp at k0 k1 k2
      have hvb : ∀ x, (Value.slice ha L.length hc).ownBlock = some x → rv.ownBlock = some x := by
        intro x e
        rcases HV.out.2.1 with h | h
        · rw [← h]; exact e
        · injection h with h1 h2 h3; subst h1; simp [Value.ownBlock] at e
      have hvw : wc.ownsRow 0 9 1 (.slice ha L.length hc) L.length (strsV L) :=
        own_turn (own_turn HV.out.1 (S := fun _ => False) (Turn.of_grown HG1.out) (fun _ _ q => q)) HTc.out (fun x e q => q.2 (HYm.out.2.2.1 x (hvb x e)))
      have HWI := Lib.hid (with_any t used _ L s (by have := HV.out.2.2.2; omega) (by omega) (by have := HV.out.2.2.1; omega) wc hvw)
      have HVB := Lib.hid hvb
      clear hl h0 hvb hvw
      go_wp2_with fail
      refine HWI.out.mono ?_
      rintro e w2 ⟨g2, c2, rfl, hrow, hg2, hat⟩
      have hne : (Value.slice ha L.length hc).ownBlock ≠ some g := fun e => (HKK.out.1.rn g (HVB.out g e)).2.2 rfl
      have hbk2 : w2.heap[g]? = some (.cells (bookCells b B rv).toArray 80 (0, 0)) := hg2.heap HBK.out hne
      have hgc : g < wc.heap.size := (Array.getElem?_eq_some_iff.1 HBK.out).1
      have hg2g : g2 ≠ g := by
        rcases hat with e | e
        · intro h; exact hne (by rw [← h]; exact e)
        · omega
      have c3 := cell_of hbk2 3
      have c4 := cell_of hbk2 4
      have c5 := cell_of hbk2 5
      have c6 := cell_of hbk2 6
      have f3 := free_of hbk2 3
      have f4 := free_of hbk2 4
      have f5 := free_of hbk2 5
      have f6 := free_of hbk2 6
      simp [bookCells] at c3 c4 c5 c6
      have HBK2 := Lib.hid hbk2
      have HW2 := Lib.hid (And.intro hrow (And.intro hg2 (And.intro hat hg2g)))
      clear hbk2 hrow hg2 hat hg2g hne b0 b3 b4 b5 b6 b7 f7 k0 k1 k2
      go_wp2_with fail
      go_ret
      rw [HL.out]
      have t2 : Turn (fun i => (Value.slice ha L.length hc).ownBlock = some i) wc w2 := (Turn.refl _ wc).row HW2.out.2.1 (fun i _ e => e)
      have t3 : Turn (fun i => i = g) w2 ((((w2.setCell ⟨g, 3, none⟩ (.int .i64 p)).setCell ⟨g, 4, none⟩ (.int .u32 t)).setCell ⟨g, 5, none⟩ (.slice (some ⟨g2, 0, none⟩) (L.length + 1) c2)).setCell ⟨g, 6, none⟩ (.int .i64 (used + partsN s.size : Nat))) :=
        (((((Turn.refl (fun i => i = g) w2).setCell (fun _ => rfl) _ _).setCell (fun _ => rfl) _ _).setCell (fun _ => rfl) _ _).setCell (fun _ => rfl) _ _)
      have hmem : ∀ x, (Value.slice (some ⟨g2, 0, none⟩) (L.length + 1) c2).ownBlock = some x → x = g2 := fun x e => by simpa [Value.ownBlock] using e.symm
      have hn0 : n0 ≤ wc.heap.size := Nat.le_trans HKK.out.2.2 HLT.out
      refine ⟨rfl, ⟨.slice (some ⟨g2, 0, none⟩) (L.length + 1) c2, ⟨?_, ?_⟩, HKK.out.1.gn, HKK.out.1.gX, ?_, ?_⟩, ?_⟩
      · rw [heap_setCell (heap_setCell (heap_setCell (heap_setCell HBK2.out 3 _) 4 _) 5 _) 6 _]; rfl
      · have : (L ++ [s]).length = L.length + 1 := by simp
        show World.ownsRow _ 0 _ 1 _ (L ++ [s]).length _
        rw [this]
        exact own_turn HW2.out.1 t3 (fun x e q => HW2.out.2.2.2 ((hmem x e).symm.trans q))
      · intro x e
        rw [hmem x e]
        rcases HW2.out.2.2.1 with e2 | e2
        · exact HKK.out.1.rn g2 (HVB.out g2 e2)
        · exact ⟨Nat.le_trans hn0 e2, fun hx => by have := HKK.out.2.1 g2 hx; have := HLT.out; omega, HW2.out.2.2.2⟩
      · refine KDisk.turnMore (KDisk.turnMore HDc.out t2 (fun i _ e => HYm.out.2.2.1 i (HVB.out i e)) (Y := g2 :: g :: X) (fun i hi => ?_)) t3 (fun i _ e => by rw [e]; simp) (fun i hi => .inl ?_)
        · rcases List.mem_cons.1 hi with rfl | hi
          · rcases HW2.out.2.2.1 with e2 | e2
            · exact .inl (HYm.out.2.2.1 _ (HVB.out _ e2))
            · exact .inr e2
          · rcases List.mem_cons.1 hi with rfl | hi
            · exact .inl HYm.out.2.1
            · exact .inl (HYm.out.2.2.2 i hi)
        · simp only [List.mem_append, List.mem_cons] at hi ⊢
          rcases hi with hi | hi
          · exact .inl (hmem i (ownB_mem.1 hi))
          · exact .inr hi
      · refine (HTW.out.trans t2 (fun i _ e => ?_)).trans t3 (fun i _ e => by rw [e]; exact ⟨HKK.out.1.gn, HKK.out.1.gX⟩)
        have := HKK.out.1.rn i (HVB.out i e)
        exact ⟨this.1, this.2.1⟩
    · have e3 : (R.1 == 0) = false := by simpa using h0
      have e4 : (R.1 != 0) = true := by simpa using h0
      have hl := HLAY.out
      rw [if_neg h0] at hl
      have HL := Lib.hid hl
      clear hl h0
      go_wp2_with fail
      go_ret
      rw [HL.out]
      have t7 : Turn (fun i => i = g) wc (wc.setCell ⟨g, 7, none⟩ (.bool true)) := (Turn.refl (fun i => i = g) wc).setCell (fun _ => rfl) _ _
      refine ⟨rfl, ⟨rv, ⟨?_, own_turn HROW.out t7 (fun x e q => (HKK.out.1.rn x e).2.2 q)⟩, HKK.out.1.gn, HKK.out.1.gX, HKK.out.1.rn, ?_⟩, ?_⟩
      · rw [heap_setCell HBK.out]; rfl
      · exact KDisk.turnMore HDc.out t7 (fun i _ e => by rw [e]; exact HYm.out.2.1) (fun i hi => .inl (by
          simp only [List.mem_append, List.mem_cons] at hi
          rcases hi with hi | rfl | hi
          · exact HYm.out.2.2.1 i (ownB_mem.1 hi)
          · exact HYm.out.2.1
          · exact HYm.out.2.2.2 i hi))
      · exact HTW.out.trans t7 (fun i _ e => by rw [e]; exact ⟨HKK.out.1.gn, HKK.out.1.gX⟩)
end Go.Proofs.YtbakhdbnfmoceaaGreatDoor

namespace Go.Proofs.YtbakhdbnfmoceaaGreatDoor
open Go.RowKit
attribute [local irreducible] shaL

theorem KBookAt.more {n0 : Nat} {X Y : List Nat} {w w' : World} {g b : Nat} {B : BookS} {D : DiskS} {rv : Value} (h : KBookAt n0 X w g b B D rv) (k : w.grownBy w' none) (hY : ∀ i ∈ Y, i ∈ X ∨ w.heap.size ≤ i) : KBookAt n0 Y w' g b B D rv := by
  have hl := h.mem.lt
  refine ⟨h.mem.grown k, h.gn, fun hx => ?_, fun x e => ⟨(h.rn x e).1, fun hx => ?_, (h.rn x e).2.2⟩, h.disk.more k (fun i hi => ?_)⟩
  · rcases hY g hx with q | q
    · exact h.gX q
    · omega
  · rcases hY x hx with q | q
    · exact (h.rn x e).2.1 q
    · have := hl.2 x e; omega
  · simp only [List.mem_append, List.mem_cons] at hi ⊢
    rcases hi with hi | rfl | hi
    · exact .inl (.inl hi)
    · exact .inl (.inr (.inl rfl))
    · rcases hY i hi with q | q
      · exact .inl (.inr (.inr q))
      · exact .inr q
theorem KBookAt.less {n0 : Nat} {X Y : List Nat} {w : World} {g b : Nat} {B : BookS} {D : DiskS} {rv : Value} (h : KBookAt n0 Y w g b B D rv) (hX : ∀ x ∈ X, x ∈ Y) : KBookAt n0 X w g b B D rv :=
  ⟨h.mem, h.gn, fun hx => h.gX (hX g hx), fun x e => ⟨(h.rn x e).1, fun hx => (h.rn x e).2.1 (hX x hx), (h.rn x e).2.2⟩,
   KDisk.of h.disk (fun i _ q => ⟨q.1.1, fun hi => q.1.2 (by
     simp only [List.mem_append, List.mem_cons] at hi ⊢
     rcases hi with hi | hi | hi
     · exact .inl hi
     · exact .inr (.inl hi)
     · exact .inr (.inr (hX i hi)))⟩)⟩
theorem KBook.less {n0 : Nat} {X Y : List Nat} {w : World} {g b : Nat} {B : BookS} {D : DiskS} (h : KBook n0 Y w g b B D) (hX : ∀ x ∈ X, x ∈ Y) : KBook n0 X w g b B D := let ⟨rv, k⟩ := h; ⟨rv, k.less hX⟩
theorem KBook.grown {n0 : Nat} {X : List Nat} {w w' : World} {g b : Nat} {B : BookS} {D : DiskS} (h : KBook n0 X w g b B D) (k : w.grownBy w' none) : KBook n0 X w' g b B D := let ⟨rv, q⟩ := h; ⟨rv, q.more k (fun _ hi => .inl hi)⟩
/-- what Put tells, and leaves -/
def putS (B : BookS) (D : DiskS) (s : ByteArray) : Int × BookS × DiskS :=
  if takesI B s ≠ 0 then (takesI B s, B, D) else if B.size - B.used < partsN s.size then (9, B, D) else layS B D B.place (max B.turn 1) B.recs B.used s
def compactS (B : BookS) (D : DiskS) (s : ByteArray) : Int × BookS × DiskS :=
  if takesI B s ≠ 0 then (takesI B s, B, D) else if B.size < partsN s.size ∨ B.turn = 4294967295 then (9, B, D) else layS B D (1 - B.place) (B.turn + 1) [] 0 s
theorem bput_nil (s : ByteArray) (w : World) : Calls Tryz.prog 18 #[.pointer none, .string s] w fun e w' => e = .returned (.int .i64 1) ∧ w = w' := by
  go_enter Tryz.func18, Tryz.ntmps18
  go_wp2_with fail
  refine (takes_nil s _).mono ?_
  rintro e w1 ⟨rfl, rfl⟩
  go_wp2_with fail
  go_ret
  exact ⟨rfl, rfl⟩
theorem bcompact_nil (s : ByteArray) (w : World) : Calls Tryz.prog 48 #[.pointer none, .string s] w fun e w' => e = .returned (.int .i64 1) ∧ w = w' := by
  go_enter Tryz.func48, Tryz.ntmps48
  go_wp2_with fail
  refine (takes_nil s _).mono ?_
  rintro e w1 ⟨rfl, rfl⟩
  go_wp2_with fail
  go_ret
  exact ⟨rfl, rfl⟩
theorem records_nil (w : World) : Calls Tryz.prog 21 #[.pointer none] w fun e w' => e = .returned (.slice none 0 0) ∧ w = w' := by
  go_enter Tryz.func21, Tryz.ntmps21
  go_wp2_with fail
  go_ret
  exact ⟨rfl, rfl⟩
set_option maxRecDepth 100000 in
set_option maxHeartbeats 1600000 in
theorem records_any (w : World) (g b : Nat) (B : BookS) (rv : Value) (h : BookMem w g b B rv) (hn : B.recs.length ≤ 100000) :
    Calls Tryz.prog 21 #[.pointer (some ⟨g, 0, none⟩)] w fun e w' => ∃ v, e = .returned v ∧ StrsAt w' v B.recs ∧ w.grownBy w' none := by
  obtain ⟨_, _, _, _, _, c5, _⟩ := h.at_
  have hrow := h.recs
  have hC : ∃ v0, rv = v0 ∧ ∀ w', w.grownBy w' none → Calls Tryz.prog 45 #[v0] w' fun e w'' => ∃ v, e = .returned v ∧ StrsAt w'' v B.recs ∧ w'.grownBy w'' none := by
    refine ⟨rv, rfl, fun w' hg => ?_⟩
    rcases own_form hrow with ⟨rfl, h0⟩ | ⟨r, c, rfl⟩
    · refine (Tryz.slices_Clone_string_nil 0 0 w').mono ?_
      rintro e w'' ⟨rfl, rfl⟩
      exact ⟨_, rfl, by rw [List.eq_nil_of_length_eq_zero h0]; exact ⟨none, 0, rfl, fun i h => absurd h (by simp)⟩, World.grownBy.refl _ _⟩
    · have hs := (strs_own hrow).grown hg
      by_cases h0 : B.recs.length = 0
      · rw [h0]
        refine (Tryz.slices_Clone_string_zero ⟨r, 0, none⟩ c w').mono ?_
        rintro e w'' ⟨v', rfl, q1, _, q2⟩
        have hr0 := List.eq_nil_of_length_eq_zero h0
        rw [hr0]
        obtain ⟨a, cc, rfl⟩ := slice_own' q1
        exact ⟨_, rfl, ⟨a, cc, rfl, fun i h => absurd h (by simp)⟩, grownBy_below q2⟩
      · refine (Tryz.slices_Clone_string r 0 B.recs.length c B.recs w' (Nat.le_refl _) (by omega) (fun j hj => ?_)).mono ?_
        · obtain ⟨g', o', he, hc⟩ := hs.at_ j _ (List.getElem?_eq_getElem hj)
          cases he
          rw [hc, List.getD_eq_getElem?_getD, List.getElem?_eq_getElem hj]
          rfl
        · rintro e w'' ⟨v', rfl, q1, _, q2⟩
          rw [List.take_of_length_le (Nat.le_refl _)] at q1
          obtain ⟨a, cc, rfl⟩ := slice_own' q1
          exact ⟨_, rfl, strs_own q1, grownBy_below q2⟩
  obtain ⟨v0, rfl, hC⟩ := hC
  have HC := Lib.hid hC
  clear hC hrow h
  go_enter Tryz.func21, Tryz.ntmps21
  go_wp2_with fail
  refine (HC.out _ (World.grownBy.refl _ _)).mono ?_
  rintro e w2 ⟨v, rfl, hs, hg⟩
  have H2 := Lib.hid (And.intro hs hg)
  clear hs hg
  go_wp2_with fail
  go_ret
  exact ⟨v, rfl, H2.out.1, H2.out.2⟩

set_option maxRecDepth 100000 in
set_option maxHeartbeats 6400000 in
theorem bput_any (n0 n : Nat) (X : List Nat) (w : World) (g b : Nat) (B : BookS) (D : DiskS) (hK : KBook n0 X w g b B D) (hX : ∀ x ∈ X, x < w.heap.size) (hn0 : n0 ≤ w.heap.size) (ho : BookOK n B) (hnl : D.last.length = n) (hon : D.on = true)
    (hwl : D.wait.length ≤ 100000000) (hf : D.fuse ≤ 9223372036854775807) (hk : D.keep.length ≤ 9223372036854775807)
    (s : ByteArray) (hs : s.size ≤ maxLen) (hr : ShaReady w) (hsX : n0 ≤ 0 → False) (hrX : n0 ≤ 1 → False) :
    Calls Tryz.prog 18 #[.pointer (some ⟨g, 0, none⟩), .string s] w fun e w' =>
      e = .returned (.int .i64 (putS B D s).1) ∧ KBook n0 X w' g b (putS B D s).2.1 (putS B D s).2.2 ∧ Turn (rest n0 X) w w' := by
  obtain ⟨rv, hK⟩ := hK
  have HT := Lib.hid (fun w' (h : w.grownBy w' none) => takes_any w' g b B rv (hK.mem.grown h) s hs)
  unfold putS
  by_cases ht0 : takesI B s ≠ 0
  · rw [if_pos ht0]
    have e1 : (takesI B s != 0) = true := by simpa using ht0
    generalize takesI B s = T at HT e1 ⊢
    have HK := Lib.hid hK
    clear hK ht0
    go_enter Tryz.func18, Tryz.ntmps18
    go_wp2_with fail
    refine (HT.out _ (World.grownBy.refl _ _)).mono ?_
    rintro e w1 ⟨rfl, rfl⟩
    go_wp2_with fail
    go_ret
    exact ⟨rfl, ⟨rv, HK.out⟩, Turn.refl _ _⟩
  · rw [if_neg ht0]
    have ht00 : takesI B s = 0 := by omega
    rw [ht00] at HT
    have hs9 : s.size ≤ 900 := by
      unfold takesI at ht00
      split at ht00
      · omega
      · omega
    have HLF := Lib.hid (fun w' (h : w.grownBy w' none) => bleft_any w' g b B rv (hK.mem.grown h) n ho)
    have HPT := Lib.hid (fun w => parts_any s.size (by omega) w)
    have hs9i : (s.size : Int) ≤ 900 := by omega
    by_cases hp : B.size - B.used < partsN s.size
    · rw [if_pos hp]
      have hp' : ((B.size - B.used : Nat) : Int) < (partsN s.size : Int) := by omega
      have HK := Lib.hid hK
      clear hK ht0 ht00
      generalize B.size - B.used = lf at HLF hp' hp
      generalize partsN s.size = pn at HPT hp' hp
      go_enter Tryz.func18, Tryz.ntmps18
      go_wp2_with fail
      refine (HT.out _ (World.grownBy.refl _ _)).mono ?_
      rintro e w1 ⟨rfl, rfl⟩
      go_wp2_with fail
      refine (HLF.out _ (World.grownBy.refl _ _)).mono ?_
      rintro e w2 ⟨rfl, g2⟩
      go_wp2_with fail
      refine (HPT.out _).mono ?_
      rintro e w3 ⟨rfl, rfl⟩
      go_wp2_with fail
      go_ret
      exact ⟨rfl, ⟨rv, HK.out.more g2 (fun _ hi => .inl hi)⟩, Turn.of_grown g2⟩
    · rw [if_neg hp]
      have hp' : ¬ ((B.size - B.used : Nat) : Int) < (partsN s.size : Int) := by omega
      have hpu : B.used + partsN s.size ≤ B.size := by have := ho.used; omega
      have HLAY : Hid (∀ (w' : World) (X' : List Nat) (hg : w.grownBy w' none) (hX' : ∀ x ∈ X', x < w'.heap.size) (hK' : KBookAt n0 X' w' g b B D rv), Calls Tryz.prog 37 #[.pointer (some ⟨g, 0, none⟩), .int .i64 B.place, .agg #[.int .u32 (max B.turn 1 : Nat), rv, .int .i64 B.used], .string s] w' fun e w'' =>
          e = .returned (.int .i64 (layS B D B.place (max B.turn 1) B.recs B.used s).1) ∧ KBook n0 X' w'' g b (layS B D B.place (max B.turn 1) B.recs B.used s).2.1 (layS B D B.place (max B.turn 1) B.recs B.used s).2.2 ∧ Turn (rest n0 X') w' w'') :=
        fun w' X' hg hX' hK' => lay_any n0 n X' w' g b B D rv hK' hX' (Nat.le_trans hn0 hg.size) ho hnl hon hwl hf hk B.place (max B.turn 1) B.used ho.place (by have := ho.turn; omega) rv B.recs hK'.mem.recs (.inl rfl) ho.recs s hs9 hpu (hr.grown hg) hsX hrX
      generalize layS B D B.place (max B.turn 1) B.recs B.used s = R at HLAY ⊢
      have HK := Lib.hid hK
      have hmx : max (B.turn : Int) 1 = ((max B.turn 1 : Nat) : Int) := by omega
      have HXX := Lib.hid (And.intro hX hn0)
      obtain ⟨MT, hMT⟩ : ∃ MT, max B.turn 1 = MT := ⟨_, rfl⟩
      rw [hMT] at HLAY hmx
      have hmt : MT ≤ 4294967295 := by have := ho.turn; omega
      obtain ⟨ra, rc, hrv⟩ := slice_own' hK.mem.recs
      generalize B.size - B.used = lf at HLF hp' hp
      generalize partsN s.size = pn at HPT hp' hp
      have hturn := ho.turn
      have hplace := ho.place
      have HMT := Lib.hid hMT
      clear hK ht0 ht00 hp hpu hX hn0 hsX hrX hr ho hMT
      go_enter Tryz.func18, Tryz.ntmps18
      go_wp2_with fail
      refine (HT.out _ (World.grownBy.refl _ _)).mono ?_
      rintro e w1 ⟨rfl, rfl⟩
      go_wp2_with fail
      refine (HLF.out _ (World.grownBy.refl _ _)).mono ?_
      rintro e w2 ⟨rfl, g2⟩
      go_wp2_with fail
      refine (HPT.out _).mono ?_
      rintro e w3 ⟨rfl, rfl⟩
      obtain ⟨_, _, _, c3, c4, c5, c6, _⟩ := (HK.out.mem.grown g2).at_
      have G2 := Lib.hid g2
      clear g2
      go_wp2_with fail
      obtain ⟨w3, hW3⟩ : ∃ w3, w2.alloc (.cells #[.int .u32 MT, .slice ra B.recs.length rc, .int .i64 B.used] 78) = w3 := ⟨_, rfl⟩
      rw [hW3]
      have hh3 : w3.heap[w2.heap.size]? = some (.cells #[.int .u32 MT, .slice ra B.recs.length rc, .int .i64 B.used] 78 (0, 0)) := by rw [← hW3]; exact heap_alloc_at _ _ _ rfl
      have hg3 : w2.grownBy w3 none := by rw [← hW3]; exact World.grownBy_alloc _ _ _
      have k0 := cell_of hh3 0
      have k1 := cell_of hh3 1
      have k2 := cell_of hh3 2
      simp at k0 k1 k2
      have c3' := hg3.cell c3 (by simp)
      have hsz3 : w3.heap.size = w2.heap.size + 1 := by rw [← hW3]; simp
      have HG3 := Lib.hid (grownBy_trans G2.out hg3)
      have HLY : Hid (∀ w', w3.grownBy w' none → Calls Tryz.prog 37 #[.pointer (some ⟨g, 0, none⟩), .int .i64 B.place, .agg #[.int .u32 MT, .slice ra B.recs.length rc, .int .i64 B.used], .string s] w' fun e w'' =>
          e = .returned (.int .i64 R.1) ∧ KBook n0 (w2.heap.size :: X) w'' g b R.2.1 R.2.2 ∧ Turn (rest n0 (w2.heap.size :: X)) w' w'') := by
        rw [← hrv]
        intro w' h
        have hsz' := h.size
        have hg' := grownBy_trans hg3 h
        have h2 := (HK.out.more (grownBy_trans G2.out hg') (Y := X) (fun _ hi => .inl hi))
        refine HLAY.out w' _ (grownBy_trans G2.out hg') (fun x hx => ?_) ((HK.out.more G2.out (Y := X) (fun _ hi => .inl hi)).more hg' (fun i hi => ?_))
        · rcases List.mem_cons.1 hx with rfl | hx
          · omega
          · have := HXX.out.1 x hx; have := G2.out.size; omega
        · rcases List.mem_cons.1 hi with rfl | hi
          · exact .inr (Nat.le_refl _)
          · exact .inl hi
      clear hW3 hh3 hg3 c3 c4 c5 c6 HLAY hsz3 hrv
      go_region_with ((go_at_call 37; refine (HLY.out _ (grownBy_drew (World.grownBy.refl _ _))).mono ?_; rintro e wl ⟨rfl, hkb, htt⟩))
      all_goals
        go_wp2_with fail
        go_ret
        exact ⟨rfl, hkb.less (fun x hx => by simp [hx]), (Turn.of_grown (grownBy_drew HG3.out)).then (rest_mono (fun x hx => by simp [hx]) htt)⟩

end Go.Proofs.YtbakhdbnfmoceaaGreatDoor

namespace Go.Proofs.YtbakhdbnfmoceaaGreatDoor
open Go.RowKit
attribute [local irreducible] shaL

theorem own_nil (w : World) (t : TypeId) : w.ownsRow 0 t 1 (.slice none 0 0) ([] : List ByteArray).length (strsV []) := World.ownsRow_nil _ _ _ _
set_option maxRecDepth 100000 in
set_option maxHeartbeats 6400000 in
theorem bcompact_any (n0 n : Nat) (X : List Nat) (w : World) (g b : Nat) (B : BookS) (D : DiskS) (hK : KBook n0 X w g b B D) (hX : ∀ x ∈ X, x < w.heap.size) (hn0 : n0 ≤ w.heap.size) (ho : BookOK n B) (hnl : D.last.length = n) (hon : D.on = true)
    (hwl : D.wait.length ≤ 100000000) (hf : D.fuse ≤ 9223372036854775807) (hk : D.keep.length ≤ 9223372036854775807)
    (s : ByteArray) (hs : s.size ≤ maxLen) (hr : ShaReady w) (hsX : n0 ≤ 0 → False) (hrX : n0 ≤ 1 → False) :
    Calls Tryz.prog 48 #[.pointer (some ⟨g, 0, none⟩), .string s] w fun e w' =>
      e = .returned (.int .i64 (compactS B D s).1) ∧ KBook n0 X w' g b (compactS B D s).2.1 (compactS B D s).2.2 ∧ Turn (rest n0 X) w w' := by
  obtain ⟨rv, hK⟩ := hK
  have HT := Lib.hid (fun w' (h : w.grownBy w' none) => takes_any w' g b B rv (hK.mem.grown h) s hs)
  unfold compactS
  by_cases ht0 : takesI B s ≠ 0
  · rw [if_pos ht0]
    have e1 : (takesI B s != 0) = true := by simpa using ht0
    generalize takesI B s = T at HT e1 ⊢
    have HK := Lib.hid hK
    clear hK ht0
    go_enter Tryz.func48, Tryz.ntmps48
    go_wp2_with fail
    refine (HT.out _ (World.grownBy.refl _ _)).mono ?_
    rintro e w1 ⟨rfl, rfl⟩
    go_wp2_with fail
    go_ret
    exact ⟨rfl, ⟨rv, HK.out⟩, Turn.refl _ _⟩
  · rw [if_neg ht0]
    have ht00 : takesI B s = 0 := by omega
    rw [ht00] at HT
    have hs9 : s.size ≤ 900 := by
      unfold takesI at ht00
      split at ht00
      · omega
      · omega
    have HPT := Lib.hid (fun w => parts_any s.size (by omega) w)
    have hs9i : (s.size : Int) ≤ 900 := by omega
    obtain ⟨_, _, c2, c3, c4, _, _, _⟩ := hK.mem.at_
    by_cases hp : B.size < partsN s.size ∨ B.turn = 4294967295
    · rw [if_pos hp]
      have HK := Lib.hid hK
      clear hK ht0 ht00
      by_cases hp1 : B.size < partsN s.size
      · have hp' : (B.size : Int) < (partsN s.size : Int) := by omega
        generalize partsN s.size = pn at HPT hp' hp hp1
        go_enter Tryz.func48, Tryz.ntmps48
        go_wp2_with fail
        refine (HT.out _ (World.grownBy.refl _ _)).mono ?_
        rintro e w1 ⟨rfl, rfl⟩
        go_wp2_with fail
        first
          | go_region_with ((go_at_call 36; refine (HPT.out _).mono ?_; rintro e w3 ⟨rfl, rfl⟩))
          | fail
        all_goals
          go_wp2_with fail
          go_ret
          exact ⟨rfl, ⟨rv, HK.out.more (grownBy_drew (World.grownBy.refl _ _)) (fun _ hi => .inl hi)⟩, Turn.of_grown (grownBy_drew (World.grownBy.refl _ _))⟩
      · have hp' : ¬ (B.size : Int) < (partsN s.size : Int) := by omega
        have htm : B.turn = 4294967295 := by omega
        have htm' : ((B.turn : Int) == 4294967295) = true := by rw [htm]; rfl
        generalize partsN s.size = pn at HPT hp' hp hp1
        go_enter Tryz.func48, Tryz.ntmps48
        go_wp2_with fail
        refine (HT.out _ (World.grownBy.refl _ _)).mono ?_
        rintro e w1 ⟨rfl, rfl⟩
        go_wp2_with fail
        first
          | go_region_with ((go_at_call 36; refine (HPT.out _).mono ?_; rintro e w3 ⟨rfl, rfl⟩))
          | fail
        all_goals
          go_wp2_with fail
          go_ret
          exact ⟨rfl, ⟨rv, HK.out.more (grownBy_drew (World.grownBy.refl _ _)) (fun _ hi => .inl hi)⟩, Turn.of_grown (grownBy_drew (World.grownBy.refl _ _))⟩
    · rw [if_neg hp]
      have hp' : ¬ (B.size : Int) < (partsN s.size : Int) := by omega
      have htm : B.turn ≠ 4294967295 := by omega
      have htm' : ((B.turn : Int) == 4294967295) = false := by simp; omega
      have htl := ho.turn
      have hpl := ho.place
      have HLAY : Hid (∀ (w' : World) (hg : w.grownBy w' none), Calls Tryz.prog 37 #[.pointer (some ⟨g, 0, none⟩), .int .i64 (1 - B.place : Nat), .agg #[.int .u32 (B.turn + 1 : Nat), .slice none 0 0, .int .i64 0], .string s] w' fun e w'' =>
          e = .returned (.int .i64 (layS B D (1 - B.place) (B.turn + 1) [] 0 s).1) ∧ KBook n0 X w'' g b (layS B D (1 - B.place) (B.turn + 1) [] 0 s).2.1 (layS B D (1 - B.place) (B.turn + 1) [] 0 s).2.2 ∧ Turn (rest n0 X) w' w'') :=
        fun w' hg => lay_any n0 n X w' g b B D rv (hK.more hg (fun _ hi => .inl hi)) (fun x hx => by have := hX x hx; have := hg.size; omega) (Nat.le_trans hn0 hg.size) ho hnl hon hwl hf hk (1 - B.place) (B.turn + 1) 0 (by omega) (by omega) _ [] (own_nil w' _) (.inr rfl) (Nat.zero_le _) s hs9 (by omega) (hr.grown hg) hsX hrX
      generalize layS B D (1 - B.place) (B.turn + 1) [] 0 s = R at HLAY ⊢
      have e5 : (1 : Int) - (B.place : Int) = ((1 - B.place : Nat) : Int) := by omega
      have e6 := wrap_i64_nat (1 - B.place) (by omega)
      have e7 : (B.turn : Int) + 1 = ((B.turn + 1 : Nat) : Int) := by omega
      have e8 := wrap_u32 (B.turn + 1) (by omega)
      obtain ⟨q1, hq1⟩ : ∃ q, 1 - B.place = q := ⟨_, rfl⟩
      obtain ⟨q2, hq2⟩ : ∃ q, B.turn + 1 = q := ⟨_, rfl⟩
      rw [hq1] at HLAY e5 e6
      rw [hq2] at HLAY e7 e8
      generalize partsN s.size = pn at HPT hp' hp
      have d3 : w.drew.cell? ⟨g, 3, none⟩ = _ := c3
      have d4 : w.drew.cell? ⟨g, 4, none⟩ = _ := c4
      clear hK ht0 ht00 hp hX hn0 hsX hrX hr ho hq1 hq2
      go_enter Tryz.func48, Tryz.ntmps48
      go_wp2_with fail
      refine (HT.out _ (World.grownBy.refl _ _)).mono ?_
      rintro e w1 ⟨rfl, rfl⟩
      go_wp2_with fail
      go_upto_region 4 with (fail)
      go_cut [27] (fun tv wx => tv = .bool false ∧ Hid (wx = w.drew))
      case first =>
        first
          | go_region_with ((go_at_call 36; refine (HPT.out _).mono ?_; rintro e w3 ⟨rfl, rfl⟩))
          | fail
        all_goals
          go_wp2_with fail
          go_meet
          case rel => exact ⟨by first | rfl | simp [*], rfl⟩
      case rest =>
        obtain ⟨rfl, HWX⟩ := hcut
        obtain rfl : wc = w.drew := HWX.out
        go_wp2_with fail
        go_region_with ((go_at_call 37; refine (HLAY.out _ (grownBy_drew (grownBy_drew (World.grownBy.refl _ _)))).mono ?_; rintro e wl ⟨rfl, hkb, htt⟩))
        all_goals
          go_wp2_with fail
          go_ret
          exact ⟨rfl, hkb, (Turn.of_grown (grownBy_drew (grownBy_drew (World.grownBy.refl _ _)))).then htt⟩
end Go.Proofs.YtbakhdbnfmoceaaGreatDoor

namespace Go.Proofs.YtbakhdbnfmoceaaGreatDoor
open Go.RowKit
attribute [local irreducible] shaL

structure HalfT where
  turn : Nat
  recs : List ByteArray
  used : Nat
/-- what is read of the sectors from A on: the first k -/
def secsK (D : DiskS) (A k : Nat) : List ByteArray := (List.range k).map fun i => str (readL D.last D.wait (A + i))
theorem secsK_length (D : DiskS) (A k : Nat) : (secsK D A k).length = k := by simp [secsK]
theorem secsK_succ (D : DiskS) (A k : Nat) : secsK D A (k + 1) = secsK D A k ++ [str (readL D.last D.wait (A + k))] := by simp [secsK, List.range_succ]

set_option maxRecDepth 100000 in
set_option maxHeartbeats 3200000 in
theorem sectors_any (F : Nat → Prop) (n : Nat) (w : World) (g b : Nat) (B : BookS) (D : DiskS) (rv : Value) (hM : BookMem w g b B rv) (hD : DiskAt F w b D) (ho : BookOK n B) (hnl : D.last.length = n) (hon : D.on = true) (hwl : D.wait.length ≤ 1000000000) (p : Nat) (hp : p ≤ 1) :
    Calls Tryz.prog 32 #[.pointer (some ⟨g, 0, none⟩), .int .i64 p] w fun e w' => ∃ v, e = .returned (.tuple #[v, .int .i64 0]) ∧ w'.ownsRow w.heap.size 9 1 v B.size (strsV (secsK D (B.first + p * B.size) B.size)) ∧ w.grownBy w' none := by
  obtain ⟨i0, hi, hz0, hz1, hz2⟩ := info_parts infoStrW
  have hfi := ho.area
  have hfew := ho.few
  have hpz : p * B.size ≤ 1 * B.size := Nat.mul_le_mul_right _ hp
  have HBEG : Hid (∀ w', w.grownBy w' none → Calls Tryz.prog 59 #[.pointer (some ⟨g, 0, none⟩), .int .i64 p] w' fun e w'' => e = .returned (.int .i64 (B.first + p * B.size : Nat)) ∧ w'.grownBy w'' none) :=
    fun w' h => begin_any w' g b B rv (hM.grown h) p n hp ho
  obtain ⟨A, hA⟩ : ∃ A, B.first + p * B.size = A := ⟨_, rfl⟩
  have hAn : A + B.size ≤ n := by rw [← hA]; rcases (by omega : p = 0 ∨ p = 1) with rfl | rfl <;> omega
  rw [hA] at HBEG ⊢
  have HRD : Hid (∀ (w' : World) (i : Nat), w.grownBy w' none → i < n → Calls Tryz.prog 58 #[.pointer (some ⟨b, 0, none⟩), .int .i64 i] w' fun e w'' => e = .returned (.tuple #[.string (str (readL D.last D.wait i)), .int .i64 0]) ∧ w'.grownBy w'' none) :=
    fun w' i h hi => read_ok _ b i D w' (hD.grown h) hon (by omega) hwl
  obtain ⟨c0, _, c2, _⟩ := hM.at_
  have HC0 := Lib.hid c0
  have HNX : Hid (∀ k, secsK D A (k + 1) = secsK D A k ++ [str (readL D.last D.wait (A + k))]) := secsK_succ D A
  have HNL : Hid (∀ k, (secsK D A k).length = k) := secsK_length D A
  obtain ⟨N, hN⟩ : ∃ N, B.size = N := ⟨_, rfl⟩
  rw [hN] at c2 hAn ⊢
  have hN1 : (N : Int) ≤ 1024 := by omega
  have hN0 : (0 : Int) ≤ (N : Int) := by omega
  clear c0 hM hD ho hpz hA hfi hN
  go_enter Tryz.func32, Tryz.ntmps32
  go_wp2_with (at_make; refine wpList_make_full _ rfl _ _ 23 rfl w.heap.size 9 i0 (.string ⟨#[]⟩) 1 Tryz.underlying23 hi hz0 hz1 _ _ _ _ N rfl rfl rfl rfl ?c1 ?c2 ?c3 ?_)
  case c1 => rw [hz2]; omega
  case c2 => unfold maxLen; omega
  case c3 => exact Nat.le_refl _
  intro w3 hown hg
  have hm : (madeCells #[Value.string ⟨#[]⟩] N).toList = strsV (fillS (secsK D A 0) N) := made_strs N
  rw [hm] at hown
  obtain ⟨vg, hvg⟩ : ∃ vg, w.heap.size = vg := ⟨_, rfl⟩
  rw [hvg] at hown ⊢
  have HO3 := Lib.hid hown
  have HG3 := Lib.hid hg
  have HVG := Lib.hid hvg
  clear hown hg hm hvg c2
  go_wp2_with fail
  go_loopw [17] (fun iv wr => ∃ k : Nat, k ≤ N ∧ iv = .int .i64 k ∧ Hid (wr.ownsRow vg 9 1 (.slice (some ⟨vg, 0, none⟩) N N) N (strsV (fillS (secsK D A k) N))) ∧ Hid (w.grownBy wr none)) (fun iv _ => N - (intOf iv).toNat)
  case atStart => exact ⟨0, Nat.zero_le _, rfl, HO3.out, HG3.out⟩
  case round =>
    clear HO3 HG3
    obtain ⟨k, hk, rfl, HO, HG⟩ := hrel
    by_cases hlt : k < N
    · have d1 : (k : Int) < (N : Int) := by omega
      have d0 : (0 : Int) ≤ (k : Int) := by omega
      obtain ⟨q, hq⟩ : ∃ q, A + k = q := ⟨_, rfl⟩
      have e1 : (A : Int) + (k : Int) = (q : Int) := by omega
      have e2 := wrap_i64_nat q (by omega)
      have hnx := HNX.out k
      have hat := fillS_at (secsK D A k) N (by rw [HNL.out]; exact hlt)
      have hput := fillS_put (secsK D A k) N (str (readL D.last D.wait (A + k))) (by rw [HNL.out]; exact hlt)
      rw [HNL.out] at hat hput
      rw [← hnx, hq] at hput
      have HR := Lib.hid (fun w' (h : w.grownBy w' none) => HRD.out w' q h (by omega))
      generalize str (readL D.last D.wait q) = S at HR hput
      have HP := Lib.hid (And.intro hput hat)
      have hC : wr.cell? ⟨g, 0, none⟩ = some (.pointer (some ⟨b, 0, none⟩)) := HG.out.cell HC0.out (by simp)
      have HCC := Lib.hid hC
      have hG : w.grownBy wr.drew none := grownBy_drew HG.out
      have hRow := World.ownsRow.drew HO.out
      clear hnx hat hput hq hC
      go_wp2_with fail
      go_region_held3 (fun w' => w'.cell? ⟨g, 0, none⟩ = some (.pointer (some ⟨b, 0, none⟩))) (first | exact ck | exact HCC.out)
        (first
          | (go_at_call 59; refine (HBEG.out _ hG).mono ?_; rintro e wb ⟨rfl, hb⟩; have hRow := own_turn hRow (S := fun _ => False) (Turn.of_grown hb) (fun _ _ q => q); have hG := grownBy_trans hG hb; have ck := hG.cell HC0.out (by simp))
          | (go_at_call 58; refine (HR.out _ hG).mono ?_; rintro e wd ⟨rfl, hd⟩; have hRow := own_turn hRow (S := fun _ => False) (Turn.of_grown hd) (fun _ _ q => q); have hG := grownBy_trans hG hd; have ck := hG.cell HC0.out (by simp)))
      have hf := hRow.frozenAt k
      have hc : wd.cell? ⟨vg, k, none⟩ = some (.string ⟨#[]⟩) := (hRow.cellAt k (by omega)).trans HP.out.2
      have HRow := Lib.hid hRow
      have HGd := Lib.hid hG
      clear hRow hG ck
      go_wp2_with fail
      go_roundw
      case rel =>
        refine ⟨k + 1, by omega, by go_num, ?_, grownBy_setNew HGd.out (by rw [HVG.out]; exact Nat.le_refl _) _ _⟩
        show World.ownsRow _ _ _ _ _ _ _
        rw [← HP.out.1]
        exact (HRow.out.stored _ _).1
      case measure => simp [intOf]; omega
    · have hkN : k = N := by omega
      subst hkN
      have d1 : ¬ (k : Int) < (k : Int) := by omega
      have hrow := HO.out
      rw [fillS_full _ _ (HNL.out k)] at hrow
      have HRW := Lib.hid hrow
      clear hrow HO
      go_wp2_with fail
      go_returns
      exact ⟨_, rfl, by rw [HVG.out]; exact HRW.out, HG.out⟩

/-- a half's turn, as its first sector tells it -/
def turnOf (s : ByteArray) : Nat := val (s.data.toList.take 4)
theorem num4 (s : ByteArray) (h : s.size = 64) : ((⟨s, 0⟩ : RSt).num 4).1 = turnOf s := by
  unfold RSt.num
  rw [if_pos ⟨by decide, by decide⟩]
  unfold RSt.fixed turnOf
  rw [if_neg (by simp), if_neg (by decide), if_neg (by show ¬ ((s.size : Nat) : Int) < 4; omega)]
  show val (s.extract 0 4).data.toList = val (s.data.toList.take 4)
  rw [ByteArray.data_extract]
  simp
theorem turnOf_lt (s : ByteArray) (h : s.size = 64) : turnOf s < 4294967296 := by
  have := val_lt (s.data.toList.take 4)
  have h2 : (s.data.toList.take 4).length = 4 := by rw [List.length_take]; show min 4 s.size = 4; omega
  rw [h2] at this
  exact this
set_option maxRecDepth 100000 in
set_option maxHeartbeats 1600000 in
/-- nothing stands there -/
theorem halfOf_none (w : World) (v : Value) (s : ByteArray) (r : List ByteArray) (hv : StrsAt w v (s :: r)) (hs : s.size = 64) (h0 : turnOf s = 0) (hr : r.length ≤ 1024) :
    Calls Tryz.prog 33 #[v] w fun e w' => e = .returned (.agg #[.int .u32 0, .slice none 0 0, .int .i64 0]) ∧ w.grownBy w' none := by
  obtain ⟨a, c, rfl⟩ := hv.form
  obtain ⟨vg, vo, rfl, hc⟩ := hv.at_ 0 s rfl
  rw [Nat.add_zero] at hc
  have hn4 := num4 s hs
  rw [h0] at hn4
  have hlen : (s :: r).length = r.length + 1 := rfl
  rw [hlen]
  have hpos : (0 : Int) < ((r.length + 1 : Nat) : Int) := by omega
  have HC := Lib.hid hc
  have HN := Lib.hid hn4
  have HSZ := Lib.hid hs
  clear hv h0 hn4 hlen hs
  go_enter Tryz.func33, Tryz.ntmps33
  obtain ⟨w1, hW1⟩ : ∃ w1, w.alloc (.cells #[.int .u32 0, .slice none 0 0, .int .i64 0] 78) = w1 := ⟨_, rfl⟩
  have hc1 : w1.cell? ⟨vg, vo, none⟩ = some (.string s) := by rw [← hW1]; exact (World.grownBy_alloc w _ none).cell HC.out (by simp)
  have hr1 : w1.heap[w.heap.size]? = some (.cells #[.int .u32 0, .slice none 0 0, .int .i64 0] 78 (0, 0)) := by rw [← hW1]; exact heap_alloc_at _ _ _ rfl
  have hg1 : w.grownBy w1 none := by rw [← hW1]; exact World.grownBy_alloc _ _ _
  go_wp2_with fail
  refine (read_any s w1).mono ?_
  rintro e w2 ⟨rfl, hrd, hg2⟩
  have HRD := Lib.hid hrd
  have HRS : Hid (RsAt w2 (some ⟨w1.heap.size, 0, none⟩) (some ⟨s, 0⟩)) := ⟨_, rfl, hrd⟩
  have hr2 := hg2.heap hr1 (by simp)
  have hG2 := grownBy_trans hg1 hg2
  clear hrd hg2 hr1 hc1
  go_wp2_with fail
  refine (rnum_any 4 w2 _ _ HRS.out (by rintro x ⟨⟩; show s.size ≤ _; rw [HSZ.out]; decide)).mono ?_
  rintro e w3 ⟨rfl, hrs, hg3⟩
  have hz : ((Option.map (fun s => (RSt.num s 4).1) (some (⟨s, 0⟩ : RSt))).getD 0) = 0 := HN.out
  rw [hz]
  have hlt1 : w.heap.size < w1.heap.size := by rw [← hW1]; simp
  have hr3 := hg3.heap hr2 (by show some w1.heap.size ≠ some w.heap.size; simp; omega)
  have hG3 := grown_row hG2 hg3 (by intro x e; have : w1.heap.size = x := by simpa [prow] using e
                                    omega)
  have HR3 := Lib.hid hr3
  have HG3 := Lib.hid hG3
  clear hrs hr2 hr3 hG2 hG3 hg3 hz HRS HRD
  obtain ⟨w3b, hW3b⟩ : ∃ w3b, w3.alloc (.cells #[.int .u32 0, .slice none 0 0, .int .i64 0] 78) = w3b := ⟨_, rfl⟩
  have hz3 : w3b.heap[w3.heap.size]? = some (.cells #[.int .u32 0, .slice none 0 0, .int .i64 0] 78 (0, 0)) := by rw [← hW3b]; exact heap_alloc_at _ _ _ rfl
  have hg3b : w3.grownBy w3b none := by rw [← hW3b]; exact World.grownBy_alloc _ _ _
  have x0 := cell_of hz3 0
  have x1 := cell_of hz3 1
  have x2 := cell_of hz3 2
  have y0 := free_of hz3 0
  have y1 := free_of hz3 1
  have y2 := free_of hz3 2
  simp at x0 x1 x2
  obtain ⟨w4, hW4⟩ : ∃ w4, ((w3b.setCell ⟨w3.heap.size, 0, none⟩ (.int .u32 0)).setCell ⟨w3.heap.size, 1, none⟩ (.slice none 0 0)).setCell ⟨w3.heap.size, 2, none⟩ (.int .i64 0) = w4 := ⟨_, rfl⟩
  have hz4 : w4.heap[w3.heap.size]? = some (.cells #[.int .u32 0, .slice none 0 0, .int .i64 0] 78 (0, 0)) := by
    rw [← hW4, heap_setCell (heap_setCell (heap_setCell hz3 0 _) 1 _) 2 _]; rfl
  have hlt3 : w.heap.size ≤ w3.heap.size := HG3.out.size
  have hne3 : w3.heap.size ≠ w.heap.size := by have := (Array.getElem?_eq_some_iff.1 HR3.out).1; omega
  have hg4 : w.grownBy w4 none := by
    rw [← hW4]
    exact grownBy_setNew (grownBy_setNew (grownBy_setNew (grownBy_trans HG3.out hg3b) hlt3 _ _) hlt3 _ _) hlt3 _ _
  have hr4 : w4.heap[w.heap.size]? = some (.cells #[.int .u32 0, .slice none 0 0, .int .i64 0] 78 (0, 0)) := by
    rw [← hW4, heap_setCell_ne _ _ _ _ hne3, heap_setCell_ne _ _ _ _ hne3, heap_setCell_ne _ _ _ _ hne3]
    exact hg3b.heap HR3.out (by simp)
  have r0 := cell_of hr4 0
  have r1 := cell_of hr4 1
  have r2 := cell_of hr4 2
  have q0 := free_of hr4 0
  have q1 := free_of hr4 1
  have q2 := free_of hr4 2
  simp at r0 r1 r2
  have z0 := cell_of hz4 0
  simp at z0
  have HG4 := Lib.hid (And.intro hg4 hr4)
  clear hg4 hr4 hz4 hz3 hg3b
  go_wp2_with fail
  obtain ⟨w5, hW5⟩ : ∃ w5, ((w4.setCell ⟨w.heap.size, 0, none⟩ (.int .u32 0)).setCell ⟨w.heap.size, 1, none⟩ (.slice none 0 0)).setCell ⟨w.heap.size, 2, none⟩ (.int .i64 0) = w5 := ⟨_, rfl⟩
  rw [hW5]
  have hr5 : w5.heap[w.heap.size]? = some (.cells #[.int .u32 0, .slice none 0 0, .int .i64 0] 78 (0, 0)) := by
    rw [← hW5, heap_setCell (heap_setCell (heap_setCell HG4.out.2 0 _) 1 _) 2 _]; rfl
  have p0 := cell_of hr5 0
  have p1 := cell_of hr5 1
  have p2 := cell_of hr5 2
  simp at p0 p1 p2
  have hg5 : w.grownBy w5 none := by
    rw [← hW5]
    exact grownBy_setNew (grownBy_setNew (grownBy_setNew HG4.out.1 (Nat.le_refl _) _ _) (Nat.le_refl _) _ _) (Nat.le_refl _) _ _
  exact bodyPost_ret (v := .agg #[.int .u32 0, .slice none 0 0, .int .i64 0]) (by simp [results, Tryz.results33, go_sem, p0, p1, p2]; try rfl) rfl ⟨rfl, hg5⟩
end Go.Proofs.YtbakhdbnfmoceaaGreatDoor

namespace Go.Proofs.YtbakhdbnfmoceaaGreatDoor
open Go.RowKit
attribute [local irreducible] shaL

/-- the book behind k halves -/
def pickS (first size : Nat) (hs : Nat → HalfT) : Nat → BookS
  | 0 => ⟨first, size, 0, 0, [], 0, false⟩
  | k + 1 => if (pickS first size hs k).turn < (hs k).turn then ⟨first, size, k, (hs k).turn, (hs k).recs, (hs k).used, false⟩ else pickS first size hs k
theorem pickS_area (first size : Nat) (hs : Nat → HalfT) (k : Nat) : (pickS first size hs k).first = first ∧ (pickS first size hs k).size = size ∧ (pickS first size hs k).failed = false := by
  induction k with
  | zero => exact ⟨rfl, rfl, rfl⟩
  | succ k ih =>
    rw [pickS]
    split
    · exact ⟨rfl, rfl, rfl⟩
    · exact ih
theorem pickS_ok (n first size : Nat) (hs : Nat → HalfT) (ha : first + 2 * size ≤ n) (hn : n ≤ 1024) (h4 : 4 ≤ size) (k : Nat) (hk : k ≤ 2) (hh : ∀ j, j < k → (hs j).turn ≤ 4294967295 ∧ (hs j).recs.length ≤ (hs j).used ∧ (hs j).used ≤ size) : BookOK n (pickS first size hs k) := by
  induction k with
  | zero => exact ⟨ha, hn, h4, Nat.zero_le _, Nat.zero_le _, Nat.le_refl _, Nat.zero_le _⟩
  | succ k ih =>
    rw [pickS]
    split
    · obtain ⟨h1, h2, h3⟩ := hh k (by omega)
      exact ⟨ha, hn, h4, by show k ≤ 1; omega, h1, h2, h3⟩
    · exact ih (by omega) (fun j hj => hh j (by omega))

theorem own_cap {w : World} {B n : Nat} {t : TypeId} {size : Nat} {a : Option Addr} {c : Nat} {xs : List Value} (h : w.ownsRow B t size (.slice a n c) n xs) : n ≤ c ∧ c ≤ maxLen := by
  rcases h.2 with ⟨h', h0⟩ | ⟨g, cap, cur, h', _, _, hn, hm, _⟩
  · cases h'; exact ⟨Nat.le_refl _, Nat.zero_le _⟩
  · cases h'; exact ⟨hn, hm⟩
theorem open_nil (f c : Int) (w : World) : Calls Tryz.prog 17 #[.pointer none, .int .i64 f, .int .i64 c] w fun e w' => e = .returned (.tuple #[.pointer none, .int .i64 1]) ∧ w.grownBy w' none := by
  go_enter Tryz.func17, Tryz.ntmps17
  go_wp2_with fail
  go_returns
  exact ⟨rfl, World.grownBy.refl _ _⟩
set_option maxRecDepth 100000 in
set_option maxHeartbeats 1600000 in
theorem open_bad (F : Nat → Prop) (b : Nat) (D : DiskS) (f c : Int) (w : World) (hD : DiskAt F w b D) (hl : D.last.length ≤ 1024) (hc2 : c ≤ 9223372036854775807) (h : c < 8 ∨ f < 0 ∨ (D.last.length : Int) - c < f) :
    Calls Tryz.prog 17 #[.pointer (some ⟨b, 0, none⟩), .int .i64 f, .int .i64 c] w fun e w' => e = .returned (.tuple #[.pointer none, .int .i64 1]) ∧ w.grownBy w' none := by
  have HC := Lib.hid (count_at F b D w hD)
  clear hD
  by_cases h1 : c < 8
  · go_enter Tryz.func17, Tryz.ntmps17
    go_wp2_with fail
    go_returns
    exact ⟨rfl, World.grownBy.refl _ _⟩
  · by_cases h2 : f < 0
    · go_enter Tryz.func17, Tryz.ntmps17
      go_wp2_with fail
      go_returns
      exact ⟨rfl, World.grownBy.refl _ _⟩
    · have h3 : (D.last.length : Int) - c < f := by omega
      have h4 : -9223372036854775808 ≤ (D.last.length : Int) - c := by omega
      have h5 : (D.last.length : Int) - c ≤ 1024 := by omega
      generalize D.last.length = N at HC hl h3 h4 h5 h
      go_enter Tryz.func17, Tryz.ntmps17
      go_wp2_with fail
      refine HC.out.mono ?_
      rintro e w1 ⟨rfl, rfl⟩
      go_wp2_with fail
      go_returns
      exact ⟨rfl, World.grownBy.refl _ _⟩

set_option maxRecDepth 100000 in
set_option maxHeartbeats 6400000 in
theorem open_any (F : Nat → Prop) (n : Nat) (w : World) (b : Nat) (D : DiskS) (first count size : Nat) (hD : DiskAt F w b D) (hnl : D.last.length = n) (hn : n ≤ 1024) (h8 : 8 ≤ count) (hsz : count / 2 = size) (ha : first + count ≤ n) (hon : D.on = true) (hwl : D.wait.length ≤ 1000000000)
    (hs : Nat → HalfT) (hh : ∀ j, j < 2 → (hs j).turn ≤ 4294967295 ∧ (hs j).recs.length ≤ (hs j).used ∧ (hs j).used ≤ size)
    (hH : ∀ p, p < 2 → ∀ w' v, w.grownBy w' none → StrsAt w' v (secsK D (first + p * size) size) → (∀ a n c, v = .slice a n c → n ≤ c ∧ c ≤ maxLen) → Calls Tryz.prog 33 #[v] w' fun e w'' => ∃ hv, e = .returned (.agg #[.int .u32 (hs p).turn, hv, .int .i64 (hs p).used]) ∧ w''.ownsRow w'.heap.size 9 1 hv (hs p).recs.length (strsV (hs p).recs) ∧ w'.grownBy w'' none) :
    Calls Tryz.prog 17 #[.pointer (some ⟨b, 0, none⟩), .int .i64 first, .int .i64 count] w fun e w' => ∃ g rv, e = .returned (.tuple #[.pointer (some ⟨g, 0, none⟩), .int .i64 0]) ∧ BookMem w' g b (pickS first size hs 2) rv ∧ w.heap.size ≤ g ∧ (∀ x, rv.ownBlock = some x → w.heap.size ≤ x ∧ x ≠ g) ∧ w.grownBy w' none := by
  have HC := Lib.hid (count_at F b D w hD)
  rw [hnl] at HC
  have e1 : ¬ (count : Int) < 8 := by omega
  have e2 : ¬ (first : Int) < 0 := by omega
  have e3 : ¬ (n : Int) - (count : Int) < (first : Int) := by omega
  have e4 : (n : Int) ≤ 1024 := by omega
  have e5 : (count : Int) / 2 = (size : Int) := by omega
  have e6 : (count : Int) ≤ 1024 := by omega
  have hsz2 : 2 * size ≤ count := by omega
  have hs4 : 4 ≤ size := by omega
  have HPA := Lib.hid (pickS_area first size hs)
  have HPO : Hid (∀ k, k ≤ 2 → BookOK n (pickS first size hs k)) := fun k hk => pickS_ok n first size hs (by omega) hn hs4 k hk (fun j hj => hh j (by omega))
  have HPS : Hid (∀ k, pickS first size hs (k + 1) = if (pickS first size hs k).turn < (hs k).turn then ⟨first, size, k, (hs k).turn, (hs k).recs, (hs k).used, false⟩ else pickS first size hs k) := fun _ => rfl
  have HP0 : Hid (pickS first size hs 0 = ⟨first, size, 0, 0, [], 0, false⟩) := rfl
  have HSC : Hid (∀ (w' : World) (g : Nat) (B : BookS) (rv : Value) (p : Nat), w.grownBy w' none → BookMem w' g b B rv → BookOK n B → B.first = first → B.size = size → p ≤ 1 → Calls Tryz.prog 32 #[.pointer (some ⟨g, 0, none⟩), .int .i64 p] w' fun e w'' => ∃ v, e = .returned (.tuple #[v, .int .i64 0]) ∧ w''.ownsRow w'.heap.size 9 1 v size (strsV (secsK D (first + p * size) size)) ∧ w'.grownBy w'' none) := by
    intro w' g B rv p hg hM hO hf hz hp
    have := sectors_any F n w' g b B D rv hM (hD.grown hg) hO hnl hon hwl p hp
    rw [hf, hz] at this
    exact this
  have HHO := Lib.hid hH
  have HHH := Lib.hid hh
  clear hD hH hh hsz hnl
  go_enter Tryz.func17, Tryz.ntmps17
  go_wp2_with fail
  refine HC.out.mono ?_
  rintro e w1 ⟨rfl, rfl⟩
  clear HC
  go_wp2_with fail
  generalize Value.bool (decide ((n : Int) - (count : Int) < (first : Int))) = q1
  have hb0 : BookMem (w.alloc (.cells (bookCells b (pickS first size hs 0) (.slice none 0 0)).toArray 80)) w.heap.size b (pickS first size hs 0) (.slice none 0 0) :=
    ⟨heap_alloc_at _ _ _ rfl, World.ownsRow_nil _ _ _ _⟩
  have HB0 : Hid (BookMem (w.alloc (.cells #[.pointer (some ⟨b, 0, none⟩), .int .i64 first, .int .i64 size, .int .i64 0, .int .u32 0, .slice none 0 0, .int .i64 0, .bool false] 80)) w.heap.size b (pickS first size hs 0) (.slice none 0 0)) := hb0
  clear hb0
  go_loopw [37] (fun iv wr => ∃ (k : Nat) (rv : Value), k ≤ 2 ∧ iv = .int .i64 k ∧ Hid (BookMem wr w.heap.size b (pickS first size hs k) rv ∧ ∀ x, rv.ownBlock = some x → w.heap.size < x) ∧ Hid (w.grownBy wr none)) (fun iv _ => 2 - (intOf iv).toNat)
  case atStart => exact ⟨0, .slice none 0 0, by decide, rfl, ⟨HB0.out, by simp [Value.ownBlock]⟩, World.grownBy_alloc _ _ _⟩
  case round =>
    clear HB0
    obtain ⟨k, rv, hk, rfl, HM, HG⟩ := hrel
    by_cases hlt : k < 2
    · have d1 : (k : Int) < 2 := by omega
      have hpa := HPA.out k
      have hok := HPO.out k (by omega)
      have HSK := Lib.hid (HSC.out wr w.heap.size (pickS first size hs k) rv k HG.out HM.out.1 hok hpa.1 hpa.2.1 (by omega))
      have hpk := HPS.out k
      have htk := hok.turn
      have HHK := Lib.hid (HHO.out k hlt)
      have hhk := HHH.out k hlt
      have HB := Lib.hid (And.intro hpa hok)
      clear hpa hok
      generalize hs k = T at HHK hhk hpk
      generalize pickS first size hs k = B at HSK hpk HM htk HB
      go_wp2_with fail
      refine HSK.out.mono ?_
      rintro e w2 ⟨v, rfl, hrow, g2⟩
      obtain ⟨va, vc, rfl⟩ := slice_own' hrow
      have HST := Lib.hid (strs_own hrow)
      have HCAP := Lib.hid (own_cap hrow)
      have HG2 := Lib.hid (grownBy_trans HG.out g2)
      have HM2 := Lib.hid (HM.out.1.grown g2)
      have HG23 := Lib.hid HM2.out.lt.1
      clear hrow g2 HSK
      go_wp2_with fail
      refine (HHK.out w2 _ HG2.out HST.out (by rintro a n c ⟨⟩; exact HCAP.out)).mono ?_
      rintro e w3 ⟨hv, rfl, hrow3, g3⟩
      obtain ⟨ha, hc, rfl⟩ := slice_own' hrow3
      have HR3 := Lib.hid hrow3
      have HG3 := Lib.hid (grownBy_trans HG2.out g3)
      have HM3 := Lib.hid (HM2.out.grown g3)
      clear hrow3 g3 HM2 HST HHK
      go_wp2_with fail
      obtain ⟨w4, hW4⟩ : ∃ w4, w3.alloc (.cells #[.int .u32 T.turn, .slice ha T.recs.length hc, .int .i64 T.used] 78) = w4 := ⟨_, rfl⟩
      rw [hW4]
      have hg4 : w3.grownBy w4 none := by rw [← hW4]; exact World.grownBy_alloc _ _ _
      have hh4 : w4.heap[w3.heap.size]? = some (.cells #[.int .u32 T.turn, .slice ha T.recs.length hc, .int .i64 T.used] 78 (0, 0)) := by rw [← hW4]; exact heap_alloc_at _ _ _ rfl
      have k0 := cell_of hh4 0
      have k1 := cell_of hh4 1
      have k2 := cell_of hh4 2
      simp at k0 k1 k2
      have hM4 := HM3.out.grown hg4
      obtain ⟨_, _, _, c3, c4, c5, c6, _⟩ := hM4.at_
      have HM4 := Lib.hid (And.intro hM4 (own_turn HR3.out (S := fun _ => False) (Turn.of_grown hg4) (fun _ _ q => q)))
      have HG4 := Lib.hid (grownBy_trans HG3.out hg4)
      clear hg4 hh4 hW4 HM3 HG3 HR3 hM4
      go_upto_region 11 with (fail)
      go_cut [58] (fun tv wx => tv = .bool (decide (B.turn < T.turn)) ∧ Hid (w4.grownBy wx none))
      case first =>
        by_cases hgt : B.turn < T.turn
        · have h1 : (B.turn : Int) < (T.turn : Int) := by omega
          go_region
          all_goals
            go_wp2_with fail
            go_meet
            case rel => exact ⟨by first | rfl | (simp [hgt]), grownBy_drew (World.grownBy.refl _ _)⟩
        · have h1 : ¬ (B.turn : Int) < (T.turn : Int) := by omega
          go_region
          all_goals
            go_wp2_with fail
            go_meet
            case rel => exact ⟨by first | rfl | (simp [hgt]), grownBy_drew (World.grownBy.refl _ _)⟩
      case rest =>
        obtain ⟨rfl, HWX⟩ := hcut
        have g5 := HWX.out
        have k0' := g5.cell k0 (by simp)
        have k1' := g5.cell k1 (by simp)
        have k2' := g5.cell k2 (by simp)
        have hM5 := HM4.out.1.grown g5
        have HR5 := Lib.hid (own_turn HM4.out.2 (S := fun _ => False) (Turn.of_grown g5) (fun _ _ q => q))
        have HG5 := Lib.hid (grownBy_trans HG4.out g5)
        have HM5 := Lib.hid hM5
        clear k0 k1 k2 g5 HWX HM4 HG4 c3 c4 c5 c6
        by_cases hgt : B.turn < T.turn
        · rw [if_pos hgt] at hpk
          have hdd : decide (B.turn < T.turn) = true := by simp [hgt]
          rw [hdd]
          obtain ⟨_, _, _, c3, c4, c5, c6, _⟩ := hM5.at_
          have f3 := free_of hM5.blk 3
          have f4 := free_of hM5.blk 4
          have f5 := free_of hM5.blk 5
          have f6 := free_of hM5.blk 6
          have HPK := Lib.hid hpk
          clear hM5 hpk
          go_wp2_with fail
          go_region
          all_goals
            go_wp2_with fail
            go_roundw
            case rel =>
              have hlt5 := HR5.out.lt
              have tt : Turn (fun i => i = w.heap.size) wc ((((wc.setCell ⟨w.heap.size, 3, none⟩ (.int .i64 k)).setCell ⟨w.heap.size, 4, none⟩ (.int .u32 T.turn)).setCell ⟨w.heap.size, 5, none⟩ (.slice ha T.recs.length hc)).setCell ⟨w.heap.size, 6, none⟩ (.int .i64 T.used)).drew :=
                (((((Turn.refl (fun i => i = w.heap.size) wc).setCell (fun _ => rfl) _ _).setCell (fun _ => rfl) _ _).setCell (fun _ => rfl) _ _).setCell (fun _ => rfl) _ _).drew
              refine ⟨k + 1, .slice ha T.recs.length hc, by omega, by go_num, ⟨?_, ?_⟩, ?_⟩
              · rw [HPK.out]
                refine ⟨?_, own_turn (own_down HR5.out (Nat.zero_le _)) tt (fun x e q => by have := (hlt5 x e).1; have := HG23.out; omega)⟩
                show ((((wc.setCell _ _).setCell _ _).setCell _ _).setCell _ _).heap[w.heap.size]? = _
                rw [heap_setCell (heap_setCell (heap_setCell (heap_setCell HM5.out.blk 3 _) 4 _) 5 _) 6 _]
                have e1 := HB.out.1.1
                have e2 := HB.out.1.2.1
                have e3 := HB.out.1.2.2
                simp only [bookCells, e1, e2, e3]
                rfl
              · intro x e
                have := (hlt5 x e).1
                have := HG23.out
                omega
              · exact grownBy_drew (grownBy_setNew (grownBy_setNew (grownBy_setNew (grownBy_setNew HG5.out (Nat.le_refl _) _ _) (Nat.le_refl _) _ _) (Nat.le_refl _) _ _) (Nat.le_refl _) _ _)
            case measure => simp [intOf]; omega
        · rw [if_neg hgt] at hpk
          have hdd : decide (B.turn < T.turn) = false := by simp [hgt]
          rw [hdd]
          have HPK := Lib.hid hpk
          clear hM5 hpk
          go_wp2_with fail
          go_roundw
          case rel => exact ⟨k + 1, rv, by omega, by go_num, ⟨by rw [HPK.out]; exact HM5.out, HM.out.2⟩, HG5.out⟩
          case measure => simp [intOf]; omega
    · have hk2 : k = 2 := by omega
      subst hk2
      go_wp2_with fail
      go_returns
      exact ⟨_, rv, rfl, HM.out.1, Nat.le_refl _, fun x e => ⟨Nat.le_of_lt (HM.out.2 x e), by have := HM.out.2 x e; omega⟩, HG.out⟩
end Go.Proofs.YtbakhdbnfmoceaaGreatDoor

namespace Go.Proofs.YtbakhdbnfmoceaaGreatDoor
open Go.RowKit
attribute [local irreducible] shaL

theorem open_book {n0 : Nat} {X : List Nat} {w w' : World} {g b : Nat} {B : BookS} {D : DiskS} {rv : Value} (hD : KDisk n0 X w b D) (hX : ∀ x ∈ X, x < w.heap.size) (hn : n0 ≤ w.heap.size) (hM : BookMem w' g b B rv) (hg : w.heap.size ≤ g) (hr : ∀ x, rv.ownBlock = some x → w.heap.size ≤ x ∧ x ≠ g) (k : w.grownBy w' none) : KBook n0 X w' g b B D :=
  ⟨rv, hM, Nat.le_trans hn hg, fun hx => by have := hX g hx; omega, fun x e => ⟨Nat.le_trans hn (hr x e).1, fun hx => by have := hX x hx; have := (hr x e).1; omega, (hr x e).2⟩,
   hD.more k (fun i hi => by
     simp only [List.mem_append, List.mem_cons] at hi
     rcases hi with hi | rfl | hi
     · exact .inr (hr i (ownB_mem.1 hi)).1
     · exact .inr hg
     · exact .inl hi)⟩
theorem new_read (n i : Nat) (h : i < n) : readL (newD n).last (newD n).wait i = zeros 64 := by
  show ((List.replicate n (zeros 64)).getD i []) = _
  rw [List.getD_eq_getElem?_getD, List.getElem?_replicate, if_pos h]
  rfl
theorem turn_zero : turnOf (str (zeros 64)) = 0 := by decide
/-- the book of a new disk -/
def newB (first size : Nat) : BookS := ⟨first, size, 0, 0, [], 0, false⟩
theorem open_new (n0 : Nat) (X : List Nat) (n : Nat) (w : World) (b first count size : Nat) (hD : KDisk n0 X w b (newD n)) (hX : ∀ x ∈ X, x < w.heap.size) (hn0 : n0 ≤ w.heap.size) (hn : n ≤ 1024) (h8 : 8 ≤ count) (hsz : count / 2 = size) (ha : first + count ≤ n) :
    Calls Tryz.prog 17 #[.pointer (some ⟨b, 0, none⟩), .int .i64 first, .int .i64 count] w fun e w' => ∃ g, e = .returned (.tuple #[.pointer (some ⟨g, 0, none⟩), .int .i64 0]) ∧ KBook n0 X w' g b (newB first size) (newD n) ∧ w.grownBy w' none := by
  refine (open_any _ n w b (newD n) first count size hD (by show (List.replicate n (zeros 64)).length = n; simp) hn h8 hsz ha rfl (by show 0 ≤ _; decide) (fun _ => ⟨0, [], 0⟩) (fun j _ => ⟨Nat.zero_le _, Nat.le_refl _, Nat.zero_le _⟩) ?_).mono ?_
  · intro p hp w' v hg hv _
    obtain ⟨s, r, hsr⟩ : ∃ s r, secsK (newD n) (first + p * size) size = s :: r := by
      cases e : secsK (newD n) (first + p * size) size with
      | nil => have := secsK_length (newD n) (first + p * size) size; rw [e] at this; simp at this; omega
      | cons s r => exact ⟨s, r, rfl⟩
    have hs0 : s = str (zeros 64) := by
      have h1 : (secsK (newD n) (first + p * size) size)[0]? = some s := by rw [hsr]; rfl
      unfold secsK at h1
      rw [List.getElem?_map, List.getElem?_range (by omega)] at h1
      have h2 := new_read n (first + p * size + 0) (by rcases (by omega : p = 0 ∨ p = 1) with rfl | rfl <;> omega)
      simp only [Option.map_some, Option.some.injEq] at h1
      rw [← h1, h2]
    have hl : r.length + 1 = size := by have := secsK_length (newD n) (first + p * size) size; rw [hsr] at this; exact this
    rw [hsr] at hv
    subst hs0
    refine (halfOf_none w' v _ r hv rfl turn_zero (by omega)).mono ?_
    rintro e w'' ⟨rfl, h2⟩
    exact ⟨.slice none 0 0, rfl, World.ownsRow_nil _ _ _ _, h2⟩
  · rintro e w' ⟨g, rv, rfl, hM, hg, hr, k⟩
    have hp : pickS first size (fun _ => ⟨0, [], 0⟩) 2 = newB first size := rfl
    rw [hp] at hM
    exact ⟨g, rfl, open_book hD hX hn0 hM hg hr k, k⟩

theorem writes_fine : ∀ (L : List ByteArray) (D : DiskS) (i : Nat), D.fuse < 0 → (writesS D i L).1 = 0 ∧ (writesS D i L).2.on = D.on ∧ (writesS D i L).2.fuse = D.fuse ∧ (writesS D i L).2.last.length = D.last.length ∧ (writesS D i L).2.wait = [] ∧ (writesS D i L).2.keep = D.keep
  | [], D, i, h => by
    rw [writesS, if_neg (by omega)]
    refine ⟨rfl, rfl, ?_, syncL_length _ _, rfl, rfl⟩
    show decF D.fuse = _
    unfold decF
    rw [if_pos h]
  | s :: r, D, i, h => by
    have e : (wroteD D i s).fuse = D.fuse := by show (if D.fuse < 0 then D.fuse else _) = _; rw [if_pos h]
    rw [writesS, if_neg (by omega)]
    have := writes_fine r (wroteD D i s) (i + 1) (by rw [e]; exact h)
    rw [e] at this
    exact this
/-- Put where nothing fails -/
theorem put_fine (B : BookS) (D : DiskS) (s : ByteArray) (hf : B.failed = false) (hs : s.size ≤ 900) (hl : partsN s.size ≤ B.size - B.used) (h : D.fuse < 0) :
    ∃ E, putS B D s = (0, { B with turn := max B.turn 1, recs := B.recs ++ [s], used := B.used + partsN s.size }, E) ∧ E.on = D.on ∧ E.fuse = D.fuse ∧ E.last.length = D.last.length ∧ E.wait = [] ∧ E.keep = D.keep := by
  have ht : takesI B s = 0 := by unfold takesI; rw [if_neg (by omega), hf]; rfl
  have hw := writes_fine (nextS (max B.turn 1) B.recs.length s) D (B.first + B.place * B.size + B.used) h
  refine ⟨_, ?_, hw.2⟩
  unfold putS
  rw [if_neg (by omega), if_neg (by omega)]
  unfold layS
  rw [if_pos hw.1]
theorem newB_ok (n first size : Nat) (ha : first + 2 * size ≤ n) (hn : n ≤ 1024) (h4 : 4 ≤ size) : BookOK n (newB first size) := ⟨ha, hn, h4, Nat.zero_le _, Nat.zero_le _, Nat.le_refl _, Nat.zero_le _⟩

end Go.Proofs.YtbakhdbnfmoceaaGreatDoor
