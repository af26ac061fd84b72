/- The walks of header's Encode and Digest. · slices.Chunk over texts, by two: the iterator's contract. · Two headers in blocks just made, into which they are stored: what holds behind. No walk. · Two headers in two blocks: what changes of the second is stored there. No walk. · A plain header (a struct of two texts and three numbers) opened. No walk. -/
import Derived.Test.YtioahjdojgcfdaaDoorHeaderChainsB4
import Derived.Test.YtioahjdojgcfdaaDoorHeaderChainsB6
import Derived.Test.YtioahjdojgcfdaaDoorHeaderChainsB3
import Derived.Test.YtioahjdojgcfdaaDoorHeaderChainsB2
import Derived.Deep.RegionHeld3
import Derived.Test.YtioahjdojgcfdaaDoorBndJ
import Derived.Test.YtioahjdojgcfdaaDoorHdrT
import Derived.Deep.Slices
import Derived.Deep.Fields
import Derived.Deep.Strs
namespace Go.Proofs.YtioahjdojgcfdaaDoor
open Go.RowKit
attribute [local irreducible] shaL

theorem HdrS.enc_ok {x : HdrS} (h : x.err = 0) : x.enc = str x.bytes := by unfold HdrS.enc; rw [if_pos h]
theorem HdrS.enc_no {x : HdrS} (h : x.err ≠ 0) : x.enc = ⟨#[]⟩ := by unfold HdrS.enc; rw [if_neg h]
set_option maxRecDepth 100000 in
set_option maxHeartbeats 3200000 in
theorem hencode_any (x : HdrS) (hx : x.small) (v : Value) (w : World) (hv : StrsAt w v x.L) :
    Calls Tryd.prog 108 #[x.val v] w fun e w' => e = .returned (.tuple #[.string x.enc, .int .i64 x.err]) ∧ w.grownBy w' none := by
  obtain ⟨a, cap, rfl⟩ := hv.form
  have HCK := Lib.hid (fun w' q => hcheck_any x hx (.slice a x.L.length cap) w' q)
  by_cases hz : x.err = 0
  · rw [hz] at HCK
    have hlen := HdrS.len hz
    have henc := HdrS.enc_ok hz
    obtain ⟨_, hn2, hnode⟩ := HdrS.fit hz
    obtain ⟨f1, f2, f3, f4⟩ := HdrS.fits hz
    have hp16 : 2 ^ x.d.toNat ≤ 16 := pow4 (by omega)
    rw [hz, henc]
    clear hx
    obtain ⟨e, p, d, au, L⟩ := x
    obtain ⟨k, rfl⟩ := Int.eq_ofNat_of_zero_le f3.1
    obtain ⟨j, rfl⟩ := Int.eq_ofNat_of_zero_le f4.1
    have f1 : e ≤ 4294967295 := f1
    have f2 : p.size = 16 := f2
    have f3 : (k : Int) ≤ 4 := f3.2
    have f4 : (j : Int) ≤ 64 := f4.2
    have hn2 : L.length ≤ 16 := by have e1 : L.length = 2 ^ k := hn2; have e2 : 2 ^ k ≤ 16 := hp16; omega
    have hnode : ∀ s ∈ L, nodeOk s = true := hnode
    have hbytes : (⟨e, p, k, j, L⟩ : HdrS).bytes = be e 4 ++ (p.data.toList ++ (be k 1 ++ (be j 1 ++ textsB L))) := rfl
    rw [hbytes]
    have hv : StrsAt w (.slice a L.length cap) L := hv
    have HCK : Hid (∀ w', StrsAt w' (.slice a L.length cap) L → Calls Tryd.prog 74 #[.agg #[.int .u64 e, .string p, .int .i64 k, .int .i64 j, .slice a L.length cap]] w' fun e w'' => e = .returned (.int .i64 0) ∧ w'.grownBy w'' none) := HCK
    unfold HdrS.val
    simp only
    have HV := Lib.hid hv
    have HS := Lib.hid hnode
    obtain ⟨n, hnn⟩ : ∃ n, L.length = n := ⟨_, rfl⟩
    rw [hnn] at hn2 HV HCK ⊢
    have HN := Lib.hid hnn
    have hb0 := heap_alloc_at w (.cells #[.int .u64 e, .string p, .int .i64 k, .int .i64 j, .slice a n cap] 63) _ rfl
    have hg0 : w.grownBy (w.alloc (.cells #[.int .u64 e, .string p, .int .i64 k, .int .i64 j, .slice a n cap] 63)) none := World.grownBy_alloc _ _ _
    obtain ⟨W0, hW0⟩ : ∃ W0, w.alloc (.cells #[.int .u64 e, .string p, .int .i64 k, .int .i64 j, .slice a n cap] 63) = W0 := ⟨_, rfl⟩
    obtain ⟨XB, hXB⟩ : ∃ XB, w.heap.size = XB := ⟨_, rfl⟩
    rw [hW0] at hb0 hg0
    rw [hXB] at hb0
    obtain ⟨x0, x1, x2, x3, x4⟩ := cells5 hb0
    have HB0 := Lib.hid hb0
    have HG0 := Lib.hid hg0
    have HW := Lib.hid (And.intro hW0 hXB)
    have HP := Lib.hid (And.intro f1 (And.intro f2 (And.intro f3 f4)))
    clear hb0 hg0 hW0 hXB hv hnode hz hlen henc hp16 hbytes
    go_enter Tryd.func108, Tryd.ntmps108
    go_wp2_with (rw [HW.out.1, HW.out.2])
    refine (HCK.out _ (HV.out.grown HG0.out)).mono ?_
    rintro e w1 ⟨rfl, g1⟩
    have hb1 := g1.heap HB0.out (by simp)
    have HG1 := Lib.hid (grownBy_trans HG0.out g1)
    have hlt1 : XB < w1.heap.size := (Array.getElem?_eq_some_iff.1 hb1).1
    clear g1 x0 x1 x2 x3 x4 HB0 HCK
    have hWB : WrAt (w1.alloc (.cells #[.pointer none, .int .i64 0, .int .i64 0] 114)) w1.heap.size ⟨[], 0⟩ := ⟨.pointer none, heap_alloc_at w1 _ _ rfl, rfl⟩
    have hg1 : w1.grownBy (w1.alloc (.cells #[.pointer none, .int .i64 0, .int .i64 0] 114)) none := World.grownBy_alloc _ _ _
    have hb2 := hg1.heap hb1 (by simp)
    obtain ⟨WB, hWBn⟩ : ∃ WB, w1.heap.size = WB := ⟨_, rfl⟩
    obtain ⟨W1, hW1⟩ : ∃ W1, w1.alloc (.cells #[.pointer none, .int .i64 0, .int .i64 0] 114) = W1 := ⟨_, rfl⟩
    rw [hW1] at hWB hg1 hb2
    rw [hWBn] at hWB hlt1
    have HLT := Lib.hid hlt1
    have HG2 := Lib.hid (grownBy_trans HG1.out hg1)
    have HW1 := Lib.hid (And.intro hW1 hWBn)
    have HWR := Lib.hid hWB
    have HB2 := Lib.hid hb2
    obtain ⟨y0, y1, y2, y3, y4⟩ := cells5 hb2
    have HNE : Hid (∀ (w' w'' : World) (o : Nat) (u : Value), w'.grownBy w'' (some WB) → w'.cell? ⟨XB, o, none⟩ = some u → w''.cell? ⟨XB, o, none⟩ = some u) := fun w' w'' o u g h => g.cell h (fun e => by have := HLT.out; simp at e; omega)
    have HNEH : Hid (∀ (w' w'' : World) (o : Obj), w'.grownBy w'' (some WB) → w'.heap[XB]? = some o → w''.heap[XB]? = some o) := fun w' w'' o g h => (g.block XB (Array.getElem?_eq_some_iff.1 h).1 (fun e => by have := HLT.out; simp at e; omega)).trans h
    have HNEW : Hid (∀ g, some WB = some g → w.heap.size ≤ g) := fun g e => by cases e; have := HLT.out; have := HW.out.2; omega
    have hP := HP.out
    have hN1 : (⟨[], 0⟩ : WSt).num e 4 = ⟨[str (be e 4)], 0⟩ := wnum_ok [] e 4 ⟨by omega, by omega, by show e < 4294967296; omega⟩
    have hN2 : (⟨[str (be e 4)], 0⟩ : WSt).fixed p 16 = ⟨[p, str (be e 4)], 0⟩ := wput_ok _ p 16 (by omega)
    have hN3 : (⟨[p, str (be e 4)], 0⟩ : WSt).num k 1 = ⟨[str (be k 1), p, str (be e 4)], 0⟩ := wnum_ok _ k 1 ⟨by omega, by omega, by show k < 256; omega⟩
    have hN4 : (⟨[str (be k 1), p, str (be e 4)], 0⟩ : WSt).num j 1 = ⟨[str (be j 1), str (be k 1), p, str (be e 4)], 0⟩ := wnum_ok _ j 1 ⟨by omega, by omega, by show j < 256; omega⟩
    have t0 : total ([] : List ByteArray) = 0 := rfl
    have t1 : total [str (be e 4)] ≤ 4 := by rw [total_cons, str_size, be_length]; omega
    have t2 : total [p, str (be e 4)] ≤ 20 := by rw [total_cons]; omega
    have t3 : total [str (be k 1), p, str (be e 4)] ≤ 21 := by rw [total_cons, str_size, be_length]; omega
    have t4 : total [str (be j 1), str (be k 1), p, str (be e 4)] ≤ 22 := by rw [total_cons, str_size, be_length]; omega
    have HF1 : Hid (∀ (w' : World), WrAt w' WB ⟨[], 0⟩ → _) := Lib.hid (fun (w' : World) (q : WrAt w' WB ⟨[], 0⟩) => wr_numS e (by omega) 4 q (by show 0 ≤ _; omega))
    have HF2 : Hid (∀ (w' : World), WrAt w' WB ⟨[str (be e 4)], 0⟩ → _) := Lib.hid (fun (w' : World) (q : WrAt w' WB ⟨[str (be e 4)], 0⟩) => wr_fixedS p 16 q (by show p.size + total [str (be e 4)] ≤ _; omega))
    have HF3 : Hid (∀ (w' : World), WrAt w' WB ⟨[p, str (be e 4)], 0⟩ → _) := Lib.hid (fun (w' : World) (q : WrAt w' WB ⟨[p, str (be e 4)], 0⟩) => wr_numS k (by omega) 1 q (by show total [p, str (be e 4)] ≤ _; omega))
    have HF4 : Hid (∀ (w' : World), WrAt w' WB ⟨[str (be k 1), p, str (be e 4)], 0⟩ → _) := Lib.hid (fun (w' : World) (q : WrAt w' WB ⟨[str (be k 1), p, str (be e 4)], 0⟩) => wr_numS j (by omega) 1 q (by show total [str (be k 1), p, str (be e 4)] ≤ _; omega))
    rw [hN1] at HF1
    rw [hN2] at HF2
    rw [hN3] at HF3
    rw [hN4] at HF4
    have HT4 := Lib.hid t4
    have r1 : IntKind.u64.wrap (k : Int) = (k : Int) := IntWalk.u64_in _ (by omega)
    have r2 : IntKind.u64.wrap (j : Int) = (j : Int) := IntWalk.u64_in _ (by omega)
    clear hlt1 hWB hg1 hb1 hb2 hWBn hW1 t0 t1 t2 t3 t4 hN1 hN2 hN3 hN4 f1 f2 f3 f4 hP
    go_wp2_with (rw [HW1.out.1, HW1.out.2])
    have hdw : WrAt W1.drew WB ⟨[], 0⟩ := HWR.out.grown (grownBy_drew (World.grownBy.refl _ _))
    go_region_held3 (fun w' => w'.cell? ⟨XB, 0, none⟩ = some (.int .u64 e) ∧ w'.cell? ⟨XB, 1, none⟩ = some (.string p)) (first | exact ck | exact ⟨y0, y1⟩)
      (first
      | (go_at_call 83; (with_reducible refine (HF1.out _ hdw).mono ?_); rintro e w3 ⟨rfl, hw3, g3⟩; have ck := And.intro (HNE.out _ _ _ _ g3 y0) (HNE.out _ _ _ _ g3 y1))
      | (go_at_call 60; (with_reducible refine (HF2.out _ hw3).mono ?_); rintro e w4 ⟨rfl, hw4, g4⟩; have ck := And.intro (HNE.out _ _ _ _ g4 ck.1) (HNE.out _ _ _ _ g4 ck.2)))
    have HB4 : Hid (w4.heap[XB]? = some (.cells #[.int .u64 e, .string p, .int .i64 k, .int .i64 j, .slice a n cap] 63 (0, 0))) := Lib.hid (HNEH.out _ _ _ g4 (HNEH.out _ _ _ g3 HB2.out))
    have HG4 := Lib.hid (grown_row (grown_row (grownBy_drew HG2.out) g3 HNEW.out) g4 HNEW.out)
    have HW4 := Lib.hid hw4
    obtain ⟨z0, z1, z2, z3, z4⟩ := cells5 HB4.out
    clear ck g3 g4 hw3 hw4 hdw y0 y1 y2 y3 y4 HF1 HF2 HG2 HB2 HWR
    go_wp2_with fail
    have hdw : WrAt w4.drew WB ⟨[p, str (be e 4)], 0⟩ := HW4.out.grown (grownBy_drew (World.grownBy.refl _ _))
    go_region_held3 (fun w' => w'.cell? ⟨XB, 2, none⟩ = some (.int .i64 k) ∧ w'.cell? ⟨XB, 3, none⟩ = some (.int .i64 j)) (first | exact ck | exact ⟨z2, z3⟩)
      (first
      | (go_at_call 83; (with_reducible refine (HF3.out _ hdw).mono ?_); rintro e w5 ⟨rfl, hw5, g5⟩; have ck := And.intro (HNE.out _ _ _ _ g5 z2) (HNE.out _ _ _ _ g5 z3))
      | (go_at_call 83; (with_reducible refine (HF4.out _ hw5).mono ?_); rintro e w6 ⟨rfl, hw6, g6⟩; have ck := And.intro (HNE.out _ _ _ _ g6 ck.1) (HNE.out _ _ _ _ g6 ck.2)))
    have HB6 : Hid (w6.heap[XB]? = some (.cells #[.int .u64 e, .string p, .int .i64 k, .int .i64 j, .slice a n cap] 63 (0, 0))) := Lib.hid (HNEH.out _ _ _ g6 (HNEH.out _ _ _ g5 (by exact HB4.out)))
    have HG6 := Lib.hid (grown_row (grown_row (grownBy_drew HG4.out) g5 HNEW.out) g6 HNEW.out)
    have HW6 := Lib.hid hw6
    obtain ⟨z0, z1, z2, z3, z4⟩ := cells5 HB6.out
    clear ck g5 g6 hw5 hw6 hdw HF3 HF4 HG4 HB4 HW4
    go_wp2_with fail
    go_loopw [7, 30] (fun _ iv wr => ∃ (i : Nat) (ts : List ByteArray), i ≤ n ∧ iv = .int .i64 i ∧ Hid (flat ts = be e 4 ++ (p.data.toList ++ (be k 1 ++ (be j 1 ++ textsB (L.take i))))) ∧ Hid (WrAt wr WB ⟨ts, 0⟩ ∧ w.grownBy wr none)) (fun _ iv _ => n - (intOf iv).toNat)
    case atStart =>
      refine ⟨0, _, Nat.zero_le _, rfl, Lib.hid ?_, Lib.hid ⟨HW6.out, HG6.out⟩⟩
      rw [List.take_zero]
      show ((([] ++ (str (be e 4)).data.toList) ++ p.data.toList) ++ (str (be k 1)).data.toList) ++ (str (be j 1)).data.toList = be e 4 ++ (p.data.toList ++ (be k 1 ++ (be j 1 ++ [])))
      rw [str_data, str_data, str_data]
      simp only [List.append_assoc, List.append_nil, List.nil_append]
    case round =>
      obtain ⟨i, ts, hi, rfl, HF, HI⟩ := hrel
      have htot : total ts ≤ 1000 := by
        rw [← flat_length, HF.out]
        have h1 := textsB_17 (L.take i) (fun s hs => nodeOk_size (HS.out s (List.mem_of_mem_take hs)))
        have h2 := List.length_take_le i L
        have h3 := HP.out.2.1
        have h4 : p.data.toList.length = 16 := by rw [Array.length_toList]; exact h3
        simp only [List.length_append, be_length, h4]
        omega
      by_cases hil : i < n
      · obtain ⟨s, hs⟩ : ∃ s, L[i]? = some s := ⟨_, List.getElem?_eq_getElem (by have := HN.out; omega)⟩
        obtain ⟨g1, o1, rfl, hc1⟩ := (HV.out.grown HI.out.2).at_ i s hs
        have e0 : (0 : Int) ≤ (i : Int) := by omega
        have e1 : (i : Int) < (n : Int) := by omega
        have htk : L.take (i + 1) = L.take i ++ [s] := take_succ_at hs
        have HTK := Lib.hid htk
        have HTX := Lib.hid (wr_text s (by have := nodeOk_size (HS.out s (List.mem_of_getElem? hs)); omega) HI.out.1 (by omega))
        clear hs htk htot
        go_wp2_with fail
        refine HTX.out.mono ?_
        rintro e w2 ⟨rfl, hw2, g2⟩
        have N2 : Hid (WrAt w2 WB ⟨s :: str (be s.size 2) :: ts, 0⟩ ∧ w.grownBy w2 none) := Lib.hid ⟨hw2, grown_row HI.out.2 g2 HNEW.out⟩
        clear hw2 g2 hc1 HI
        go_wp2_with fail
        go_roundw
        case rel => exact ⟨i + 1, _, by omega, by go_num, Lib.hid (by rw [flat_text, HF.out, HTK.out, textsB_snoc]; simp only [List.append_assoc]), N2.out⟩
        case measure => simp [intOf]; omega
      · have e1 : ¬ (i : Int) < (n : Int) := by omega
        have hin : L.take i = L := List.take_of_length_le (by have := HN.out; omega)
        rw [hin] at HF
        have HBY := Lib.hid (wr_bytesS (st := ⟨ts, 0⟩) HI.out.1 (by show total ts ≤ _; omega))
        have hans : (⟨ts, 0⟩ : WSt).ans = str (be e 4 ++ (p.data.toList ++ (be k 1 ++ (be j 1 ++ textsB L)))) := by
          unfold WSt.ans
          rw [if_pos rfl, HF.out]
        rw [hans] at HBY
        clear hin hans htot hil hi
        go_wp2_with fail
        refine HBY.out.mono ?_
        rintro e w2 ⟨rfl, g2⟩
        have G2 := Lib.hid (grownBy_trans HI.out.2 g2)
        clear g2 HI
        go_wp2_with fail
        go_returns
        exact ⟨rfl, G2.out⟩
  · have henc := HdrS.enc_no hz
    rw [henc]
    have HZ := Lib.hid hz
    unfold HdrS.val at HCK ⊢
    obtain ⟨e, p, d, au, L⟩ := x
    generalize (⟨e, p, d, au, L⟩ : HdrS).err = z at HCK hz HZ ⊢
    have q1 : (z != 0) = true := by simp [hz]
    have q2 : (z == 0) = false := by simp [hz]
    have hv : StrsAt w (.slice a L.length cap) L := hv
    have HCK : Hid (∀ w', StrsAt w' (.slice a L.length cap) L → Calls Tryd.prog 74 #[.agg #[.int .u64 e, .string p, .int .i64 d, .int .i64 au, .slice a L.length cap]] w' fun e w'' => e = .returned (.int .i64 z) ∧ w'.grownBy w'' none) := HCK
    simp only
    have HV := Lib.hid hv
    have hb0 := heap_alloc_at w (.cells #[.int .u64 e, .string p, .int .i64 d, .int .i64 au, .slice a L.length cap] 63) _ rfl
    have hg0 : w.grownBy (w.alloc (.cells #[.int .u64 e, .string p, .int .i64 d, .int .i64 au, .slice a L.length cap] 63)) none := World.grownBy_alloc _ _ _
    obtain ⟨W0, hW0⟩ : ∃ W0, w.alloc (.cells #[.int .u64 e, .string p, .int .i64 d, .int .i64 au, .slice a L.length cap] 63) = W0 := ⟨_, rfl⟩
    obtain ⟨XB, hXB⟩ : ∃ XB, w.heap.size = XB := ⟨_, rfl⟩
    rw [hW0] at hb0 hg0
    rw [hXB] at hb0
    obtain ⟨x0, x1, x2, x3, x4⟩ := cells5 hb0
    have HG0 := Lib.hid hg0
    have HW := Lib.hid (And.intro hW0 hXB)
    clear hb0 hg0 hW0 hXB hv hz hx henc
    go_enter Tryd.func108, Tryd.ntmps108
    go_wp2_with (rw [HW.out.1, HW.out.2])
    refine (HCK.out _ (HV.out.grown HG0.out)).mono ?_
    rintro e w1 ⟨rfl, g1⟩
    have HG1 := Lib.hid (grownBy_trans HG0.out g1)
    clear g1 x0 x1 x2 x3 x4
    go_wp2_with fail
    go_returns
    exact ⟨rfl, HG1.out⟩

set_option maxRecDepth 100000 in
set_option maxHeartbeats 1600000 in
theorem hdigest_any (x : HdrS) (hx : x.small) (v : Value) (w : World) (hv : StrsAt w v x.L) (hr : ShaReady w) :
    Calls Tryd.prog 70 #[x.val v] w fun e w' => e = .returned (.string x.dig) ∧ w.grownBy w' none := by
  obtain ⟨a, cap, rfl⟩ := hv.form
  have HEN := Lib.hid (fun w' q => hencode_any x hx (.slice a x.L.length cap) w' q)
  have hdig : (x.err = 0 → x.dig = tagS 14 [x.enc] ∧ x.enc.size ≤ 400) ∧ (x.err ≠ 0 → x.dig = ⟨#[]⟩) := by
    refine ⟨fun h => ⟨?_, ?_⟩, HdrS.dig_none⟩
    · unfold HdrS.dig
      rw [if_pos h, HdrS.enc_ok h]
    · rw [HdrS.enc_ok h, str_size]
      exact HdrS.len h
  obtain ⟨D, hD⟩ : ∃ D, x.dig = D := ⟨_, rfl⟩
  rw [hD] at hdig ⊢
  unfold HdrS.val at HEN ⊢
  obtain ⟨e, p, d, au, L⟩ := x
  generalize (⟨e, p, d, au, L⟩ : HdrS).err = z at HEN hdig
  generalize (⟨e, p, d, au, L⟩ : HdrS).enc = E at HEN hdig
  have hv : StrsAt w (.slice a L.length cap) L := hv
  have HEN : Hid (∀ w', StrsAt w' (.slice a L.length cap) L → Calls Tryd.prog 108 #[.agg #[.int .u64 e, .string p, .int .i64 d, .int .i64 au, .slice a L.length cap]] w' fun e w'' => e = .returned (.tuple #[.string E, .int .i64 z]) ∧ w'.grownBy w'' none) := HEN
  simp only
  have HV := Lib.hid hv
  have hb0 := heap_alloc_at w (.cells #[.int .u64 e, .string p, .int .i64 d, .int .i64 au, .slice a L.length cap] 63) _ rfl
  have hg0 : w.grownBy (w.alloc (.cells #[.int .u64 e, .string p, .int .i64 d, .int .i64 au, .slice a L.length cap] 63)) none := World.grownBy_alloc _ _ _
  obtain ⟨W0, hW0⟩ : ∃ W0, w.alloc (.cells #[.int .u64 e, .string p, .int .i64 d, .int .i64 au, .slice a L.length cap] 63) = W0 := ⟨_, rfl⟩
  obtain ⟨XB, hXB⟩ : ∃ XB, w.heap.size = XB := ⟨_, rfl⟩
  rw [hW0] at hb0 hg0
  rw [hXB] at hb0
  obtain ⟨x0, x1, x2, x3, x4⟩ := cells5 hb0
  have HG0 := Lib.hid hg0
  have HW := Lib.hid (And.intro hW0 hXB)
  have HD := Lib.hid hdig
  have HR := Lib.hid hr
  clear hb0 hg0 hW0 hXB hv hx hD hdig hr
  by_cases hz : z = 0
  · have q1 : (z != 0) = false := by simp [hz]
    have q2 : (z == 0) = true := by simp [hz]
    obtain ⟨h1, h2⟩ := HD.out.1 hz
    have HL := Lib.hid (And.intro h1 h2)
    clear h1 h2 hz
    go_enter Tryd.func70, Tryd.ntmps70
    go_wp2_with (rw [HW.out.1, HW.out.2])
    refine (HEN.out _ (HV.out.grown HG0.out)).mono ?_
    rintro e w1 ⟨rfl, g1⟩
    have HG1 := Lib.hid (grownBy_trans HG0.out g1)
    clear g1 x0 x1 x2 x3 x4
    have HT := Lib.hid (tagged_new w1 14 [E] [.string E] 1 14 rfl rfl rfl (HR.out.grown HG1.out) (by simp) (by intro s hs; have := HL.out.2; simp at hs; subst hs; omega))
    go_wp2_with fail
    refine HT.out.mono ?_
    rintro e w2 ⟨rfl, g2⟩
    have HG2 := Lib.hid (grownBy_trans HG1.out g2)
    clear g2
    go_wp2_with fail
    go_ret
    exact ⟨by rw [HL.out.1]; rfl, HG2.out⟩
  · have q1 : (z != 0) = true := by simp [hz]
    have q2 : (z == 0) = false := by simp [hz]
    have h1 := HD.out.2 hz
    subst h1
    clear hz
    go_enter Tryd.func70, Tryd.ntmps70
    go_wp2_with (rw [HW.out.1, HW.out.2])
    refine (HEN.out _ (HV.out.grown HG0.out)).mono ?_
    rintro e w1 ⟨rfl, g1⟩
    have HG1 := Lib.hid (grownBy_trans HG0.out g1)
    clear g1 x0 x1 x2 x3 x4
    go_wp2_with fail
    go_ret
    exact ⟨rfl, HG1.out⟩
end Go.Proofs.YtioahjdojgcfdaaDoor

namespace Go.Proofs.YtioahjdojgcfdaaDoor
open Go.RowKit Go.Shelf
attribute [local irreducible] shaL

theorem chunk_stops (F : Fence) (n : Nat) (h27 : F.fn 162) (hro : F.round = none) (hn : 1 ≤ n) (Bs n₀ nb m cw g o : Nat) (hm0 : 0 < m) (hlen : m ≤ 1000000) (hcw : 2 * m ≤ cw) (hBs : Bs + 1 < n₀) (hBn : Bs ≠ nb ∧ Bs + 1 ≠ nb) (w : World) (hn₀ : n₀ ≤ w.heap.size)
    (hBc : w.cell? ⟨Bs, 0, none⟩ = some (.slice (some ⟨g, o, none⟩) (2 * m) cw)) (hBd : w.cell? ⟨Bs + 1, 0, none⟩ = some (.int .i64 2)) :
    SeqStopsK F n Tryd.prog 162 #[.pointer (some ⟨Bs, 0, none⟩), .pointer (some ⟨Bs + 1, 0, none⟩)] (fun x => #[chunkV g o m x]) (Turn (butOne n₀ nb)) (fun ys => ys = List.range m) (fun pre => ∃ k, k < m ∧ pre = List.range (k + 1)) m w := fun l J Jx W hW hJ _ hY h0 => by
  have hc' := (hW.cell (p := ⟨Bs, 0, none⟩) (by show Bs < _; omega)).trans hBc
  have hd' := (hW.cell (p := ⟨Bs + 1, 0, none⟩) (by show Bs + 1 < _; omega)).trans hBd
  exact chunk1_in F n h27 hro hn l Bs n₀ nb m cw g o hm0 hlen hcw hBs hBn J Jx (fun s X h => hJ s X X.drew none h (grownBy_drew (World.grownBy.refl _ _)) (fun r e => by cases e)) hY W (Nat.le_trans hn₀ hW.size) hc' hd' h0
end Go.Proofs.YtioahjdojgcfdaaDoor

namespace Go.Proofs.YtioahjdojgcfdaaDoor
open Go.RowKit

def zeroHO : Obj := .cells #[.int .u64 0, .string ⟨#[]⟩, .int .i64 0, .int .i64 0, .slice none 0 0] 63
theorem own_off {W : World} {B b n : Nat} {v : Value} {xs : List Value} {cs : Array Value} {fr : Nat × Nat} (o : W.ownsRow B 9 1 v n xs) (F : W.heap[b]? = some (.cells cs 63 fr)) : ∀ y, v.ownBlock = some y → y ≠ b := by
  intro y hy e
  subst e
  rcases o.2 with ⟨rfl, _⟩ | ⟨g, cap, cur, rfl, _, hg, _⟩
  · cases hy
  · obtain rfl : g = y := by simpa [Value.ownBlock] using hy
    rw [hg] at F
    have := Option.some.inj F
    injection this with _ h2 _
    exact absurd h2 (by decide)
theorem own_set {W : World} {B b n : Nat} {v : Value} {xs : List Value} {cs : Array Value} {fr : Nat × Nat} (o : W.ownsRow B 9 1 v n xs) (F : W.heap[b]? = some (.cells cs 63 fr)) (j : Nat) (u : Value) : (W.setCell ⟨b, j, none⟩ u).ownsRow B 9 1 v n xs :=
  own_keep o (grownBy_setCell (World.grownBy.refl W _) j u) (fun y hy e => own_off o F y hy (Option.some.inj e).symm)
theorem chains_leaf {w1 W : World} {b7 b8 B1 B2 : Nat} {av av2 : Option Addr} {cv cv2 : Nat} {L L2 : List ByteArray}
    (F7 : W.heap[b7]? = some zeroHO) (F8 : W.heap[b8]? = some zeroHO) (hne : b7 ≠ b8) (l7 : w1.heap.size ≤ b7) (l8 : w1.heap.size ≤ b8) (g : w1.grownBy W none)
    (o1 : W.ownsRow B1 9 1 (.slice av L.length cv) L.length (strsV L)) (o2 : W.ownsRow B2 9 1 (.slice av2 L2.length cv2) L2.length (strsV L2)) (u0 u1 u2 u3 u4 v0 v1 v2 v3 v4 : Value) :
    ∀ W', W' = ((((((((((W.setCell ⟨b7, 0, none⟩ u0).setCell ⟨b7, 1, none⟩ u1).setCell ⟨b7, 2, none⟩ u2).setCell ⟨b7, 3, none⟩ u3).setCell ⟨b7, 4, none⟩ u4).setCell ⟨b8, 0, none⟩ v0).setCell ⟨b8, 1, none⟩ v1).setCell ⟨b8, 2, none⟩ v2).setCell ⟨b8, 3, none⟩ v3).setCell ⟨b8, 4, none⟩ v4) →
    W'.heap[b7]? = some (.cells #[u0, u1, u2, u3, u4] 63 (0, 0)) ∧ W'.heap[b8]? = some (.cells #[v0, v1, v2, v3, v4] 63 (0, 0)) ∧ (∃ B, W'.ownsRow B 9 1 (.slice av L.length cv) L.length (strsV L)) ∧ (∃ B, W'.ownsRow B 9 1 (.slice av2 L2.length cv2) L2.length (strsV L2)) ∧ w1.grownBy W' none := by
  rintro W' rfl
  have g7 := grown5 W b7 u0 u1 u2 u3 u4
  have h7 := heap5 F7 u0 u1 u2 u3 u4
  generalize ((((W.setCell ⟨b7, 0, none⟩ u0).setCell ⟨b7, 1, none⟩ u1).setCell ⟨b7, 2, none⟩ u2).setCell ⟨b7, 3, none⟩ u3).setCell ⟨b7, 4, none⟩ u4 = Wa at g7 h7 ⊢
  have F8a := g7.heap F8 (fun e => hne (Option.some.inj e))
  have g8 := grown5 Wa b8 v0 v1 v2 v3 v4
  have h8 := heap5 F8a v0 v1 v2 v3 v4
  generalize ((((Wa.setCell ⟨b8, 0, none⟩ v0).setCell ⟨b8, 1, none⟩ v1).setCell ⟨b8, 2, none⟩ v2).setCell ⟨b8, 3, none⟩ v3).setCell ⟨b8, 4, none⟩ v4 = Wb at g8 h8 ⊢
  have k : ∀ {B n : Nat} {v : Value} {xs : List Value}, W.ownsRow B 9 1 v n xs → Wb.ownsRow B 9 1 v n xs := fun o =>
    own_keep (own_keep o g7 (fun y hy e => own_off o F7 y hy (Option.some.inj e).symm)) g8 (fun y hy e => own_off o F8 y hy (Option.some.inj e).symm)
  refine ⟨g8.heap h7 (fun e => hne (Option.some.inj e).symm), h8, ⟨_, k o1⟩, ⟨_, k o2⟩, ?_⟩
  exact grown_row (grown_row g g7 (fun y e => by have e2 : b7 = y := Option.some.inj e; omega)) g8 (fun y e => by have e2 : b8 = y := Option.some.inj e; omega)
end Go.Proofs.YtioahjdojgcfdaaDoor

namespace Go.Proofs.YtioahjdojgcfdaaDoor
open Go.RowKit
attribute [local irreducible] shaL

def hdrO (x : HdrS) (v : Value) : Obj := .cells #[.int .u64 x.e, .string x.p, .int .i64 x.d, .int .i64 x.a, v] 63 (0, 0)
theorem own_form {w : World} {B n s : Nat} {t : TypeId} {v : Value} {xs : List Value} (h : w.ownsRow B t s v n xs) : ∃ a cap, v = .slice a n cap := by
  rcases h.2 with ⟨rfl, rfl⟩ | ⟨g, cap, cur, rfl, _⟩
  · exact ⟨none, 0, rfl⟩
  · exact ⟨_, cap, rfl⟩
structure Two (w1 : World) (b7 b8 : Nat) (X Y : HdrS) (vx vy : Value) (w : World) : Prop where
  h7 : w.heap[b7]? = some (hdrO X vx)
  h8 : w.heap[b8]? = some (hdrO Y vy)
  s7 : ∃ B, w.ownsRow B 9 1 vx X.L.length (strsV X.L)
  s8 : ∃ B, w.ownsRow B 9 1 vy Y.L.length (strsV Y.L)
  gr : w1.grownBy w none
  ys : Y.small
theorem Two.kept {w1 w w' : World} {b7 b8 : Nat} {X Y : HdrS} {vx vy : Value} (h : Two w1 b7 b8 X Y vx vy w) (g : w.grownBy w' none) : Two w1 b7 b8 X Y vx vy w' :=
  ⟨g.heap h.h7 (by simp), g.heap h.h8 (by simp), let ⟨B, o⟩ := h.s7; ⟨B, own_keep o g (fun _ _ e => by cases e)⟩, let ⟨B, o⟩ := h.s8; ⟨B, own_keep o g (fun _ _ e => by cases e)⟩, grownBy_trans h.gr g, h.ys⟩
theorem Two.drew {w1 w : World} {b7 b8 : Nat} {X Y : HdrS} {vx vy : Value} (h : Two w1 b7 b8 X Y vx vy w) : Two w1 b7 b8 X Y vx vy w.drew := h.kept (grownBy_drew (World.grownBy.refl w none))
theorem Two.c7 {w1 w : World} {b7 b8 : Nat} {X Y : HdrS} {vx vy : Value} (h : Two w1 b7 b8 X Y vx vy w) : w.cell? ⟨b7, 0, none⟩ = some (.int .u64 X.e) ∧ w.cell? ⟨b7, 1, none⟩ = some (.string X.p) ∧ w.cell? ⟨b7, 2, none⟩ = some (.int .i64 X.d) ∧ w.cell? ⟨b7, 3, none⟩ = some (.int .i64 X.a) ∧ w.cell? ⟨b7, 4, none⟩ = some vx := cells5 h.h7
theorem Two.c8 {w1 w : World} {b7 b8 : Nat} {X Y : HdrS} {vx vy : Value} (h : Two w1 b7 b8 X Y vx vy w) : w.cell? ⟨b8, 0, none⟩ = some (.int .u64 Y.e) ∧ w.cell? ⟨b8, 1, none⟩ = some (.string Y.p) ∧ w.cell? ⟨b8, 2, none⟩ = some (.int .i64 Y.d) ∧ w.cell? ⟨b8, 3, none⟩ = some (.int .i64 Y.a) ∧ w.cell? ⟨b8, 4, none⟩ = some vy := cells5 h.h8
theorem Two.v7 {w1 w : World} {b7 b8 : Nat} {X Y : HdrS} {vx vy : Value} (h : Two w1 b7 b8 X Y vx vy w) : StrsAt w vx X.L ∧ ∃ a cap, vx = .slice a X.L.length cap := by
  obtain ⟨_, o⟩ := h.s7
  obtain ⟨a, cap, rfl⟩ := own_form o
  exact ⟨strs_own o, a, cap, rfl⟩
theorem Two.v8 {w1 w : World} {b7 b8 : Nat} {X Y : HdrS} {vx vy : Value} (h : Two w1 b7 b8 X Y vx vy w) : StrsAt w vy Y.L ∧ ∃ a cap, vy = .slice a Y.L.length cap := by
  obtain ⟨_, o⟩ := h.s8
  obtain ⟨a, cap, rfl⟩ := own_form o
  exact ⟨strs_own o, a, cap, rfl⟩
/-- some cells of the second are stored anew -/
theorem Two.put {w1 w w' : World} {b7 b8 : Nat} {X Y : HdrS} {vx vy : Value} (h : Two w1 b7 b8 X Y vx vy w) (hne : b7 ≠ b8) (h1 : w1.heap.size ≤ b8) (Y' : HdrS) (vy' : Value)
    (g : w.grownBy w' (some b8)) (h8 : w'.heap[b8]? = some (hdrO Y' vy')) (hv : (Y'.L = Y.L ∧ vy' = vy) ∨ (Y'.L = X.L ∧ vy' = vx)) (hs : Y'.small) : Two w1 b7 b8 X Y' vx vy' w' := by
  have k : ∀ {B n : Nat} {v : Value} {xs : List Value}, w.ownsRow B 9 1 v n xs → w'.ownsRow B 9 1 v n xs := fun o =>
    own_keep o g (fun y hy e => own_off o h.h8 y hy (Option.some.inj e).symm)
  refine ⟨g.heap h.h7 (fun e => hne (Option.some.inj e).symm), h8, let ⟨B, o⟩ := h.s7; ⟨B, k o⟩, ?_, grown_row h.gr g (fun y e => by cases e; exact h1), hs⟩
  rcases hv with ⟨e1, e2⟩ | ⟨e1, e2⟩
  · rw [e1, e2]; exact let ⟨B, o⟩ := h.s8; ⟨B, k o⟩
  · rw [e1, e2]; exact let ⟨B, o⟩ := h.s7; ⟨B, k o⟩
theorem Two.putP {w1 w : World} {b7 b8 : Nat} {X Y : HdrS} {vx vy : Value} (h : Two w1 b7 b8 X Y vx vy w) (hne : b7 ≠ b8) (h1 : w1.heap.size ≤ b8) (P : ByteArray) (hP : P.size ≤ 100000) :
    Two w1 b7 b8 X ⟨Y.e, P, Y.d, Y.a, Y.L⟩ vx vy (w.setCell ⟨b8, 1, none⟩ (.string P)) :=
  h.put hne h1 ⟨Y.e, P, Y.d, Y.a, Y.L⟩ vy (grownBy_setCell (World.grownBy.refl w _) 1 _) ((heap_setCell h.h8 1 _).trans rfl) (Or.inl ⟨rfl, rfl⟩) ⟨h.ys.e, hP, h.ys.n, h.ys.s⟩
theorem Two.putE {w1 w : World} {b7 b8 : Nat} {X Y : HdrS} {vx vy : Value} (h : Two w1 b7 b8 X Y vx vy w) (hne : b7 ≠ b8) (h1 : w1.heap.size ≤ b8) (e : Nat) (he : e ≤ 18446744073709551615) :
    Two w1 b7 b8 X ⟨e, Y.p, Y.d, Y.a, Y.L⟩ vx vy (w.setCell ⟨b8, 0, none⟩ (.int .u64 e)) :=
  h.put hne h1 ⟨e, Y.p, Y.d, Y.a, Y.L⟩ vy (grownBy_setCell (World.grownBy.refl w _) 0 _) ((heap_setCell h.h8 0 _).trans rfl) (Or.inl ⟨rfl, rfl⟩) ⟨he, h.ys.p, h.ys.n, h.ys.s⟩
theorem Two.putD {w1 w : World} {b7 b8 : Nat} {X Y : HdrS} {vx vy : Value} (h : Two w1 b7 b8 X Y vx vy w) (hne : b7 ≠ b8) (h1 : w1.heap.size ≤ b8) (hX : X.small) (a : Int) (w' : World)
    (hw : w' = (((w.setCell ⟨b8, 2, none⟩ (.int .i64 X.d)).setCell ⟨b8, 4, none⟩ vx).setCell ⟨b8, 3, none⟩ (.int .i64 a))) :
    Two w1 b7 b8 X ⟨Y.e, Y.p, X.d, a, X.L⟩ vx vx w' := by
  subst hw
  exact h.put hne h1 ⟨Y.e, Y.p, X.d, a, X.L⟩ vx (grownBy_setCell (grownBy_setCell (grownBy_setCell (World.grownBy.refl w _) 2 _) 4 _) 3 _) ((heap_setCell (heap_setCell (heap_setCell h.h8 2 _) 4 _) 3 _).trans rfl) (Or.inr ⟨rfl, rfl⟩) ⟨h.ys.e, h.ys.p, hX.n, hX.s⟩
theorem u8_and (n : Nat) (hn : n ≤ 255) : bits .and .u8 (n : Int) 1 = ((n % 2 : Nat) : Int) ∧ bits .and .u8 (n : Int) 2 = ((n &&& 2 : Nat) : Int) ∧ bits .and .u8 (n : Int) 4 = ((n &&& 4 : Nat) : Int) := by
  refine ⟨?_, ?_, ?_⟩
  · rw [show (1 : Int) = ((1 : Nat) : Int) from rfl, u8_and_nat _ _ (by omega) (by omega)]
    rw [show n &&& 1 = n % 2 from Nat.and_two_pow_sub_one_eq_mod n 1]
  · rw [show (2 : Int) = ((2 : Nat) : Int) from rfl, u8_and_nat _ _ (by omega) (by omega)]
  · rw [show (4 : Int) = ((4 : Nat) : Int) from rfl, u8_and_nat _ _ (by omega) (by omega)]
theorem HdrS.gen_err {y : HdrS} (h : y.err ≠ 0) : y.gen = y.err := by unfold HdrS.gen; rw [if_pos h]
theorem HdrS.next_err {x y : HdrS} (h : y.err ≠ 0) : x.next y = y.err := by unfold HdrS.next; rw [if_pos h]
theorem HdrS.gen_ok {y : HdrS} (h : y.err = 0) : y.gen = if y.e ≠ 0 then 14 else if y.p ≠ noughtsS then 15 else 0 := by unfold HdrS.gen; rw [if_neg (not_not_intro h)]
theorem HdrS.next_ok {x y : HdrS} (h : y.err = 0) : x.next y = if y.e = 0 ∨ y.e - 1 ≠ x.e then 14 else if y.p ≠ x.dig then 15 else if y.d ≠ x.d ∨ y.a < x.a then 22 else 0 := by unfold HdrS.next; rw [if_neg (not_not_intro h)]
end Go.Proofs.YtioahjdojgcfdaaDoor

namespace Go.Proofs.YtioahjdojgcfdaaDoor
open Go.RowKit Go.ChangeShapes Go.WideShapes Go.Lib Go.Deep

section
variable {H : Type} {enc : TypeId × Value → H} {P : Program} {w : World} {base : Nat} {spare : Nat → Bool} {held : Bool}
theorem trod_struct5 {t : TypeId} {f0 f1 f2 f3 f4 : Field} {fuel : Nat} {cs : List Value} {x : DataW H × List MemPlace} (ht : P.underlying t = some (.struct #[f0, f1, f2, f3, f4])) (h : DataW.trod enc P w base spare held fuel t cs = some x) :
    ∃ y0 y1 y2 y3 y4 n, cs.length = P.cellsOf t ∧ DataW.trod enc P w base spare held n f0.type ((cs.drop f0.offset).take (P.cellsOf f0.type)) = some y0 ∧
      DataW.trod enc P w base spare held n f1.type ((cs.drop f1.offset).take (P.cellsOf f1.type)) = some y1 ∧ DataW.trod enc P w base spare held n f2.type ((cs.drop f2.offset).take (P.cellsOf f2.type)) = some y2 ∧
      DataW.trod enc P w base spare held n f3.type ((cs.drop f3.offset).take (P.cellsOf f3.type)) = some y3 ∧ DataW.trod enc P w base spare held n f4.type ((cs.drop f4.offset).take (P.cellsOf f4.type)) = some y4 := by
  obtain ⟨xs, n, _, rfl, hl, hlen, hf⟩ := DataW.trod_struct ht h
  match xs, hlen with
  | [y0, y1, y2, y3, y4], _ => exact ⟨y0, y1, y2, y3, y4, n, hl, by simpa using hf 0 f0 rfl, by simpa using hf 1 f1 rfl, by simpa using hf 2 f2 rfl, by simpa using hf 3 f3 rfl, by simpa using hf 4 f4 rfl⟩
end
theorem cellsHdr : Tryd.prog.cellsOf 61 = 5 := by kernel_rfl
set_option maxRecDepth 100000 in
theorem open_hdr {H : Type} {enc : TypeId × Value → H} {w : World} {base b0 : Nat} {r : Reach} {spare : Nat → Bool} {held : Bool} {v : Value} {d : DataW H} {p : List MemPlace}
    (hval : Value.okWide Tryd.prog w r b0 61 v) (h : DataW.Trod enc Tryd.prog w base spare held 61 v d p) : ∃ (e : Int) (P : ByteArray) (d a : Int) (N : ByteArray), v = .agg #[.int .u64 e, .string P, .int .i64 d, .int .i64 a, .string N] ∧ (0 ≤ e ∧ e ≤ 18446744073709551615) ∧ P.size ≤ maxLen ∧ (-9223372036854775808 ≤ d ∧ d ≤ 9223372036854775807) ∧ (-9223372036854775808 ≤ a ∧ a ≤ 9223372036854775807) ∧ N.size ≤ maxLen := by
  simp only [Value.okWide, Tryd.underlying61] at hval
  obtain ⟨cs, rfl, hsz, -⟩ := hval
  obtain ⟨fuel, hf⟩ := h
  obtain ⟨y0, y1, y2, y3, y4, n, hl, t0, t1, t2, t3, t4⟩ := trod_struct5 Tryd.underlying61 hf
  rw [cellsHdr] at hsz
  obtain ⟨l⟩ := cs
  match l, hsz with
  | [c0, c1, c2, c3, c4], _ =>
    obtain ⟨x0, e0, f0, w0⟩ := DataW.trod_int (t := 32) Tryd.underlying32 (show DataW.trod enc Tryd.prog w base spare held n 32 [c0] = some y0 from t0)
    obtain ⟨x1, e1, f1, w1⟩ := DataW.trod_string (t := 9) Tryd.underlying9 (show DataW.trod enc Tryd.prog w base spare held n 9 [c1] = some y1 from t1)
    obtain ⟨x2, e2, f2, w2⟩ := DataW.trod_int (t := 3) Tryd.underlying3 (show DataW.trod enc Tryd.prog w base spare held n 3 [c2] = some y2 from t2)
    obtain ⟨x3, e3, f3, w3⟩ := DataW.trod_int (t := 3) Tryd.underlying3 (show DataW.trod enc Tryd.prog w base spare held n 3 [c3] = some y3 from t3)
    obtain ⟨x4, e4, f4, w4⟩ := DataW.trod_string (t := 9) Tryd.underlying9 (show DataW.trod enc Tryd.prog w base spare held n 9 [c4] = some y4 from t4)
    simp only [List.cons.injEq, and_true] at e0 e1 e2 e3 e4
    subst e0 e1 e2 e3 e4
    have b0 : 0 ≤ x0 ∧ x0 ≤ 18446744073709551615 := by simpa [Lit.wf, IntKind.min, IntKind.max, IntKind.signed, IntKind.bits] using w0
    have b2 : -9223372036854775808 ≤ x2 ∧ x2 ≤ 9223372036854775807 := by simpa [Lit.wf, IntKind.min, IntKind.max, IntKind.signed, IntKind.bits] using w2
    have b3 : -9223372036854775808 ≤ x3 ∧ x3 ≤ 9223372036854775807 := by simpa [Lit.wf, IntKind.min, IntKind.max, IntKind.signed, IntKind.bits] using w3
    exact ⟨x0, x1, x2, x3, x4, rfl, b0, by simpa using w1, b2, b3, by simpa using w4⟩
end Go.Proofs.YtioahjdojgcfdaaDoor
