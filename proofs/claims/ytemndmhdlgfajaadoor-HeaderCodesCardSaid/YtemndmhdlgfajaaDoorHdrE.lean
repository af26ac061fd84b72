/- The walks of header's Encode and Digest. -/
import Derived.Test.YtemndmhdlgfajaaDoorHdrC
import Derived.Test.YtemndmhdlgfajaaDoorHeaderCodesB6
import Derived.Test.YtemndmhdlgfajaaDoorHeaderCodesB3
import Derived.Test.YtemndmhdlgfajaaDoorHeaderCodesB2
import Derived.Deep.RegionHeld3
namespace Go.Proofs.YtemndmhdlgfajaaDoor
open Go.RowKit
attribute [local irreducible] shaL

theorem HdrS.enc_ok {x : HdrS} (h : x.err = 0) : x.enc = str x.bytes := by unfold HdrS.enc; rw [if_pos h]
theorem HdrS.enc_no {x : HdrS} (h : x.err ≠ 0) : x.enc = ⟨#[]⟩ := by unfold HdrS.enc; rw [if_neg h]
set_option maxRecDepth 100000 in
set_option maxHeartbeats 3200000 in
theorem hencode_any (x : HdrS) (hx : x.small) (v : Value) (w : World) (hv : StrsAt w v x.L) :
    Calls Tryd.prog 10 #[x.val v] w fun e w' => e = .returned (.tuple #[.string x.enc, .int .i64 x.err]) ∧ w.grownBy w' none := by
  obtain ⟨a, cap, rfl⟩ := hv.form
  have HCK := Lib.hid (fun w' q => hcheck_any x hx (.slice a x.L.length cap) w' q)
  by_cases hz : x.err = 0
  · rw [hz] at HCK
    have hlen := HdrS.len hz
    have henc := HdrS.enc_ok hz
    obtain ⟨_, hn2, hnode⟩ := HdrS.fit hz
    obtain ⟨f1, f2, f3, f4⟩ := HdrS.fits hz
    have hp16 : 2 ^ x.d.toNat ≤ 16 := pow4 (by omega)
    rw [hz, henc]
    clear hx
    obtain ⟨e, p, d, au, L⟩ := x
    obtain ⟨k, rfl⟩ := Int.eq_ofNat_of_zero_le f3.1
    obtain ⟨j, rfl⟩ := Int.eq_ofNat_of_zero_le f4.1
    have f1 : e ≤ 4294967295 := f1
    have f2 : p.size = 16 := f2
    have f3 : (k : Int) ≤ 4 := f3.2
    have f4 : (j : Int) ≤ 64 := f4.2
    have hn2 : L.length ≤ 16 := by have e1 : L.length = 2 ^ k := hn2; have e2 : 2 ^ k ≤ 16 := hp16; omega
    have hnode : ∀ s ∈ L, nodeOk s = true := hnode
    have hbytes : (⟨e, p, k, j, L⟩ : HdrS).bytes = be e 4 ++ (p.data.toList ++ (be k 1 ++ (be j 1 ++ textsB L))) := rfl
    rw [hbytes]
    have hv : StrsAt w (.slice a L.length cap) L := hv
    have HCK : Hid (∀ w', StrsAt w' (.slice a L.length cap) L → Calls Tryd.prog 39 #[.agg #[.int .u64 e, .string p, .int .i64 k, .int .i64 j, .slice a L.length cap]] w' fun e w'' => e = .returned (.int .i64 0) ∧ w'.grownBy w'' none) := HCK
    unfold HdrS.val
    simp only
    have HV := Lib.hid hv
    have HS := Lib.hid hnode
    obtain ⟨n, hnn⟩ : ∃ n, L.length = n := ⟨_, rfl⟩
    rw [hnn] at hn2 HV HCK ⊢
    have HN := Lib.hid hnn
    have hb0 := heap_alloc_at w (.cells #[.int .u64 e, .string p, .int .i64 k, .int .i64 j, .slice a n cap] 28) _ rfl
    have hg0 : w.grownBy (w.alloc (.cells #[.int .u64 e, .string p, .int .i64 k, .int .i64 j, .slice a n cap] 28)) none := World.grownBy_alloc _ _ _
    obtain ⟨W0, hW0⟩ : ∃ W0, w.alloc (.cells #[.int .u64 e, .string p, .int .i64 k, .int .i64 j, .slice a n cap] 28) = W0 := ⟨_, rfl⟩
    obtain ⟨XB, hXB⟩ : ∃ XB, w.heap.size = XB := ⟨_, rfl⟩
    rw [hW0] at hb0 hg0
    rw [hXB] at hb0
    obtain ⟨x0, x1, x2, x3, x4⟩ := cells5 hb0
    have HB0 := Lib.hid hb0
    have HG0 := Lib.hid hg0
    have HW := Lib.hid (And.intro hW0 hXB)
    have HP := Lib.hid (And.intro f1 (And.intro f2 (And.intro f3 f4)))
    clear hb0 hg0 hW0 hXB hv hnode hz hlen henc hp16 hbytes
    go_enter Tryd.func10, Tryd.ntmps10
    go_wp2_with (rw [HW.out.1, HW.out.2])
    refine (HCK.out _ (HV.out.grown HG0.out)).mono ?_
    rintro e w1 ⟨rfl, g1⟩
    have hb1 := g1.heap HB0.out (by simp)
    have HG1 := Lib.hid (grownBy_trans HG0.out g1)
    have hlt1 : XB < w1.heap.size := (Array.getElem?_eq_some_iff.1 hb1).1
    clear g1 x0 x1 x2 x3 x4 HB0 HCK
    have hWB : WrAt (w1.alloc (.cells #[.pointer none, .int .i64 0, .int .i64 0] 76)) w1.heap.size ⟨[], 0⟩ := ⟨.pointer none, heap_alloc_at w1 _ _ rfl, rfl⟩
    have hg1 : w1.grownBy (w1.alloc (.cells #[.pointer none, .int .i64 0, .int .i64 0] 76)) none := World.grownBy_alloc _ _ _
    have hb2 := hg1.heap hb1 (by simp)
    obtain ⟨WB, hWBn⟩ : ∃ WB, w1.heap.size = WB := ⟨_, rfl⟩
    obtain ⟨W1, hW1⟩ : ∃ W1, w1.alloc (.cells #[.pointer none, .int .i64 0, .int .i64 0] 76) = W1 := ⟨_, rfl⟩
    rw [hW1] at hWB hg1 hb2
    rw [hWBn] at hWB hlt1
    have HLT := Lib.hid hlt1
    have HG2 := Lib.hid (grownBy_trans HG1.out hg1)
    have HW1 := Lib.hid (And.intro hW1 hWBn)
    have HWR := Lib.hid hWB
    have HB2 := Lib.hid hb2
    obtain ⟨y0, y1, y2, y3, y4⟩ := cells5 hb2
    have HNE : Hid (∀ (w' w'' : World) (o : Nat) (u : Value), w'.grownBy w'' (some WB) → w'.cell? ⟨XB, o, none⟩ = some u → w''.cell? ⟨XB, o, none⟩ = some u) := fun w' w'' o u g h => g.cell h (fun e => by have := HLT.out; simp at e; omega)
    have HNEH : Hid (∀ (w' w'' : World) (o : Obj), w'.grownBy w'' (some WB) → w'.heap[XB]? = some o → w''.heap[XB]? = some o) := fun w' w'' o g h => (g.block XB (Array.getElem?_eq_some_iff.1 h).1 (fun e => by have := HLT.out; simp at e; omega)).trans h
    have HNEW : Hid (∀ g, some WB = some g → w.heap.size ≤ g) := fun g e => by cases e; have := HLT.out; have := HW.out.2; omega
    have hP := HP.out
    have hN1 : (⟨[], 0⟩ : WSt).num e 4 = ⟨[str (be e 4)], 0⟩ := wnum_ok [] e 4 ⟨by omega, by omega, by show e < 4294967296; omega⟩
    have hN2 : (⟨[str (be e 4)], 0⟩ : WSt).fixed p 16 = ⟨[p, str (be e 4)], 0⟩ := wput_ok _ p 16 (by omega)
    have hN3 : (⟨[p, str (be e 4)], 0⟩ : WSt).num k 1 = ⟨[str (be k 1), p, str (be e 4)], 0⟩ := wnum_ok _ k 1 ⟨by omega, by omega, by show k < 256; omega⟩
    have hN4 : (⟨[str (be k 1), p, str (be e 4)], 0⟩ : WSt).num j 1 = ⟨[str (be j 1), str (be k 1), p, str (be e 4)], 0⟩ := wnum_ok _ j 1 ⟨by omega, by omega, by show j < 256; omega⟩
    have t0 : total ([] : List ByteArray) = 0 := rfl
    have t1 : total [str (be e 4)] ≤ 4 := by rw [total_cons, str_size, be_length]; omega
    have t2 : total [p, str (be e 4)] ≤ 20 := by rw [total_cons]; omega
    have t3 : total [str (be k 1), p, str (be e 4)] ≤ 21 := by rw [total_cons, str_size, be_length]; omega
    have t4 : total [str (be j 1), str (be k 1), p, str (be e 4)] ≤ 22 := by rw [total_cons, str_size, be_length]; omega
    have HF1 : Hid (∀ (w' : World), WrAt w' WB ⟨[], 0⟩ → _) := Lib.hid (fun (w' : World) (q : WrAt w' WB ⟨[], 0⟩) => wr_numS e (by omega) 4 q (by show 0 ≤ _; omega))
    have HF2 : Hid (∀ (w' : World), WrAt w' WB ⟨[str (be e 4)], 0⟩ → _) := Lib.hid (fun (w' : World) (q : WrAt w' WB ⟨[str (be e 4)], 0⟩) => wr_fixedS p 16 q (by show p.size + total [str (be e 4)] ≤ _; omega))
    have HF3 : Hid (∀ (w' : World), WrAt w' WB ⟨[p, str (be e 4)], 0⟩ → _) := Lib.hid (fun (w' : World) (q : WrAt w' WB ⟨[p, str (be e 4)], 0⟩) => wr_numS k (by omega) 1 q (by show total [p, str (be e 4)] ≤ _; omega))
    have HF4 : Hid (∀ (w' : World), WrAt w' WB ⟨[str (be k 1), p, str (be e 4)], 0⟩ → _) := Lib.hid (fun (w' : World) (q : WrAt w' WB ⟨[str (be k 1), p, str (be e 4)], 0⟩) => wr_numS j (by omega) 1 q (by show total [str (be k 1), p, str (be e 4)] ≤ _; omega))
    rw [hN1] at HF1
    rw [hN2] at HF2
    rw [hN3] at HF3
    rw [hN4] at HF4
    have HT4 := Lib.hid t4
    have r1 : IntKind.u64.wrap (k : Int) = (k : Int) := IntWalk.u64_in _ (by omega)
    have r2 : IntKind.u64.wrap (j : Int) = (j : Int) := IntWalk.u64_in _ (by omega)
    clear hlt1 hWB hg1 hb1 hb2 hWBn hW1 t0 t1 t2 t3 t4 hN1 hN2 hN3 hN4 f1 f2 f3 f4 hP
    go_wp2_with (rw [HW1.out.1, HW1.out.2])
    have hdw : WrAt W1.drew WB ⟨[], 0⟩ := HWR.out.grown (grownBy_drew (World.grownBy.refl _ _))
    go_region_held3 (fun w' => w'.cell? ⟨XB, 0, none⟩ = some (.int .u64 e) ∧ w'.cell? ⟨XB, 1, none⟩ = some (.string p)) (first | exact ck | exact ⟨y0, y1⟩)
      (first
      | (go_at_call 40; (with_reducible refine (HF1.out _ hdw).mono ?_); rintro e w3 ⟨rfl, hw3, g3⟩; have ck := And.intro (HNE.out _ _ _ _ g3 y0) (HNE.out _ _ _ _ g3 y1))
      | (go_at_call 41; (with_reducible refine (HF2.out _ hw3).mono ?_); rintro e w4 ⟨rfl, hw4, g4⟩; have ck := And.intro (HNE.out _ _ _ _ g4 ck.1) (HNE.out _ _ _ _ g4 ck.2)))
    have HB4 : Hid (w4.heap[XB]? = some (.cells #[.int .u64 e, .string p, .int .i64 k, .int .i64 j, .slice a n cap] 28 (0, 0))) := Lib.hid (HNEH.out _ _ _ g4 (HNEH.out _ _ _ g3 HB2.out))
    have HG4 := Lib.hid (grown_row (grown_row (grownBy_drew HG2.out) g3 HNEW.out) g4 HNEW.out)
    have HW4 := Lib.hid hw4
    obtain ⟨z0, z1, z2, z3, z4⟩ := cells5 HB4.out
    clear ck g3 g4 hw3 hw4 hdw y0 y1 y2 y3 y4 HF1 HF2 HG2 HB2 HWR
    go_wp2_with fail
    have hdw : WrAt w4.drew WB ⟨[p, str (be e 4)], 0⟩ := HW4.out.grown (grownBy_drew (World.grownBy.refl _ _))
    go_region_held3 (fun w' => w'.cell? ⟨XB, 2, none⟩ = some (.int .i64 k) ∧ w'.cell? ⟨XB, 3, none⟩ = some (.int .i64 j)) (first | exact ck | exact ⟨z2, z3⟩)
      (first
      | (go_at_call 40; (with_reducible refine (HF3.out _ hdw).mono ?_); rintro e w5 ⟨rfl, hw5, g5⟩; have ck := And.intro (HNE.out _ _ _ _ g5 z2) (HNE.out _ _ _ _ g5 z3))
      | (go_at_call 40; (with_reducible refine (HF4.out _ hw5).mono ?_); rintro e w6 ⟨rfl, hw6, g6⟩; have ck := And.intro (HNE.out _ _ _ _ g6 ck.1) (HNE.out _ _ _ _ g6 ck.2)))
    have HB6 : Hid (w6.heap[XB]? = some (.cells #[.int .u64 e, .string p, .int .i64 k, .int .i64 j, .slice a n cap] 28 (0, 0))) := Lib.hid (HNEH.out _ _ _ g6 (HNEH.out _ _ _ g5 (by exact HB4.out)))
    have HG6 := Lib.hid (grown_row (grown_row (grownBy_drew HG4.out) g5 HNEW.out) g6 HNEW.out)
    have HW6 := Lib.hid hw6
    obtain ⟨z0, z1, z2, z3, z4⟩ := cells5 HB6.out
    clear ck g5 g6 hw5 hw6 hdw HF3 HF4 HG4 HB4 HW4
    go_wp2_with fail
    go_loopw [7, 30] (fun _ iv wr => ∃ (i : Nat) (ts : List ByteArray), i ≤ n ∧ iv = .int .i64 i ∧ Hid (flat ts = be e 4 ++ (p.data.toList ++ (be k 1 ++ (be j 1 ++ textsB (L.take i))))) ∧ Hid (WrAt wr WB ⟨ts, 0⟩ ∧ w.grownBy wr none)) (fun _ iv _ => n - (intOf iv).toNat)
    case atStart =>
      refine ⟨0, _, Nat.zero_le _, rfl, Lib.hid ?_, Lib.hid ⟨HW6.out, HG6.out⟩⟩
      rw [List.take_zero]
      show ((([] ++ (str (be e 4)).data.toList) ++ p.data.toList) ++ (str (be k 1)).data.toList) ++ (str (be j 1)).data.toList = be e 4 ++ (p.data.toList ++ (be k 1 ++ (be j 1 ++ [])))
      rw [str_data, str_data, str_data]
      simp only [List.append_assoc, List.append_nil, List.nil_append]
    case round =>
      obtain ⟨i, ts, hi, rfl, HF, HI⟩ := hrel
      have htot : total ts ≤ 1000 := by
        rw [← flat_length, HF.out]
        have h1 := textsB_17 (L.take i) (fun s hs => nodeOk_size (HS.out s (List.mem_of_mem_take hs)))
        have h2 := List.length_take_le i L
        have h3 := HP.out.2.1
        have h4 : p.data.toList.length = 16 := by rw [Array.length_toList]; exact h3
        simp only [List.length_append, be_length, h4]
        omega
      by_cases hil : i < n
      · obtain ⟨s, hs⟩ : ∃ s, L[i]? = some s := ⟨_, List.getElem?_eq_getElem (by have := HN.out; omega)⟩
        obtain ⟨g1, o1, rfl, hc1⟩ := (HV.out.grown HI.out.2).at_ i s hs
        have e0 : (0 : Int) ≤ (i : Int) := by omega
        have e1 : (i : Int) < (n : Int) := by omega
        have htk : L.take (i + 1) = L.take i ++ [s] := take_succ_at hs
        have HTK := Lib.hid htk
        have HTX := Lib.hid (wr_text s (by have := nodeOk_size (HS.out s (List.mem_of_getElem? hs)); omega) HI.out.1 (by omega))
        clear hs htk htot
        go_wp2_with fail
        refine HTX.out.mono ?_
        rintro e w2 ⟨rfl, hw2, g2⟩
        have N2 : Hid (WrAt w2 WB ⟨s :: str (be s.size 2) :: ts, 0⟩ ∧ w.grownBy w2 none) := Lib.hid ⟨hw2, grown_row HI.out.2 g2 HNEW.out⟩
        clear hw2 g2 hc1 HI
        go_wp2_with fail
        go_roundw
        case rel => exact ⟨i + 1, _, by omega, by go_num, Lib.hid (by rw [flat_text, HF.out, HTK.out, textsB_snoc]; simp only [List.append_assoc]), N2.out⟩
        case measure => simp [intOf]; omega
      · have e1 : ¬ (i : Int) < (n : Int) := by omega
        have hin : L.take i = L := List.take_of_length_le (by have := HN.out; omega)
        rw [hin] at HF
        have HBY := Lib.hid (wr_bytesS (st := ⟨ts, 0⟩) HI.out.1 (by show total ts ≤ _; omega))
        have hans : (⟨ts, 0⟩ : WSt).ans = str (be e 4 ++ (p.data.toList ++ (be k 1 ++ (be j 1 ++ textsB L)))) := by
          unfold WSt.ans
          rw [if_pos rfl, HF.out]
        rw [hans] at HBY
        clear hin hans htot hil hi
        go_wp2_with fail
        refine HBY.out.mono ?_
        rintro e w2 ⟨rfl, g2⟩
        have G2 := Lib.hid (grownBy_trans HI.out.2 g2)
        clear g2 HI
        go_wp2_with fail
        go_returns
        exact ⟨rfl, G2.out⟩
  · have henc := HdrS.enc_no hz
    rw [henc]
    have HZ := Lib.hid hz
    unfold HdrS.val at HCK ⊢
    obtain ⟨e, p, d, au, L⟩ := x
    generalize (⟨e, p, d, au, L⟩ : HdrS).err = z at HCK hz HZ ⊢
    have q1 : (z != 0) = true := by simp [hz]
    have q2 : (z == 0) = false := by simp [hz]
    have hv : StrsAt w (.slice a L.length cap) L := hv
    have HCK : Hid (∀ w', StrsAt w' (.slice a L.length cap) L → Calls Tryd.prog 39 #[.agg #[.int .u64 e, .string p, .int .i64 d, .int .i64 au, .slice a L.length cap]] w' fun e w'' => e = .returned (.int .i64 z) ∧ w'.grownBy w'' none) := HCK
    simp only
    have HV := Lib.hid hv
    have hb0 := heap_alloc_at w (.cells #[.int .u64 e, .string p, .int .i64 d, .int .i64 au, .slice a L.length cap] 28) _ rfl
    have hg0 : w.grownBy (w.alloc (.cells #[.int .u64 e, .string p, .int .i64 d, .int .i64 au, .slice a L.length cap] 28)) none := World.grownBy_alloc _ _ _
    obtain ⟨W0, hW0⟩ : ∃ W0, w.alloc (.cells #[.int .u64 e, .string p, .int .i64 d, .int .i64 au, .slice a L.length cap] 28) = W0 := ⟨_, rfl⟩
    obtain ⟨XB, hXB⟩ : ∃ XB, w.heap.size = XB := ⟨_, rfl⟩
    rw [hW0] at hb0 hg0
    rw [hXB] at hb0
    obtain ⟨x0, x1, x2, x3, x4⟩ := cells5 hb0
    have HG0 := Lib.hid hg0
    have HW := Lib.hid (And.intro hW0 hXB)
    clear hb0 hg0 hW0 hXB hv hz hx henc
    go_enter Tryd.func10, Tryd.ntmps10
    go_wp2_with (rw [HW.out.1, HW.out.2])
    refine (HCK.out _ (HV.out.grown HG0.out)).mono ?_
    rintro e w1 ⟨rfl, g1⟩
    have HG1 := Lib.hid (grownBy_trans HG0.out g1)
    clear g1 x0 x1 x2 x3 x4
    go_wp2_with fail
    go_returns
    exact ⟨rfl, HG1.out⟩

set_option maxRecDepth 100000 in
set_option maxHeartbeats 1600000 in
theorem hdigest_any (x : HdrS) (hx : x.small) (v : Value) (w : World) (hv : StrsAt w v x.L) (hr : ShaReady w) :
    Calls Tryd.prog 13 #[x.val v] w fun e w' => e = .returned (.string x.dig) ∧ w.grownBy w' none := by
  obtain ⟨a, cap, rfl⟩ := hv.form
  have HEN := Lib.hid (fun w' q => hencode_any x hx (.slice a x.L.length cap) w' q)
  have hdig : (x.err = 0 → x.dig = tagS 14 [x.enc] ∧ x.enc.size ≤ 400) ∧ (x.err ≠ 0 → x.dig = ⟨#[]⟩) := by
    refine ⟨fun h => ⟨?_, ?_⟩, HdrS.dig_none⟩
    · unfold HdrS.dig
      rw [if_pos h, HdrS.enc_ok h]
    · rw [HdrS.enc_ok h, str_size]
      exact HdrS.len h
  obtain ⟨D, hD⟩ : ∃ D, x.dig = D := ⟨_, rfl⟩
  rw [hD] at hdig ⊢
  unfold HdrS.val at HEN ⊢
  obtain ⟨e, p, d, au, L⟩ := x
  generalize (⟨e, p, d, au, L⟩ : HdrS).err = z at HEN hdig
  generalize (⟨e, p, d, au, L⟩ : HdrS).enc = E at HEN hdig
  have hv : StrsAt w (.slice a L.length cap) L := hv
  have HEN : Hid (∀ w', StrsAt w' (.slice a L.length cap) L → Calls Tryd.prog 10 #[.agg #[.int .u64 e, .string p, .int .i64 d, .int .i64 au, .slice a L.length cap]] w' fun e w'' => e = .returned (.tuple #[.string E, .int .i64 z]) ∧ w'.grownBy w'' none) := HEN
  simp only
  have HV := Lib.hid hv
  have hb0 := heap_alloc_at w (.cells #[.int .u64 e, .string p, .int .i64 d, .int .i64 au, .slice a L.length cap] 28) _ rfl
  have hg0 : w.grownBy (w.alloc (.cells #[.int .u64 e, .string p, .int .i64 d, .int .i64 au, .slice a L.length cap] 28)) none := World.grownBy_alloc _ _ _
  obtain ⟨W0, hW0⟩ : ∃ W0, w.alloc (.cells #[.int .u64 e, .string p, .int .i64 d, .int .i64 au, .slice a L.length cap] 28) = W0 := ⟨_, rfl⟩
  obtain ⟨XB, hXB⟩ : ∃ XB, w.heap.size = XB := ⟨_, rfl⟩
  rw [hW0] at hb0 hg0
  rw [hXB] at hb0
  obtain ⟨x0, x1, x2, x3, x4⟩ := cells5 hb0
  have HG0 := Lib.hid hg0
  have HW := Lib.hid (And.intro hW0 hXB)
  have HD := Lib.hid hdig
  have HR := Lib.hid hr
  clear hb0 hg0 hW0 hXB hv hx hD hdig hr
  by_cases hz : z = 0
  · have q1 : (z != 0) = false := by simp [hz]
    have q2 : (z == 0) = true := by simp [hz]
    obtain ⟨h1, h2⟩ := HD.out.1 hz
    have HL := Lib.hid (And.intro h1 h2)
    clear h1 h2 hz
    go_enter Tryd.func13, Tryd.ntmps13
    go_wp2_with (rw [HW.out.1, HW.out.2])
    refine (HEN.out _ (HV.out.grown HG0.out)).mono ?_
    rintro e w1 ⟨rfl, g1⟩
    have HG1 := Lib.hid (grownBy_trans HG0.out g1)
    clear g1 x0 x1 x2 x3 x4
    have HT := Lib.hid (tagged_new w1 14 [E] [.string E] 1 14 rfl rfl rfl (HR.out.grown HG1.out) (by simp) (by intro s hs; have := HL.out.2; simp at hs; subst hs; omega))
    go_wp2_with fail
    refine HT.out.mono ?_
    rintro e w2 ⟨rfl, g2⟩
    have HG2 := Lib.hid (grownBy_trans HG1.out g2)
    clear g2
    go_wp2_with fail
    go_ret
    exact ⟨by rw [HL.out.1]; rfl, HG2.out⟩
  · have q1 : (z != 0) = true := by simp [hz]
    have q2 : (z == 0) = false := by simp [hz]
    have h1 := HD.out.2 hz
    subst h1
    clear hz
    go_enter Tryd.func13, Tryd.ntmps13
    go_wp2_with (rw [HW.out.1, HW.out.2])
    refine (HEN.out _ (HV.out.grown HG0.out)).mono ?_
    rintro e w1 ⟨rfl, g1⟩
    have HG1 := Lib.hid (grownBy_trans HG0.out g1)
    clear g1 x0 x1 x2 x3 x4
    go_wp2_with fail
    go_ret
    exact ⟨rfl, HG1.out⟩
end Go.Proofs.YtemndmhdlgfajaaDoor
