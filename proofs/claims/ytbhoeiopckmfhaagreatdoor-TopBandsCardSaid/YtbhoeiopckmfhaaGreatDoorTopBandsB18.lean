/- trans's Check, of what Make makes. · trans's Check, whole. -/
import Derived.Test.YtbhoeiopckmfhaaGreatDoorTrF
namespace Go.Proofs.YtbhoeiopckmfhaaGreatDoor
open Go.RowKit Go.Maps
attribute [local irreducible] shaL

theorem nodeAt_band (M : List PairS) (k : ByteArray) (d : Nat) : nodeAt M k d = nodeB M d (bandN k d) := by
  unfold nodeAt nodeB
  congr 1
  unfold startM bandS
  refine List.filter_congr fun x _ => ?_
  rw [Bool.eq_iff_iff, belowB_iff, beq_iff_eq]
  constructor
  · intro h
    exact bandN_same x.1 k d h
  · intro h i hi
    rw [← bandN_bit x.1 d i hi, ← bandN_bit k d i hi, h]
set_option maxRecDepth 100000 in
theorem scheck1_any (k v : ByteArray) (p0 p1 p2 p3 : Value) (hk : k.size = 16) (d : Nat) (hd : d ≤ 4) (B1 : Nat) (w : World) (h1 : w.cell? ⟨B1, 0, none⟩ = some (.int .i64 (bandN k d : Nat))) (h2 : w.cell? ⟨B1, 1, none⟩ = some (.int .i64 d)) :
    Calls Tryz.prog 71 #[.agg #[.string k, .string v, p0, p1, p2, p3], .pointer (some ⟨B1, 0, none⟩)] w fun e w' => e = .returned (.bool false) ∧ w.grownBy w' none := by
  have HC := Lib.hid (fun w' => tisOf_any k v hk d hd w')
  generalize bandN k d = b at HC h1
  have hA := World.grownBy_alloc w (.cells #[.string k, .string v, p0, p1, p2, p3] 148) none
  have hb := heap_alloc_at w (.cells #[.string k, .string v, p0, p1, p2, p3] 148) _ rfl
  have h1 := hA.cell h1 (by simp)
  have h2 := hA.cell h2 (by simp)
  obtain ⟨W, hW⟩ : ∃ W, w.alloc (.cells #[.string k, .string v, p0, p1, p2, p3] 148) = W := ⟨_, rfl⟩
  rw [hW] at hA hb h1 h2
  have c0 := cell_of hb 0
  have c1 := cell_of hb 1
  simp at c0 c1
  have HA := Lib.hid hA
  have HW := Lib.hid hW
  clear hA hb hW
  go_enter Tryz.func71, Tryz.ntmps71
  go_wp2_with (rw [HW.out])
  refine (HC.out _).mono ?_
  rintro e w1 ⟨rfl, g1⟩
  go_wp2_with fail
  go_ret
  exact ⟨by simp, grownBy_trans HA.out g1⟩
theorem StepsAt.len {d : Nat} {w : World} {a : Option Addr} {n c : Nat} {S : List StepS} (h : StepsAt d w (.slice a n c) S) : S.length = n := by
  obtain ⟨_, _, e, _⟩ := h
  injection e with _ e _
  exact e.symm
/-- a step's six cells -/
theorem StepsAt.cells {d : Nat} {w : World} {a : Option Addr} {n c : Nat} {S : List StepS} (h : StepsAt d w (.slice a n c) S) (k : Nat) (hk : k < S.length) : ∃ g o, a = some ⟨g, o, none⟩ ∧
    w.cell? ⟨g, o + k * 6, none⟩ = some (.string S[k].k) ∧ w.cell? ⟨g, o + k * 6 + 1, none⟩ = some (.string S[k].v) ∧ w.cell? ⟨g, o + k * 6 + 2, none⟩ = some S[k].bv ∧ w.cell? ⟨g, o + k * 6 + 3, none⟩ = some (.bool (decide (restT S[k].M S[k].k d ≠ []))) ∧
    w.cell? ⟨g, o + k * 6 + 4, none⟩ = some (.string (keyOf (restT S[k].M S[k].k d))) ∧ w.cell? ⟨g, o + k * 6 + 5, none⟩ = some (.string (valOf (restT S[k].M S[k].k d))) := by
  obtain ⟨a', c', e, h⟩ := h
  injection e with e _ _
  obtain ⟨g, o, h1, h2⟩ := h k hk
  exact ⟨g, o, by rw [e, h1], h2 0 _ rfl, by rw [Nat.add_assoc]; exact h2 1 _ rfl, by rw [Nat.add_assoc]; exact h2 2 _ rfl, by rw [Nat.add_assoc]; exact h2 3 _ rfl, by rw [Nat.add_assoc]; exact h2 4 _ rfl, by rw [Nat.add_assoc]; exact h2 5 _ rfl⟩
set_option maxRecDepth 100000 in
set_option maxHeartbeats 1600000 in
theorem sindex_any (a : Option Addr) (n c : Nat) (S : List StepS) (d : Nat) (w : World) (c1 : Value) (hv : StepsAt d w (.slice a n c) S) (hn : n ≤ 1000000)
    (hF : ∀ (s : StepS) (w' : World), s ∈ S → w.grownBy w' none → Calls Tryz.prog 71 #[.agg #[.string s.k, .string s.v, s.bv, .bool (decide (restT s.M s.k d ≠ [])), .string (keyOf (restT s.M s.k d)), .string (valOf (restT s.M s.k d))], c1] w' fun e w'' => e = .returned (.bool false) ∧ w'.grownBy w'' none) :
    Calls Tryz.prog 114 #[.slice a n c, .func (Fn.func 71) #[] #[c1]] w fun e w' => e = .returned (.int .i64 (-1)) ∧ w.grownBy w' none := by
  have hln : S.length = n := hv.len
  have HV := Lib.hid hv
  have HF := Lib.hid hF
  have HLN := Lib.hid hln
  clear hv hF hln
  go_enter Tryz.func114, Tryz.ntmps114
  go_wp2_with fail
  go_loopw [5, 8] (fun _ iv wr => ∃ k : Nat, k ≤ n ∧ iv = .int .i64 k ∧ Hid (w.grownBy wr none)) (fun _ iv _ => n - (intOf iv).toNat)
  case atStart => exact ⟨0, Nat.zero_le _, rfl, World.grownBy.refl _ _⟩
  case round =>
    obtain ⟨k, hk, rfl, HG⟩ := hrel
    by_cases hlt : k < n
    · have d1 : (k : Int) < (n : Int) := by omega
      have d0 : (0 : Int) ≤ (k : Int) := by omega
      have hkl : k < S.length := by have := HLN.out; omega
      obtain ⟨g, o, rfl, h0, h1, h2, h3, h4, h5⟩ := HV.out.cells k hkl
      have q0 := HG.out.cell h0 (by simp)
      have q1 := HG.out.cell h1 (by simp)
      have q2 := HG.out.cell h2 (by simp)
      have q3 := HG.out.cell h3 (by simp)
      have q4 := HG.out.cell h4 (by simp)
      have q5 := HG.out.cell h5 (by simp)
      have HFX := Lib.hid (HF.out S[k] wr (List.getElem_mem hkl) HG.out)
      generalize S[k].k = x0 at HFX q0 q4 q5 q3
      generalize S[k].v = x1 at HFX q1
      generalize S[k].bv = x2 at HFX q2
      generalize decide (restT S[k].M x0 d ≠ []) = x3 at HFX q3
      generalize keyOf (restT S[k].M x0 d) = x4 at HFX q4
      generalize valOf (restT S[k].M x0 d) = x5 at HFX q5
      clear h0 h1 h2 h3 h4 h5
      go_wp2_with fail
      refine HFX.out.mono ?_
      rintro e w3 ⟨rfl, g3⟩
      have HG3 := Lib.hid (grownBy_trans HG.out g3)
      clear g3
      go_wp2_with fail
      go_roundw
      case rel => exact ⟨k + 1, by omega, by go_num, HG3⟩
      case measure => simp [intOf]; omega
    · have hkn : k = n := by omega
      have d1 : ¬ (k : Int) < (n : Int) := by omega
      clear hkn
      go_wp2_with fail
      go_ret
      exact ⟨rfl, HG.out⟩
set_option maxRecDepth 100000 in
set_option maxHeartbeats 1600000 in
theorem scontains_any (a : Option Addr) (n c : Nat) (S : List StepS) (d : Nat) (w : World) (c1 : Value) (hv : StepsAt d w (.slice a n c) S) (hn : n ≤ 1000000)
    (hF : ∀ (s : StepS) (w' : World), s ∈ S → w.grownBy w' none → Calls Tryz.prog 71 #[.agg #[.string s.k, .string s.v, s.bv, .bool (decide (restT s.M s.k d ≠ [])), .string (keyOf (restT s.M s.k d)), .string (valOf (restT s.M s.k d))], c1] w' fun e w'' => e = .returned (.bool false) ∧ w'.grownBy w'' none) :
    Calls Tryz.prog 72 #[.slice a n c, .func (Fn.func 71) #[] #[c1]] w fun e w' => e = .returned (.bool false) ∧ w.grownBy w' none := by
  have H := Lib.hid (sindex_any a n c S d w c1 hv hn hF)
  clear hv hF
  go_enter Tryz.func72, Tryz.ntmps72
  go_wp2_with fail
  refine H.out.mono ?_
  rintro e w1 ⟨rfl, g1⟩
  go_wp2_with fail
  go_ret
  exact ⟨rfl, g1⟩
end Go.Proofs.YtbhoeiopckmfhaaGreatDoor

namespace Go.Proofs.YtbhoeiopckmfhaaGreatDoor
open Go.RowKit Go.Maps
attribute [local irreducible] shaL

/-- the node behind k steps -/
def nodeK (M : List PairS) (d b : Nat) (S : List StepS) (k : Nat) : ByteArray := nodeB (putsM M (kvS (S.take k))) d b
theorem nodeK_zero (M : List PairS) (d b : Nat) (S : List StepS) : nodeK M d b S 0 = nodeB M d b := rfl
theorem nodeK_all (M : List PairS) (d b : Nat) (S : List StepS) : nodeK M d b S S.length = nodeB (putsM M (kvS S)) d b := by unfold nodeK; rw [List.take_length]
theorem StepsOk.at {w : World} {M : List PairS} {d b : Nat} {S : List StepS} (h : StepsOk w M d b S) (k : Nat) (hk : k < S.length) : nodeAt S[k].M S[k].k d = nodeK M d b S k ∧ nodeAt (setM S[k].M (S[k].k, S[k].v)) S[k].k d = nodeK M d b S (k + 1) := by
  have hb := h.band S[k] (List.getElem_mem hk)
  have hm := h.m k hk
  refine ⟨?_, ?_⟩
  · rw [nodeAt_band, hb, hm]; rfl
  · rw [nodeAt_band, hb, hm]
    unfold nodeK kvS
    rw [List.take_succ_eq_append_getElem hk, List.map_append, List.map_singleton, putsM_snoc]
set_option maxRecDepth 100000 in
set_option maxHeartbeats 3200000 in
theorem tcheck_any (w : World) (M : List PairS) (b d : Nat) (S : List StepS) (sv : Value) (nw : ByteArray) (hok : StepsOk w M d b S) (hst : StepsAt d w sv S) (hn : S.length ≤ 256) (hd : d ≤ 4) (hb : b < 2 ^ d) :
    Calls Tryz.prog 32 #[.agg #[.int .i64 b, .int .i64 d, .string (nodeB M d b), .string nw, sv]] w fun e w' => e = .returned (.int .i64 (if nodeB (putsM M (kvS S)) d b = nw then 0 else 15)) ∧ w.grownBy w' none := by
  obtain ⟨a, n, c, rfl⟩ : ∃ a n c, sv = .slice a n c := by obtain ⟨a, c, e, _⟩ := hst; exact ⟨a, _, c, e⟩
  have hln : S.length = n := hst.len
  have hDM := Lib.hid (fun w' => tdepth_any d hd w')
  have hIB := Lib.hid (fun w' => tisBand_any b d hb hd w')
  have hA := World.grownBy_alloc w (.cells #[.int .i64 (b : Nat), .int .i64 (d : Nat), .string (nodeB M d b), .string nw, .slice a n c] 57) none
  have hb1 := heap_alloc_at w (.cells #[.int .i64 (b : Nat), .int .i64 (d : Nat), .string (nodeB M d b), .string nw, .slice a n c] 57) _ rfl
  obtain ⟨XB, hXB⟩ : ∃ XB, w.heap.size = XB := ⟨_, rfl⟩
  obtain ⟨W, hW⟩ : ∃ W, w.alloc (.cells #[.int .i64 (b : Nat), .int .i64 (d : Nat), .string (nodeB M d b), .string nw, .slice a n c] 57) = W := ⟨_, rfl⟩
  rw [hW] at hA hb1
  rw [hXB] at hb1
  have HB := Lib.hid hb1
  have HA := Lib.hid hA
  have HST := Lib.hid (hst.grown hA)
  have HOK := Lib.hid (hok.grown hA)
  have HSC := Lib.hid (fun (w' : World) (k : W.grownBy w' none) => scontains_any a n c S d w' (.pointer (some ⟨XB, 0, none⟩)) ((hst.grown hA).grown k) (by omega) (fun s w2 hs g2 => by
    have q := cells5 ((grownBy_trans k g2).heap hb1 (by simp))
    have hbd := hok.band s hs
    exact scheck1_any s.k s.v _ _ _ _ (hok.own s hs).k16 d hd XB w2 (by rw [hbd]; exact q.1) q.2.1))
  have hN0 : Hid (nodeB M d b = nodeK M d b S 0) := Lib.hid (nodeK_zero M d b S).symm
  have hN1 : Hid (nodeK M d b S n = nodeB (putsM M (kvS S)) d b) := Lib.hid (by rw [← hln]; exact nodeK_all M d b S)
  have HLN := Lib.hid hln
  have d256 : ¬ (256 : Int) < (n : Int) := by omega
  have HD := Lib.hid (And.intro hd hb)
  rw [← hN1.out]
  obtain ⟨RR, hRR⟩ : ∃ R : Int, (if nodeK M d b S n = nw then 0 else 15) = R := ⟨_, rfl⟩
  rw [hRR]
  have HRR := Lib.hid hRR
  generalize hOD : nodeB M d b = OD at hb1 HB hN0 hW ⊢
  obtain ⟨x0, x1, x2, x3, x4⟩ := cells5 hb1
  have HW := Lib.hid hW
  clear hOD hst hok hA hW hb1 hln hn hd hb hRR
  go_enter Tryz.func32, Tryz.ntmps32
  go_wp2_with (first | rw [HW.out] | rw [hXB])
  refine (hDM.out _).mono ?_
  rintro e w1 ⟨rfl, g1⟩
  have q := cells5 (g1.heap HB.out (by simp))
  have y0 := q.1
  have y1 := q.2.1
  have y2 := q.2.2.1
  have y4 := q.2.2.2.2
  have HG1 := Lib.hid g1
  clear x0 x1 x2 x3 x4 q g1 hDM
  go_wp2_with fail
  refine (hIB.out _).mono ?_
  rintro e w2 ⟨rfl, g2⟩
  have HG2 := Lib.hid (grownBy_trans HG1.out g2)
  have q := cells5 (HG2.out.heap HB.out (by simp))
  have z0 := q.1
  have z1 := q.2.1
  have z2 := q.2.2.1
  have z4 := q.2.2.2.2
  clear y0 y1 y2 y4 q g2 hIB HG1
  go_wp2_with fail
  refine (HSC.out _ HG2.out).mono ?_
  rintro e w3 ⟨rfl, g3⟩
  have HG3 := Lib.hid (grownBy_trans HG2.out g3)
  have q := cells5 (HG3.out.heap HB.out (by simp))
  have cx0 := q.1
  have cx1 := q.2.1
  have cx2 := q.2.2.1
  have cx3 := q.2.2.2.1
  have cx4 := q.2.2.2.2
  clear z0 z1 z2 z4 q g3 HSC HG2
  go_wp2_with fail
  go_loopw [4, 35] (fun nv iv wr => ∃ k : Nat, k ≤ n ∧ iv = .int .i64 k ∧ nv = .string (nodeK M d b S k) ∧ Hid (w3.grownBy wr none)) (fun _ iv _ => n - (intOf iv).toNat)
  case atStart => exact ⟨0, Nat.zero_le _, rfl, by rw [← hN0.out], World.grownBy.refl _ _⟩
  case round =>
    obtain ⟨k, hk, rfl, rfl, HG⟩ := hrel
    have HGW := Lib.hid (grownBy_trans HG3.out HG.out)
    by_cases hlt : k < n
    · have d1 : (k : Int) < (n : Int) := by omega
      have d0 : (0 : Int) ≤ (k : Int) := by omega
      have hkl : k < S.length := by have := HLN.out; omega
      obtain ⟨g, o, rfl, h0, h1, h2, h3, h4, h5⟩ := (HST.out.grown HGW.out).cells k hkl
      have ho := (HOK.out.own S[k] (List.getElem_mem hkl)).grown HGW.out
      have hat := HOK.out.at k hkl
      have hvs := HOK.out.vals S[k] (List.getElem_mem hkl)
      have HAF := Lib.hid (fun (w' : World) (q : wr.grownBy w' none) => (ho.grown q).after S[k].v hvs)
      have HND := Lib.hid (fun (w' : World) (q : wr.grownBy w' none) => (ho.grown q).node)
      rw [hat.1] at HND
      rw [hat.2] at HAF
      have hls : ∀ x : ByteArray, (x.toList == x.toList) = true := fun x => by simp
      have hl0 := hls (nodeK M d b S k)
      obtain ⟨N1, hN1⟩ : ∃ N, nodeK M d b S (k + 1) = N := ⟨_, rfl⟩
      rw [hN1] at HAF
      have HN1 := Lib.hid hN1
      generalize nodeK M d b S k = N0 at HND hl0 ⊢
      have xe : restT S[k].M S[k].k d = restT S[k].M S[k].k d := rfl
      generalize hK0 : S[k].k = x0 at HAF HND h0 h3 h4 h5
      generalize S[k].v = x1 at HAF h1
      obtain ⟨ba, bn, bc, hbv⟩ := ho.slice
      rw [hbv] at HAF HND h2
      generalize decide (restT S[k].M x0 d ≠ []) = x3 at HAF HND h3
      generalize keyOf (restT S[k].M x0 d) = x4 at HAF HND h4
      generalize valOf (restT S[k].M x0 d) = x5 at HAF HND h5
      have hA := World.grownBy_alloc wr (.cells #[.string x0, .string x1, .slice ba bn bc, .bool x3, .string x4, .string x5] 148) none
      have hZ := heap_alloc_at wr (.cells #[.string x0, .string x1, .slice ba bn bc, .bool x3, .string x4, .string x5] 148) _ rfl
      have hX := hA.heap (HGW.out.heap HB.out (by simp)) (by simp)
      obtain ⟨WA, hWA⟩ : ∃ WA, wr.alloc (.cells #[.string x0, .string x1, .slice ba bn bc, .bool x3, .string x4, .string x5] 148) = WA := ⟨_, rfl⟩
      obtain ⟨SB, hSB⟩ : ∃ SB, wr.heap.size = SB := ⟨_, rfl⟩
      rw [hWA] at hA hZ hX
      rw [hSB] at hZ
      have HA2 := Lib.hid hA
      have HX := Lib.hid hX
      have HZ := Lib.hid hZ
      have HWA := Lib.hid hWA
      obtain ⟨p0, p1, p2, p3, p4, p5⟩ := cells6 hZ
      have q1 := (cells5 hX).2.1
      clear ho hat hvs hls hN1 xe hK0 hbv hA hZ hX hWA cx0 cx1 cx2 cx3 cx4
      go_wp2_with (first | rw [HWA.out] | rw [hSB])
      refine (HAF.out _ HA2.out).mono ?_
      rintro e w5 ⟨rfl, g5⟩
      have HG5 := Lib.hid (grownBy_trans HA2.out g5)
      obtain ⟨r0, r1, r2, r3, r4, r5⟩ := cells6 (g5.heap HZ.out (by simp))
      have r6 := (cells5 (g5.heap HX.out (by simp))).2.1
      clear p0 p1 p2 p3 p4 p5 q1 h0 h1 h2 h3 h4 h5 g5
      go_wp2_with fail
      refine (HND.out _ HG5.out).mono ?_
      rintro e w6 ⟨rfl, g6⟩
      have HG6 := Lib.hid (grownBy_trans HG.out (grownBy_trans HG5.out g6))
      clear r0 r1 r2 r3 r4 r5 r6 g6
      go_wp2_with fail
      go_roundw
      case rel => exact ⟨k + 1, by omega, by go_num, by rw [HN1.out], HG6⟩
      case measure => simp [intOf]; omega
    · have hkn : k = n := by omega
      have d1 : ¬ (k : Int) < (n : Int) := by omega
      have HE : Hid (nodeK M d b S k = nodeK M d b S n) := Lib.hid (by rw [hkn])
      rw [HE.out]
      have y3 := HG.out.cell cx3 (by simp)
      have heq := eq_str (nodeK M d b S n) nw
      have HGF := Lib.hid (grownBy_trans HA.out HGW.out)
      have HRR := HRR
      generalize nodeK M d b S n = NN at heq HRR ⊢
      clear hkn cx0 cx1 cx2 cx3 cx4
      by_cases hnn : NN = nw
      · have eq1 : (NN.toList == nw.toList) = true := by rw [heq]; simpa using hnn
        clear heq
        go_wp2_with fail
        go_ret
        exact ⟨by have h := HRR.out; simp only [hnn, if_true, if_false] at h; rw [← h]; first | rfl | simp, HGF.out⟩
      · have eq1 : (NN.toList == nw.toList) = false := by rw [heq]; simpa using hnn
        clear heq
        go_wp2_with fail
        go_ret
        exact ⟨by have h := HRR.out; simp only [hnn, if_true, if_false] at h; rw [← h]; first | rfl | simp, HGF.out⟩
end Go.Proofs.YtbhoeiopckmfhaaGreatDoor
