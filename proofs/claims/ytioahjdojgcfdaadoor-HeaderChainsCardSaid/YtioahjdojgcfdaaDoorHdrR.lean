/- The walks of the document's Encode and Digest of a header. -/
import Derived.Test.YtioahjdojgcfdaaDoorHeaderChainsB4
import Derived.Test.YtioahjdojgcfdaaDoorHeaderChainsB6
import Derived.Test.YtioahjdojgcfdaaDoorHeaderChainsB2
import Derived.Test.YtioahjdojgcfdaaDoorRefTag
import Derived.Deep.RegionHeld3
namespace Go.Proofs.YtioahjdojgcfdaaDoor
open Go.RowKit
attribute [local irreducible] shaL

theorem conv2 (w : World) (k j : Nat) (hk : k < 256) (hj : j < 256) (b : Nat) (h : w.heap[b]? = some (.cells #[.int .u8 (k : Int), .int .u8 (j : Int)] 5 (0, 0))) :
    (convert 57 9 (.slice (some ⟨b, 0, none⟩) 2 2)).run Tryd.prog w = .ok (.string (str (be k 1 ++ be j 1))) w := by
  have e : (#[.int .u8 (k : Int), .int .u8 (j : Int)] : Array Value) = (u8s (be k 1 ++ be j 1)).toArray := by
    have h1 : be k 1 = [UInt8.ofNat (k % 256)] := by simp [be]
    have h1' : be j 1 = [UInt8.ofNat (j % 256)] := by simp [be]
    have h2 : (UInt8.ofNat (k % 256)).toNat = k := by simp; omega
    have h2' : (UInt8.ofNat (j % 256)).toNat = j := by simp; omega
    rw [h1, h1']
    show _ = (List.map (fun c : UInt8 => Value.int .u8 c.toNat) [_, _]).toArray
    simp only [List.map_cons, List.map_nil, h2, h2']
  rw [e] at h
  have hl : (be k 1 ++ be j 1).length = 2 := by rw [List.length_append, be_length, be_length]
  have := row_string h 2
  rwa [hl] at this
theorem refNum2 (v : Nat) (hv : v ≤ 65535) (w : World) :
    Calls Tryd.prog 73 #[.int .u64 v, .int .i64 2] w fun e w' => e = .returned (.string (str (be v 2))) ∧ w.grownBy w' none := by
  have h := refNum_any v (by omega) 2 (by omega) w
  unfold refNum at h
  rwa [if_pos ⟨by omega, by omega, by show v < 65536; omega⟩] at h
theorem nodeOk_else {s : ByteArray} (h0 : s ≠ ⟨#[0]⟩) (h17 : s.size ≠ 17) : nodeOk s = false := by
  unfold nodeOk
  rw [decide_eq_false h0, decide_eq_false h17]
  rfl
set_option maxRecDepth 100000 in
set_option maxHeartbeats 6400000 in
theorem ref19enc_any (x : HdrS) (hx : x.small) (v : Value) (w : World) (hv : StrsAt w v x.L) :
    Calls Tryd.prog 25 #[x.val v] w fun e w' => e = .returned (.tuple #[.string x.enc, .int .i64 x.err]) ∧ w.grownBy w' none := by
  obtain ⟨a, cap, rfl⟩ := hv.form
  obtain ⟨e, p, d, au, L⟩ := x
  obtain ⟨he, hp, hn, hs⟩ := hx
  have he : e ≤ 18446744073709551615 := he
  have hp : p.size ≤ 100000 := hp
  have hn : L.length ≤ 100000 := hn
  have hs : ∀ s ∈ L, s.size ≤ 100000 := hs
  have hv : StrsAt w (.slice a L.length cap) L := hv
  unfold HdrS.val
  simp only
  have HV := Lib.hid hv
  have HS := Lib.hid hs
  obtain ⟨n, hnn⟩ : ∃ n, L.length = n := ⟨_, rfl⟩
  rw [hnn] at hn HV ⊢
  have HN := Lib.hid hnn
  have hb0 := heap_alloc_at w (.cells #[.int .u64 e, .string p, .int .i64 d, .int .i64 au, .slice a n cap] 66) _ rfl
  have hg0 : w.grownBy (w.alloc (.cells #[.int .u64 e, .string p, .int .i64 d, .int .i64 au, .slice a n cap] 66)) none := World.grownBy_alloc _ _ _
  obtain ⟨W0, hW0⟩ : ∃ W0, w.alloc (.cells #[.int .u64 e, .string p, .int .i64 d, .int .i64 au, .slice a n cap] 66) = W0 := ⟨_, rfl⟩
  obtain ⟨XB, hXB⟩ : ∃ XB, w.heap.size = XB := ⟨_, rfl⟩
  rw [hW0] at hb0 hg0
  rw [hXB] at hb0
  obtain ⟨x0, x1, x2, x3, x4⟩ := cells5 hb0
  have HB0 := Lib.hid hb0
  have HG0 := Lib.hid hg0
  have HW := Lib.hid (And.intro hW0 hXB)
  clear hb0 hg0 hW0 hXB hv hs
  obtain ⟨z, hz⟩ : ∃ z, (⟨e, p, d, au, L⟩ : HdrS).err = z := ⟨_, rfl⟩
  obtain ⟨E, hE⟩ : ∃ E, (⟨e, p, d, au, L⟩ : HdrS).enc = E := ⟨_, rfl⟩
  have hE0 : z ≠ 0 → E = ⟨#[]⟩ := fun h => by rw [← hE]; unfold HdrS.enc; rw [if_neg (by rw [hz]; exact h)]
  have hE1 : z = 0 → E = str (⟨e, p, d, au, L⟩ : HdrS).bytes := fun h => by rw [← hE]; unfold HdrS.enc; rw [if_pos (by rw [hz]; exact h)]
  rw [hz, hE]
  clear hE
  by_cases hwd : (⟨e, p, d, au, L⟩ : HdrS).wide
  · have hzz : z = 10 := by rw [← hz]; unfold HdrS.err; rw [if_pos hwd]
    subst hzz
    have hEE := hE0 (by decide)
    subst hEE
    clear hE0 hE1 hz
    have hways : 4294967295 < e ∨ (¬ 4294967295 < e ∧ p.size ≠ 16) ∨ (¬ 4294967295 < e ∧ p.size = 16 ∧ d < 0) ∨ (¬ 4294967295 < e ∧ p.size = 16 ∧ ¬ d < 0 ∧ 4 < d) ∨ (¬ 4294967295 < e ∧ p.size = 16 ∧ ¬ d < 0 ∧ ¬ 4 < d ∧ au < 0) ∨ (¬ 4294967295 < e ∧ p.size = 16 ∧ ¬ d < 0 ∧ ¬ 4 < d ∧ ¬ au < 0 ∧ 64 < au) := by
      unfold HdrS.wide at hwd
      simp only at hwd
      omega
    clear hwd
    rcases hways with a1 | ⟨a1, a2⟩ | ⟨a1, a2, a3⟩ | ⟨a1, a2, a3, a4⟩ | ⟨a1, a2, a3, a4, a5⟩ | ⟨a1, a2, a3, a4, a5, a6⟩
    · have q1 : (e : Int) > 4294967295 := by omega
      clear a1
      go_enter Tryd.func25, Tryd.ntmps25
      go_wp2_with (first | rw [HW.out.1, HW.out.2] | rw [HW.out.1])
      go_returns
      exact ⟨rfl, HG0.out⟩
    · have q1 : ¬ (e : Int) > 4294967295 := by omega
      have s1 : ((p.size : Int) == 16) = false := beq_eq_false_iff_ne.2 (by omega)
      have t1 : ((p.size : Int) != 16) = true := by rw [bne, s1]; rfl
      clear a1
      go_enter Tryd.func25, Tryd.ntmps25
      go_wp2_with (first | rw [HW.out.1, HW.out.2] | rw [HW.out.1])
      go_returns
      exact ⟨rfl, HG0.out⟩
    · have q1 : ¬ (e : Int) > 4294967295 := by omega
      have s1 : ((p.size : Int) == 16) = true := by simp; omega
      have t1 : ((p.size : Int) != 16) = false := by rw [bne, s1]; rfl
      clear a1
      go_enter Tryd.func25, Tryd.ntmps25
      go_wp2_with (first | rw [HW.out.1, HW.out.2] | rw [HW.out.1])
      go_returns
      exact ⟨rfl, HG0.out⟩
    · have q1 : ¬ (e : Int) > 4294967295 := by omega
      have s1 : ((p.size : Int) == 16) = true := by simp; omega
      have t1 : ((p.size : Int) != 16) = false := by rw [bne, s1]; rfl
      have q2 : d > 4 := a4
      clear a1
      go_enter Tryd.func25, Tryd.ntmps25
      go_wp2_with (first | rw [HW.out.1, HW.out.2] | rw [HW.out.1])
      go_returns
      exact ⟨rfl, HG0.out⟩
    · have q1 : ¬ (e : Int) > 4294967295 := by omega
      have s1 : ((p.size : Int) == 16) = true := by simp; omega
      have t1 : ((p.size : Int) != 16) = false := by rw [bne, s1]; rfl
      have q2 : ¬ d > 4 := a4
      clear a1
      go_enter Tryd.func25, Tryd.ntmps25
      go_wp2_with (first | rw [HW.out.1, HW.out.2] | rw [HW.out.1])
      go_returns
      exact ⟨rfl, HG0.out⟩
    · have q1 : ¬ (e : Int) > 4294967295 := by omega
      have s1 : ((p.size : Int) == 16) = true := by simp; omega
      have t1 : ((p.size : Int) != 16) = false := by rw [bne, s1]; rfl
      have q2 : ¬ d > 4 := a4
      have q3 : au > 64 := a6
      clear a1
      go_enter Tryd.func25, Tryd.ntmps25
      go_wp2_with (first | rw [HW.out.1, HW.out.2] | rw [HW.out.1])
      go_returns
      exact ⟨rfl, HG0.out⟩
  · have hwd2 : ¬ 4294967295 < e ∧ p.size = 16 ∧ ¬ d < 0 ∧ ¬ 4 < d ∧ ¬ au < 0 ∧ ¬ 64 < au := by
      unfold HdrS.wide at hwd
      simp only at hwd
      omega
    obtain ⟨w1, w2, w3, w4, w5, w6⟩ := hwd2
    obtain ⟨k, rfl⟩ := Int.eq_ofNat_of_zero_le (show 0 ≤ d by omega)
    obtain ⟨j, rfl⟩ := Int.eq_ofNat_of_zero_le (show 0 ≤ au by omega)
    have hz2 : z = if n ≠ 2 ^ k then 22 else if L.all nodeOk = true then 0 else 4 := by
      rw [← hz]
      unfold HdrS.err
      rw [if_neg hwd]
      show (if L.length ≠ 2 ^ ((k : Int)).toNat then (22 : Int) else if L.all nodeOk = true then 0 else 4) = _
      rw [hnn]
      rfl
    have q1 : ¬ (e : Int) > 4294967295 := by omega
    have s1 : ((p.size : Int) == 16) = true := by simp; omega
    have t1 : ((p.size : Int) != 16) = false := by rw [bne, s1]; rfl
    have q3 : ¬ (k : Int) < 0 := by omega
    have q4 : ¬ (k : Int) > 4 := by omega
    have q5 : ¬ (j : Int) < 0 := by omega
    have q6 : ¬ (j : Int) > 64 := by omega
    have HP := Lib.hid (And.intro (show e ≤ 4294967295 by omega) (And.intro w2 (And.intro (show k ≤ 4 by omega) (show j ≤ 64 by omega))))
    have hE1' : z = 0 → E = str (be e 4 ++ (p.data.toList ++ (be k 1 ++ (be j 1 ++ textsB L)))) := hE1
    have HE := Lib.hid (And.intro hE0 hE1')
    clear w1 w2 w3 w4 w5 w6 hwd hz hE0 hE1 hE1'
    go_enter Tryd.func25, Tryd.ntmps25
    go_wp2_with (first | rw [HW.out.1, HW.out.2] | rw [HW.out.1])
    go_loopw [4, 5] (fun nv iv wr => ∃ i : Nat, i ≤ k ∧ iv = .int .i64 i ∧ nv = .int .i64 (2 ^ i : Nat) ∧ Hid (W0 = wr)) (fun _ iv _ => k - (intOf iv).toNat)
    case atStart => exact ⟨0, Nat.zero_le _, rfl, rfl, rfl⟩
    case round =>
      obtain ⟨i, hi, rfl, rfl, HWR⟩ := hrel
      have hwr := HWR.out
      subst hwr
      by_cases hik : i < k
      · have e1 : (i : Int) < (k : Int) := by omega
        have hp2 : 2 ^ (i + 1) = 2 * 2 ^ i := by rw [Nat.pow_succ, Nat.mul_comm]
        have hp4 : 2 ^ (i + 1) ≤ 16 := pow4 (by have := HP.out.2.2.1; omega)
        generalize 2 ^ i = M at hp2 ⊢
        have HP2 := Lib.hid hp2
        have r1 : IntKind.i64.wrap ((M : Int) * 2) = (M : Int) * 2 := by rw [show (M : Int) * 2 = ((2 * M : Nat) : Int) by omega]; exact IntWalk.i64_in _ (by omega)
        clear hp2
        go_wp2_with fail
        go_roundw
        case rel => exact ⟨i + 1, by omega, by go_num, by rw [HP2.out, Nat.mul_comm]; rfl, by first | exact Lib.hid trivial | exact Lib.hid rfl⟩
        case measure => simp [intOf]; omega
      · have e1 : ¬ (i : Int) < (k : Int) := by omega
        obtain rfl : i = k := by omega
        clear hi hik
        generalize hNN : 2 ^ i = N at hz2 ⊢
        by_cases h7 : n = N
        · have q7 : ((n : Int) != (N : Int)) = false := by simp [h7]
          have q7' : ((n : Int) == (N : Int)) = true := by simp [h7]
          rw [if_neg (by omega)] at hz2
          have HZ := Lib.hid hz2
          have H7 := Lib.hid h7
          have HN16 : Hid (n ≤ 16) := Lib.hid (by rw [h7, ← hNN]; exact pow4 HP.out.2.2.1)
          have HNUM := Lib.hid (fun w' => refNum4 e (by have := HP.out.1; omega) w')
          have hz4 : (str (be e 4)).size = 4 := by rw [str_size, be_length]
          have hzc : (str (be i 1 ++ be j 1)).size = 2 := by rw [str_size, List.length_append, be_length, be_length]
          have hcat : Hid ((str (be e 4) ++ p ++ str (be i 1 ++ be j 1)).data.toList = be e 4 ++ (p.data.toList ++ (be i 1 ++ (be j 1 ++ [])))) := Lib.hid (by
            rw [ByteArray.data_append, ByteArray.data_append, Array.toList_append, Array.toList_append, str_data, str_data]
            simp only [List.append_assoc, List.append_nil])
          have HCV := Lib.hid (fun (w' : World) (b : Nat) (q : w'.heap[b]? = some (.cells #[.int .u8 (i : Int), .int .u8 (j : Int)] 5 (0, 0))) => conv2 w' i j (by have := HP.out.2.2.1; omega) (by have := HP.out.2.2.2; omega) b q)
          have hzp := HP.out.2.1
          generalize str (be e 4) = Z at HNUM hz4 hcat
          generalize str (be i 1 ++ be j 1) = C at HCV hzc hcat
          have HCAT := hcat
          have u1 : (9223372036854775807 < Z.size + p.size) = False := eq_false (by omega)
          have u2 : (9223372036854775807 < Z.size + p.size + C.size) = False := eq_false (by omega)
          have cu1 : IntKind.u8.wrap (i : Int) = (i : Int) := IntWalk.u8_in _ (by have := HP.out.2.2.1; omega)
          have cu2 : IntKind.u8.wrap (j : Int) = (j : Int) := IntWalk.u8_in _ (by have := HP.out.2.2.2; omega)
          clear hz2 h7 hNN hcat hzp hz4 hzc
          go_upto_region 10 with (fail)
          obtain ⟨WA, hWA⟩ : ∃ WA, W0 = WA := ⟨_, rfl⟩
          rw [hWA] at x0 x1 x2 x3 x4 HB0 HG0 ⊢
          have HGA := HG0
          have hcv0 := HCV.out (WA.alloc (.cells #[.int .u8 (i : Int), .int .u8 (j : Int)] 5)).drew WA.heap.size (heap_alloc_at WA _ _ rfl)
          have hcv1 := HCV.out (WA.alloc (.cells #[.int .u8 (i : Int), .int .u8 (j : Int)] 5)) WA.heap.size (heap_alloc_at WA _ _ rfl)
          have hcvN : ∀ w' : World, (convert 57 9 (.slice (some ⟨w'.heap.size, 0, none⟩) 2 2)).run Tryd.prog (w'.alloc (.cells #[.int .u8 (i : Int), .int .u8 (j : Int)] 5)) = .ok (.string C) (w'.alloc (.cells #[.int .u8 (i : Int), .int .u8 (j : Int)] 5)) := fun w' => HCV.out _ _ (heap_alloc_at w' _ _ rfl)
          have hck : ∀ w' : World, WA.grownBy w' none → w'.cell? ⟨XB, 0, none⟩ = some (.int .u64 e) ∧ w'.cell? ⟨XB, 1, none⟩ = some (.string p) ∧ w'.cell? ⟨XB, 2, none⟩ = some (.int .i64 i) ∧ w'.cell? ⟨XB, 3, none⟩ = some (.int .i64 j) := fun w' q => ⟨(cells5 (q.heap HB0.out (by simp))).1, (cells5 (q.heap HB0.out (by simp))).2.1, (cells5 (q.heap HB0.out (by simp))).2.2.1, (cells5 (q.heap HB0.out (by simp))).2.2.2.1⟩
          have HCK := Lib.hid hck
          clear hck
          go_cut [6] (fun sv wx => ∃ S : ByteArray, sv = .string S ∧ Hid (S.data.toList = be e 4 ++ (p.data.toList ++ (be i 1 ++ (be j 1 ++ [])))) ∧ Hid (w.grownBy wx none) ∧ Hid (WA.grownBy wx none))
          case rest =>
            as_aux_lemma =>
              rename World => wx
              obtain ⟨SV0, rfl, HI0, HGX, HGY⟩ := hcut
              have HBX0 := Lib.hid (HGY.out.heap HB0.out (by simp))
              have HBX : Hid (wx.heap[XB]? = some (.cells #[.int .u64 e, .string p, .int .i64 i, .int .i64 j, .slice a n cap] 66 (0, 0))) := HBX0
              obtain ⟨k, hk⟩ : ∃ k, i = k := ⟨_, rfl⟩
              rw [hk] at HI0 HP HBX HE ⊢
              clear x0 x1 x2 x3 x4 u1 u2 cu1 cu2 hcv0 hcv1 hcvN HCK HNUM HCV HCAT hk HB0 HBX0
              go_wp2_with fail
              go_loopw [6, 7] (fun sv iv wr => ∃ (i : Nat) (SV : ByteArray), i ≤ n ∧ sv = .string SV ∧ iv = .int .i64 i ∧ Hid (SV.data.toList = be e 4 ++ (p.data.toList ++ (be k 1 ++ (be j 1 ++ textsB (L.take i))))) ∧ Hid ((L.take i).all nodeOk = true) ∧ Hid (wx.grownBy wr none)) (fun _ iv _ => n - (intOf iv).toNat)
              case atStart => exact ⟨0, SV0, Nat.zero_le _, rfl, rfl, HI0, rfl, World.grownBy.refl _ _⟩
              case round =>
                obtain ⟨i, SV, hi, rfl, rfl, HI, HK, HGR⟩ := hrel
                have HG := Lib.hid (grownBy_trans HGX.out HGR.out)
                by_cases hlt : i < n
                · have d1 : (i : Int) < (n : Int) := by omega
                  have d2 : (i : Int) < (N : Int) := by have := H7.out; omega
                  have d0 : (0 : Int) ≤ (i : Int) := by omega
                  have hil : i < L.length := by have := HN.out; omega
                  obtain ⟨s, hs⟩ : ∃ s, L[i]? = some s := ⟨_, List.getElem?_eq_getElem hil⟩
                  obtain ⟨g, o, rfl, c1⟩ := (HV.out.grown HG.out).at_ i s hs
                  have htk : L.take (i + 1) = L.take i ++ [s] := by rw [List.take_add_one, hs]; rfl
                  have hno : nodeOk s = false → z = 4 := fun h => by
                    rw [HZ.out, if_neg]
                    intro q
                    have := List.all_eq_true.1 q s (List.mem_of_getElem? hs)
                    rw [h] at this
                    cases this
                  have hss := HS.out s (List.mem_of_getElem? hs)
                  have HT := Lib.hid (And.intro htk hno)
                  obtain ⟨x0, x1, x2, x3, x4⟩ := cells5 (HGR.out.heap HBX.out (by simp))
                  have e0 := one0 s
                  clear hs htk hno
                  by_cases h0 : s = ⟨#[0]⟩
                  · have e1 : (s.toList == [0]) = true := by rw [e0]; simpa using h0
                    have e2 : (s.toList != [0]) = false := by rw [bne, e1]; rfl
                    have hok : nodeOk s = true := by unfold nodeOk; rw [decide_eq_true h0, Bool.true_or]
                    clear e0 h0
                    have HNM := Lib.hid (fun w' => refNum2 s.size (by have := nodeOk_size hok; omega) w')
                    have hzn : (str (be s.size 2)).size = 2 := by rw [str_size, be_length]
                    have hcat : (SV ++ (str (be s.size 2) ++ s)).data.toList = be e 4 ++ (p.data.toList ++ (be k 1 ++ (be j 1 ++ textsB (L.take (i + 1))))) := by
                      rw [HT.out.1, textsB_snoc, ByteArray.data_append, ByteArray.data_append, Array.toList_append, Array.toList_append, HI.out, str_data]
                      simp only [List.append_assoc]
                      rfl
                    have hsz : SV.size ≤ 1000 := by
                      have h1 : SV.data.toList.length = SV.size := Array.length_toList
                      rw [← h1, HI.out]
                      have h2 := textsB_17 (L.take i) (fun s hs => nodeOk_size (List.all_eq_true.1 HK.out s hs))
                      have h3 := List.length_take_le i L
                      have h5 := HN16.out
                      have h6 := HN.out
                      have h4 : p.data.toList.length = 16 := by rw [Array.length_toList]; exact HP.out.2.1
                      simp only [List.length_append, be_length, h4]
                      omega
                    generalize str (be s.size 2) = Z at HNM hzn hcat
                    have HCAT := Lib.hid hcat
                    have u1 : (9223372036854775807 < Z.size + s.size) = False := eq_false (by omega)
                    have u2 : (9223372036854775807 < SV.size + (Z.size + s.size)) = False := eq_false (by omega)
                    have u3 : IntKind.u64.wrap (s.size : Int) = (s.size : Int) := IntWalk.u64_in _ (by omega)
                    clear hcat hsz HI hzn
                    go_wp2_with fail
                    refine (HNM.out _).mono ?_
                    rintro e w2 ⟨rfl, g2⟩
                    have G2 := Lib.hid (grownBy_trans HGR.out g2)
                    clear g2 HG c1 HNM
                    go_wp2_with fail
                    go_roundw
                    case rel => exact ⟨i + 1, _, by omega, rfl, by go_num, Lib.hid HCAT.out, Lib.hid (by show (L.take (i + 1)).all nodeOk = true; rw [HT.out.1, List.all_append, HK.out]; simpa using hok), G2.out⟩
                    case measure => simp [intOf]; omega
                  · have e1 : (s.toList == [0]) = false := by rw [e0]; simpa using h0
                    have e2 : (s.toList != [0]) = true := by rw [bne, e1]; rfl
                    by_cases h17 : s.size = 17
                    · have hp0 : 0 < s.size := by omega
                      have hok17 := nodeOk_17 h17 hp0
                      have f1 : ((s.size : Int) == 17) = true := by rw [h17]; rfl
                      have f2 : ((s.size : Int) != 17) = false := by rw [bne, f1]; rfl
                      have f3 : (0 : Int) < (s.size : Int) := by omega
                      obtain ⟨c, hc⟩ : ∃ c, s[0].toNat = c := ⟨_, rfl⟩
                      rw [hc] at hok17
                      clear e0 h0 h17
                      by_cases c1' : c = 1
                      · have r1 : ((c : Int) == 1) = true := by simp [c1']
                        have r2 : ((c : Int) != 1) = false := by rw [bne, r1]; rfl
                        have hok : nodeOk s = true := by rw [hok17, c1']; rfl
                        clear hok17 c1'
                        have HNM := Lib.hid (fun w' => refNum2 s.size (by have := nodeOk_size hok; omega) w')
                        have hzn : (str (be s.size 2)).size = 2 := by rw [str_size, be_length]
                        have hcat : (SV ++ (str (be s.size 2) ++ s)).data.toList = be e 4 ++ (p.data.toList ++ (be k 1 ++ (be j 1 ++ textsB (L.take (i + 1))))) := by
                          rw [HT.out.1, textsB_snoc, ByteArray.data_append, ByteArray.data_append, Array.toList_append, Array.toList_append, HI.out, str_data]
                          simp only [List.append_assoc]
                          rfl
                        have hsz : SV.size ≤ 1000 := by
                          have h1 : SV.data.toList.length = SV.size := Array.length_toList
                          rw [← h1, HI.out]
                          have h2 := textsB_17 (L.take i) (fun s hs => nodeOk_size (List.all_eq_true.1 HK.out s hs))
                          have h3 := List.length_take_le i L
                          have h5 := HN16.out
                          have h6 := HN.out
                          have h4 : p.data.toList.length = 16 := by rw [Array.length_toList]; exact HP.out.2.1
                          simp only [List.length_append, be_length, h4]
                          omega
                        generalize str (be s.size 2) = Z at HNM hzn hcat
                        have HCAT := Lib.hid hcat
                        have u1 : (9223372036854775807 < Z.size + s.size) = False := eq_false (by omega)
                        have u2 : (9223372036854775807 < SV.size + (Z.size + s.size)) = False := eq_false (by omega)
                        have u3 : IntKind.u64.wrap (s.size : Int) = (s.size : Int) := IntWalk.u64_in _ (by omega)
                        clear hcat hsz HI hzn
                        go_wp2_with (rw [hc])
                        refine (HNM.out _).mono ?_
                        rintro e w2 ⟨rfl, g2⟩
                        have G2 := Lib.hid (grownBy_trans HGR.out g2)
                        clear g2 HG c1 HNM
                        go_wp2_with fail
                        go_roundw
                        case rel => exact ⟨i + 1, _, by omega, rfl, by go_num, Lib.hid HCAT.out, Lib.hid (by show (L.take (i + 1)).all nodeOk = true; rw [HT.out.1, List.all_append, HK.out]; simpa using hok), G2.out⟩
                        case measure => simp [intOf]; omega
                      · have r1 : ((c : Int) == 1) = false := by rw [beq_eq_false_iff_ne]; omega
                        have r2 : ((c : Int) != 1) = true := by rw [bne, r1]; rfl
                        by_cases c2' : c = 2
                        · have r3 : ((c : Int) == 2) = true := by simp [c2']
                          have r4 : ((c : Int) != 2) = false := by rw [bne, r3]; rfl
                          have hok : nodeOk s = true := by rw [hok17, c2']; rfl
                          clear hok17 c1' c2'
                          have HNM := Lib.hid (fun w' => refNum2 s.size (by have := nodeOk_size hok; omega) w')
                          have hzn : (str (be s.size 2)).size = 2 := by rw [str_size, be_length]
                          have hcat : (SV ++ (str (be s.size 2) ++ s)).data.toList = be e 4 ++ (p.data.toList ++ (be k 1 ++ (be j 1 ++ textsB (L.take (i + 1))))) := by
                            rw [HT.out.1, textsB_snoc, ByteArray.data_append, ByteArray.data_append, Array.toList_append, Array.toList_append, HI.out, str_data]
                            simp only [List.append_assoc]
                            rfl
                          have hsz : SV.size ≤ 1000 := by
                            have h1 : SV.data.toList.length = SV.size := Array.length_toList
                            rw [← h1, HI.out]
                            have h2 := textsB_17 (L.take i) (fun s hs => nodeOk_size (List.all_eq_true.1 HK.out s hs))
                            have h3 := List.length_take_le i L
                            have h5 := HN16.out
                            have h6 := HN.out
                            have h4 : p.data.toList.length = 16 := by rw [Array.length_toList]; exact HP.out.2.1
                            simp only [List.length_append, be_length, h4]
                            omega
                          generalize str (be s.size 2) = Z at HNM hzn hcat
                          have HCAT := Lib.hid hcat
                          have u1 : (9223372036854775807 < Z.size + s.size) = False := eq_false (by omega)
                          have u2 : (9223372036854775807 < SV.size + (Z.size + s.size)) = False := eq_false (by omega)
                          have u3 : IntKind.u64.wrap (s.size : Int) = (s.size : Int) := IntWalk.u64_in _ (by omega)
                          clear hcat hsz HI hzn
                          go_wp2_with (rw [hc])
                          refine (HNM.out _).mono ?_
                          rintro e w2 ⟨rfl, g2⟩
                          have G2 := Lib.hid (grownBy_trans HGR.out g2)
                          clear g2 HG c1 HNM
                          go_wp2_with fail
                          go_roundw
                          case rel => exact ⟨i + 1, _, by omega, rfl, by go_num, Lib.hid HCAT.out, Lib.hid (by show (L.take (i + 1)).all nodeOk = true; rw [HT.out.1, List.all_append, HK.out]; simpa using hok), G2.out⟩
                          case measure => simp [intOf]; omega
                        · have r3 : ((c : Int) == 2) = false := by rw [beq_eq_false_iff_ne]; omega
                          have r4 : ((c : Int) != 2) = true := by rw [bne, r3]; rfl
                          have hok : nodeOk s = false := by rw [hok17]; simp [c1', c2']
                          clear hok17 c1' c2'
                          have h4 := HT.out.2 hok
                          have hEE := HE.out.1 (by rw [h4]; decide)
                          subst h4
                          subst hEE
                          clear HT HK HI HE HZ
                          go_wp2_with (rw [hc])
                          go_returns
                          exact ⟨rfl, HG.out⟩
                    · have f1 : ((s.size : Int) == 17) = false := by rw [beq_eq_false_iff_ne]; omega
                      have f2 : ((s.size : Int) != 17) = true := by rw [bne, f1]; rfl
                      have hok := nodeOk_else h0 h17
                      clear e0 h0 h17
                      have h4 := HT.out.2 hok
                      have hEE := HE.out.1 (by rw [h4]; decide)
                      subst h4
                      subst hEE
                      clear HT HK HI HE HZ
                      go_wp2_with fail
                      go_returns
                      exact ⟨rfl, HG.out⟩
                · have d1 : ¬ (i : Int) < (n : Int) := by omega
                  have d2 : ¬ (i : Int) < (N : Int) := by have := H7.out; omega
                  have hin : L.take i = L := List.take_of_length_le (by have := HN.out; omega)
                  have hz0 : z = 0 := by
                    have := HK.out
                    rw [hin] at this
                    rw [HZ.out, if_pos this]
                  have hEE := HE.out.2 hz0
                  have hSV : SV = E := by
                    rw [hEE]
                    have := HI.out
                    rw [hin] at this
                    apply ByteArray.ext
                    apply Array.toList_inj.1
                    rw [this, str_data]
                  subst hz0
                  subst hSV
                  clear hin hEE HE HZ
                  go_wp2_with fail
                  go_returns
                  exact ⟨rfl, HG.out⟩
          case first =>
            refine wp_region_held_drew (S := (fun w' => w'.cell? ⟨XB, 0, none⟩ = some (.int .u64 e) ∧ w'.cell? ⟨XB, 1, none⟩ = some (.string p) ∧ w'.cell? ⟨XB, 2, none⟩ = some (.int .i64 i) ∧ w'.cell? ⟨XB, 3, none⟩ = some (.int .i64 j))) (by kernel_rfl) ?hshr (fun hHeld => ?rghr)
            case hshr => exact ⟨x0, x1, x2, x3⟩
            case rghr =>
              refine wpAnyH_take (i := 0) (v := ?vhr_0) rfl (by kernel_rfl) (by kernel_rfl) (by kernel_rfl) (fun _ _ _ h => h) (Or.inl ⟨by kernel_rfl, ?hhr_0⟩) (by assumption) ?rhr_0
              case hhr_0 => (intro w0 hSw; (try dsimp only at hSw); go_simp; (try with_reducible rfl))
              try simp only [Act.put, List.setIfInBounds_toArray, List.set_cons_zero, List.set_cons_succ]
              refine wpAnyH_take (i := 1) (v := ?vhr_1) rfl (by kernel_rfl) (by kernel_rfl) (by kernel_rfl) (fun _ _ _ h => h) (Or.inl ⟨by kernel_rfl, ?hhr_1⟩) (by assumption) ?rhr_1
              case hhr_1 => (intro w0 hSw; (try dsimp only at hSw); go_simp; (try with_reducible rfl))
              try simp only [Act.put, List.setIfInBounds_toArray, List.set_cons_zero, List.set_cons_succ]
              refine wpAnyH_take (i := 3) (v := ?vhr_2) rfl (by kernel_rfl) (by kernel_rfl) (by kernel_rfl) (fun _ _ _ h => h) (Or.inl ⟨by kernel_rfl, ?hhr_2⟩) (by assumption) ?rhr_2
              case hhr_2 => (intro w0 hSw; (try dsimp only at hSw); go_simp; (try with_reducible rfl))
              try simp only [Act.put, List.setIfInBounds_toArray, List.set_cons_zero, List.set_cons_succ]
              refine wpAnyH_take (i := 4) (v := ?vhr_3) rfl (by kernel_rfl) (by kernel_rfl) (by kernel_rfl) (fun _ _ _ h => h) (Or.inl ⟨by kernel_rfl, ?hhr_3⟩) (by assumption) ?rhr_3
              case hhr_3 => (intro w0 hSw; (try dsimp only at hSw); go_simp; (try with_reducible rfl))
              try simp only [Act.put, List.setIfInBounds_toArray, List.set_cons_zero, List.set_cons_succ]
              refine wpAnyH_take (i := 6) (v := ?vhr_4) rfl (by kernel_rfl) (by kernel_rfl) (by kernel_rfl) (fun _ _ _ h => h) (Or.inl ⟨by kernel_rfl, ?hhr_4⟩) (by assumption) ?rhr_4
              case hhr_4 => (intro w0 hSw; (try dsimp only at hSw); go_simp; (try with_reducible rfl))
              try simp only [Act.put, List.setIfInBounds_toArray, List.set_cons_zero, List.set_cons_succ]
              refine wpAnyH_take (i := 7) (v := ?vhr_5) rfl (by kernel_rfl) (by kernel_rfl) (by kernel_rfl) (fun _ _ _ h => h) (Or.inl ⟨by kernel_rfl, ?hhr_5⟩) (by assumption) ?rhr_5
              case hhr_5 => (intro w0 hSw; (try dsimp only at hSw); go_simp; (try with_reducible rfl))
              try simp only [Act.put, List.setIfInBounds_toArray, List.set_cons_zero, List.set_cons_succ]
              refine wpAnyH_take (i := 8) (v := ?vhr_6) rfl (by kernel_rfl) (by kernel_rfl) (by kernel_rfl) (fun _ _ _ h => h) (Or.inl ⟨by kernel_rfl, ?hhr_6⟩) (by assumption) ?rhr_6
              case hhr_6 => (intro w0 hSw; (try dsimp only at hSw); go_simp; (try with_reducible rfl))
              try simp only [Act.put, List.setIfInBounds_toArray, List.set_cons_zero, List.set_cons_succ]
              refine wpAnyH_take (i := 9) (v := ?vhr_7) rfl (by kernel_rfl) (by kernel_rfl) (by kernel_rfl) (fun _ _ _ h => h) (Or.inl ⟨by kernel_rfl, ?hhr_7⟩) (by assumption) ?rhr_7
              case hhr_7 => (intro w0 hSw; (try dsimp only at hSw); go_simp; (try with_reducible rfl))
              try simp only [Act.put, List.setIfInBounds_toArray, List.set_cons_zero, List.set_cons_succ]
              refine wpAnyH_take (i := 10) (v := ?vhr_8) rfl (by kernel_rfl) (by kernel_rfl) (by kernel_rfl) (fun _ _ _ h => h) (Or.inl ⟨by kernel_rfl, ?hhr_8⟩) (by assumption) ?rhr_8
              case hhr_8 => (intro w0 hSw; (try dsimp only at hSw); go_simp; (try with_reducible rfl))
              try simp only [Act.put, List.setIfInBounds_toArray, List.set_cons_zero, List.set_cons_succ]
              refine wpAnyH_take (i := 11) (v := ?vhr_9) rfl (by kernel_rfl) (by kernel_rfl) (by kernel_rfl) (fun _ _ _ h => h) (Or.inl ⟨by kernel_rfl, ?hhr_9⟩) (by assumption) ?rhr_9
              case hhr_9 => (intro w0 hSw; (try dsimp only at hSw); go_simp; (try with_reducible rfl))
              try simp only [Act.put, List.setIfInBounds_toArray, List.set_cons_zero, List.set_cons_succ]
              refine wpAnyH_ready (rs := [2, 12]) (by kernel_rfl) (by simp) ?_
              refine AllReadyH.cons rfl (fun K hK => ?ahr_11) ?bhr_11
              case ahr_11 =>
                (go_simp; go_at_call 73; (with_reducible refine (HNUM.out _).mono ?_); rintro e w4 ⟨rfl, g4⟩; have ck : WA.grownBy w4 none := ⟨g4.os, g4.tape, g4.output, g4.size, g4.block⟩)
                refine hK.out _ _ ?shr_11 (fun hHeld => ?thr_11)
                case shr_11 => (first | with_reducible exact HCK.out _ (grownBy_drew (World.grownBy_alloc WA _ none)) | with_reducible exact HCK.out _ ck | with_reducible exact HCK.out _ (grownBy_alloc' ck _))
                case thr_11 =>
                  clear hK K
                  try simp only [Act.put, List.setIfInBounds_toArray, List.set_cons_zero, List.set_cons_succ]
                  refine wpAnyH_take (i := 5) (v := ?vhr_11) rfl (by kernel_rfl) (by kernel_rfl) (by kernel_rfl) (fun _ _ _ h => h) (Or.inl ⟨by kernel_rfl, ?hhr_11⟩) (by assumption) ?rhr_11
                  case hhr_11 => (intro w0 hSw; (try dsimp only at hSw); go_simp; (try with_reducible rfl))
                  try simp only [Act.put, List.setIfInBounds_toArray, List.set_cons_zero, List.set_cons_succ]
                  refine wpAnyH_ready (rs := [12]) (by kernel_rfl) (by simp) ?_
                  refine AllReadyH.cons rfl (fun K hK => ?ahr_13) ?bhr_13
                  case ahr_13 =>
                    go_simp
                    refine hK.out _ _ ?shr_13 (fun hHeld => ?thr_13)
                    case shr_13 => (first | with_reducible exact HCK.out _ (grownBy_drew (World.grownBy_alloc WA _ none)) | with_reducible exact HCK.out _ ck | with_reducible exact HCK.out _ (grownBy_alloc' ck _))
                    case thr_13 =>
                      clear hK K
                      try simp only [Act.put, List.setIfInBounds_toArray, List.set_cons_zero, List.set_cons_succ]
                      refine wpAnyH_ready (rs := [13]) (by kernel_rfl) (by simp) ?_
                      refine AllReadyH.cons rfl (fun K hK => ?ahr_14) ?bhr_14
                      case ahr_14 =>
                        go_simp
                        refine hK.out _ _ ?shr_14 (fun hHeld => ?thr_14)
                        case shr_14 => (first | with_reducible exact HCK.out _ (grownBy_drew (World.grownBy_alloc WA _ none)) | with_reducible exact HCK.out _ ck | with_reducible exact HCK.out _ (grownBy_alloc' ck _))
                        case thr_14 =>
                          clear hK K
                          try simp only [Act.put, List.setIfInBounds_toArray, List.set_cons_zero, List.set_cons_succ]
                          refine wpAnyH_take (i := 14) (v := ?vhr_14) rfl (by kernel_rfl) (by kernel_rfl) (by kernel_rfl) (fun _ _ _ h => h) (Or.inl ⟨by kernel_rfl, ?hhr_14⟩) (by assumption) ?rhr_14
                          case hhr_14 => (intro w0 hSw; (try dsimp only at hSw); go_simp; (try with_reducible rfl))
                          try simp only [Act.put, List.setIfInBounds_toArray, List.set_cons_zero, List.set_cons_succ]
                          refine wpAnyH_ready (rs := [15]) (by kernel_rfl) (by simp) ?_
                          refine AllReadyH.cons rfl (fun K hK => ?ahr_16) ?bhr_16
                          case ahr_16 =>
                            go_simp
                            refine hK.out _ _ ?shr_16 (fun hHeld => ?thr_16)
                            case shr_16 => (first | with_reducible exact HCK.out _ (grownBy_drew (World.grownBy_alloc WA _ none)) | with_reducible exact HCK.out _ ck | with_reducible exact HCK.out _ (grownBy_alloc' ck _))
                            case thr_16 =>
                              clear hK K
                              try simp only [Act.put, List.setIfInBounds_toArray, List.set_cons_zero, List.set_cons_succ]
                              refine wpAnyH_done (by kernel_rfl) ?_ _
                              try dsimp only
                              (go_wp2_with fail; (try simp only [Act.put, List.setIfInBounds_toArray, List.set_cons_zero, List.set_cons_succ]); go_meet; (first | exact ⟨_, rfl, HCAT, Lib.hid (grownBy_trans HGA.out (grownBy_alloc' ck _)), Lib.hid (grownBy_alloc' ck _)⟩ | exact ⟨_, rfl, HCAT, Lib.hid (grownBy_trans HGA.out ck), Lib.hid ck⟩))
                          case bhr_16 =>
                            exact AllReadyH.nil
                      case bhr_14 =>
                        exact AllReadyH.nil
                  case bhr_13 =>
                    exact AllReadyH.nil
              case bhr_11 =>
                refine AllReadyH.cons rfl (fun K hK => ?ahr_17) ?bhr_17
                case ahr_17 =>
                  go_simp
                  refine hK.out _ _ ?shr_17 (fun hHeld => ?thr_17)
                  case shr_17 => (first | with_reducible exact HCK.out _ (grownBy_drew (World.grownBy_alloc WA _ none)) | with_reducible exact HCK.out _ ck | with_reducible exact HCK.out _ (grownBy_alloc' ck _))
                  case thr_17 =>
                    clear hK K
                    try simp only [Act.put, List.setIfInBounds_toArray, List.set_cons_zero, List.set_cons_succ]
                    refine wpAnyH_ready (rs := [2, 13]) (by kernel_rfl) (by simp) ?_
                    refine AllReadyH.cons rfl (fun K hK => ?ahr_18) ?bhr_18
                    case ahr_18 =>
                      (go_simp; go_at_call 73; (with_reducible refine (HNUM.out _).mono ?_); rintro e w4 ⟨rfl, g4⟩; have ck : WA.grownBy w4 none := grownBy_trans (World.grownBy_alloc WA (.cells #[.int .u8 (i : Int), .int .u8 (j : Int)] 5) none) ⟨g4.os, g4.tape, g4.output, g4.size, g4.block⟩; have hcv4 := HCV.out w4 WA.heap.size (g4.heap (heap_alloc_at WA (.cells #[.int .u8 (i : Int), .int .u8 (j : Int)] 5) _ rfl) (by simp)))
                      refine hK.out _ _ ?shr_18 (fun hHeld => ?thr_18)
                      case shr_18 => (first | with_reducible exact HCK.out _ (grownBy_drew (World.grownBy_alloc WA _ none)) | with_reducible exact HCK.out _ ck | with_reducible exact HCK.out _ (grownBy_alloc' ck _))
                      case thr_18 =>
                        clear hK K
                        try simp only [Act.put, List.setIfInBounds_toArray, List.set_cons_zero, List.set_cons_succ]
                        refine wpAnyH_take (i := 5) (v := ?vhr_18) rfl (by kernel_rfl) (by kernel_rfl) (by kernel_rfl) (fun _ _ _ h => h) (Or.inl ⟨by kernel_rfl, ?hhr_18⟩) (by assumption) ?rhr_18
                        case hhr_18 => (intro w0 hSw; (try dsimp only at hSw); go_simp; (try with_reducible rfl))
                        try simp only [Act.put, List.setIfInBounds_toArray, List.set_cons_zero, List.set_cons_succ]
                        refine wpAnyH_ready (rs := [13]) (by kernel_rfl) (by simp) ?_
                        refine AllReadyH.cons rfl (fun K hK => ?ahr_20) ?bhr_20
                        case ahr_20 =>
                          go_simp
                          refine hK.out _ _ ?shr_20 (fun hHeld => ?thr_20)
                          case shr_20 => (first | with_reducible exact HCK.out _ (grownBy_drew (World.grownBy_alloc WA _ none)) | with_reducible exact HCK.out _ ck | with_reducible exact HCK.out _ (grownBy_alloc' ck _))
                          case thr_20 =>
                            clear hK K
                            try simp only [Act.put, List.setIfInBounds_toArray, List.set_cons_zero, List.set_cons_succ]
                            refine wpAnyH_take (i := 14) (v := ?vhr_20) rfl (by kernel_rfl) (by kernel_rfl) (by kernel_rfl) (fun _ _ _ h => h) (Or.inl ⟨by kernel_rfl, ?hhr_20⟩) (by assumption) ?rhr_20
                            case hhr_20 => (intro w0 hSw; (try dsimp only at hSw); go_simp; (try with_reducible rfl))
                            try simp only [Act.put, List.setIfInBounds_toArray, List.set_cons_zero, List.set_cons_succ]
                            refine wpAnyH_ready (rs := [15]) (by kernel_rfl) (by simp) ?_
                            refine AllReadyH.cons rfl (fun K hK => ?ahr_22) ?bhr_22
                            case ahr_22 =>
                              go_simp
                              refine hK.out _ _ ?shr_22 (fun hHeld => ?thr_22)
                              case shr_22 => (first | with_reducible exact HCK.out _ (grownBy_drew (World.grownBy_alloc WA _ none)) | with_reducible exact HCK.out _ ck | with_reducible exact HCK.out _ (grownBy_alloc' ck _))
                              case thr_22 =>
                                clear hK K
                                try simp only [Act.put, List.setIfInBounds_toArray, List.set_cons_zero, List.set_cons_succ]
                                refine wpAnyH_done (by kernel_rfl) ?_ _
                                try dsimp only
                                (go_wp2_with fail; (try simp only [Act.put, List.setIfInBounds_toArray, List.set_cons_zero, List.set_cons_succ]); go_meet; (first | exact ⟨_, rfl, HCAT, Lib.hid (grownBy_trans HGA.out (grownBy_alloc' ck _)), Lib.hid (grownBy_alloc' ck _)⟩ | exact ⟨_, rfl, HCAT, Lib.hid (grownBy_trans HGA.out ck), Lib.hid ck⟩))
                            case bhr_22 =>
                              exact AllReadyH.nil
                        case bhr_20 =>
                          exact AllReadyH.nil
                    case bhr_18 =>
                      refine AllReadyH.cons rfl (fun K hK => ?ahr_23) ?bhr_23
                      case ahr_23 =>
                        go_simp
                        refine hK.out _ _ ?shr_23 (fun hHeld => ?thr_23)
                        case shr_23 => (first | with_reducible exact HCK.out _ (grownBy_drew (World.grownBy_alloc WA _ none)) | with_reducible exact HCK.out _ ck | with_reducible exact HCK.out _ (grownBy_alloc' ck _))
                        case thr_23 =>
                          clear hK K
                          try simp only [Act.put, List.setIfInBounds_toArray, List.set_cons_zero, List.set_cons_succ]
                          refine wpAnyH_ready (rs := [2]) (by kernel_rfl) (by simp) ?_
                          refine AllReadyH.cons rfl (fun K hK => ?ahr_24) ?bhr_24
                          case ahr_24 =>
                            (go_simp; go_at_call 73; (with_reducible refine (HNUM.out _).mono ?_); rintro e w4 ⟨rfl, g4⟩; have ck : WA.grownBy w4 none := grownBy_trans (World.grownBy_alloc WA (.cells #[.int .u8 (i : Int), .int .u8 (j : Int)] 5) none) ⟨g4.os, g4.tape, g4.output, g4.size, g4.block⟩; have hcv4 := HCV.out w4 WA.heap.size (g4.heap (heap_alloc_at WA (.cells #[.int .u8 (i : Int), .int .u8 (j : Int)] 5) _ rfl) (by simp)))
                            refine hK.out _ _ ?shr_24 (fun hHeld => ?thr_24)
                            case shr_24 => (first | with_reducible exact HCK.out _ (grownBy_drew (World.grownBy_alloc WA _ none)) | with_reducible exact HCK.out _ ck | with_reducible exact HCK.out _ (grownBy_alloc' ck _))
                            case thr_24 =>
                              clear hK K
                              try simp only [Act.put, List.setIfInBounds_toArray, List.set_cons_zero, List.set_cons_succ]
                              refine wpAnyH_take (i := 5) (v := ?vhr_24) rfl (by kernel_rfl) (by kernel_rfl) (by kernel_rfl) (fun _ _ _ h => h) (Or.inl ⟨by kernel_rfl, ?hhr_24⟩) (by assumption) ?rhr_24
                              case hhr_24 => (intro w0 hSw; (try dsimp only at hSw); go_simp; (try with_reducible rfl))
                              try simp only [Act.put, List.setIfInBounds_toArray, List.set_cons_zero, List.set_cons_succ]
                              refine wpAnyH_take (i := 14) (v := ?vhr_25) rfl (by kernel_rfl) (by kernel_rfl) (by kernel_rfl) (fun _ _ _ h => h) (Or.inl ⟨by kernel_rfl, ?hhr_25⟩) (by assumption) ?rhr_25
                              case hhr_25 => (intro w0 hSw; (try dsimp only at hSw); go_simp; (try with_reducible rfl))
                              try simp only [Act.put, List.setIfInBounds_toArray, List.set_cons_zero, List.set_cons_succ]
                              refine wpAnyH_ready (rs := [15]) (by kernel_rfl) (by simp) ?_
                              refine AllReadyH.cons rfl (fun K hK => ?ahr_27) ?bhr_27
                              case ahr_27 =>
                                go_simp
                                refine hK.out _ _ ?shr_27 (fun hHeld => ?thr_27)
                                case shr_27 => (first | with_reducible exact HCK.out _ (grownBy_drew (World.grownBy_alloc WA _ none)) | with_reducible exact HCK.out _ ck | with_reducible exact HCK.out _ (grownBy_alloc' ck _))
                                case thr_27 =>
                                  clear hK K
                                  try simp only [Act.put, List.setIfInBounds_toArray, List.set_cons_zero, List.set_cons_succ]
                                  refine wpAnyH_done (by kernel_rfl) ?_ _
                                  try dsimp only
                                  (go_wp2_with fail; (try simp only [Act.put, List.setIfInBounds_toArray, List.set_cons_zero, List.set_cons_succ]); go_meet; (first | exact ⟨_, rfl, HCAT, Lib.hid (grownBy_trans HGA.out (grownBy_alloc' ck _)), Lib.hid (grownBy_alloc' ck _)⟩ | exact ⟨_, rfl, HCAT, Lib.hid (grownBy_trans HGA.out ck), Lib.hid ck⟩))
                              case bhr_27 =>
                                exact AllReadyH.nil
                          case bhr_24 =>
                            exact AllReadyH.nil
                      case bhr_23 =>
                        exact AllReadyH.nil
                case bhr_17 =>
                  exact AllReadyH.nil
        · have q7 : ((n : Int) != (N : Int)) = true := by simp; omega
          have q7' : ((n : Int) == (N : Int)) = false := by rw [beq_eq_false_iff_ne]; omega
          rw [if_pos h7] at hz2
          subst hz2
          have hEE := HE.out.1 (by decide)
          subst hEE
          clear h7 HE hNN
          go_wp2_with fail
          go_returns
          exact ⟨rfl, HG0.out⟩

set_option maxRecDepth 100000 in
set_option maxHeartbeats 1600000 in
theorem ref19dig_any (x : HdrS) (hx : x.small) (v : Value) (w : World) (hv : StrsAt w v x.L) :
    Calls Tryd.prog 23 #[x.val v] w fun e w' => e = .returned (.string x.dig) ∧ w.grownBy w' none := by
  obtain ⟨a, cap, rfl⟩ := hv.form
  have HEN := Lib.hid (fun w' q => ref19enc_any x hx (.slice a x.L.length cap) w' q)
  have hdig : (x.err = 0 → x.dig = tagS 14 [x.enc] ∧ x.enc.size ≤ 400) ∧ (x.err ≠ 0 → x.dig = ⟨#[]⟩) := by
    refine ⟨fun h => ⟨?_, ?_⟩, HdrS.dig_none⟩
    · unfold HdrS.dig HdrS.enc
      rw [if_pos h, if_pos h]
    · unfold HdrS.enc
      rw [if_pos h, str_size]
      exact HdrS.len h
  obtain ⟨D, hD⟩ : ∃ D, x.dig = D := ⟨_, rfl⟩
  rw [hD] at hdig ⊢
  unfold HdrS.val at HEN ⊢
  obtain ⟨e, p, d, au, L⟩ := x
  generalize (⟨e, p, d, au, L⟩ : HdrS).err = z at HEN hdig
  generalize (⟨e, p, d, au, L⟩ : HdrS).enc = E at HEN hdig
  have hv : StrsAt w (.slice a L.length cap) L := hv
  have HEN : Hid (∀ w', StrsAt w' (.slice a L.length cap) L → Calls Tryd.prog 25 #[.agg #[.int .u64 e, .string p, .int .i64 d, .int .i64 au, .slice a L.length cap]] w' fun e w'' => e = .returned (.tuple #[.string E, .int .i64 z]) ∧ w'.grownBy w'' none) := HEN
  simp only
  have HV := Lib.hid hv
  have HD := Lib.hid hdig
  have hb0 := heap_alloc_at w (.cells #[.int .u64 e, .string p, .int .i64 d, .int .i64 au, .slice a L.length cap] 66) _ rfl
  have hg0 : w.grownBy (w.alloc (.cells #[.int .u64 e, .string p, .int .i64 d, .int .i64 au, .slice a L.length cap] 66)) none := World.grownBy_alloc _ _ _
  obtain ⟨W0, hW0⟩ : ∃ W0, w.alloc (.cells #[.int .u64 e, .string p, .int .i64 d, .int .i64 au, .slice a L.length cap] 66) = W0 := ⟨_, rfl⟩
  obtain ⟨XB, hXB⟩ : ∃ XB, w.heap.size = XB := ⟨_, rfl⟩
  rw [hW0] at hb0 hg0
  rw [hXB] at hb0
  obtain ⟨x0, x1, x2, x3, x4⟩ := cells5 hb0
  have HG0 := Lib.hid hg0
  have HW := Lib.hid (And.intro hW0 hXB)
  clear hb0 hg0 hW0 hXB hv hx hD hdig
  by_cases hz : z = 0
  · have q1 : (z != 0) = false := by simp [hz]
    have q2 : (z == 0) = true := by simp [hz]
    obtain ⟨h1, h2⟩ := HD.out.1 hz
    have HL := Lib.hid (And.intro h1 h2)
    clear h1 h2 hz
    go_enter Tryd.func23, Tryd.ntmps23
    go_wp2_with (rw [HW.out.1, HW.out.2])
    refine (HEN.out _ (HV.out.grown HG0.out)).mono ?_
    rintro e w1 ⟨rfl, g1⟩
    have HG1 := Lib.hid (grownBy_trans HG0.out g1)
    clear g1 x0 x1 x2 x3 x4
    have HT := Lib.hid (refTagged_new w1 _ rfl 14 [E] [.string E] 1 14 rfl rfl rfl (by simp) (by intro s hs; have := HL.out.2; simp at hs; subst hs; omega))
    go_wp2_with fail
    refine HT.out.mono ?_
    rintro e w2 ⟨rfl, g2⟩
    have HG2 := Lib.hid (grownBy_trans HG1.out g2)
    clear g2
    go_wp2_with fail
    go_ret
    exact ⟨by rw [HL.out.1]; rfl, HG2.out⟩
  · have q1 : (z != 0) = true := by simp [hz]
    have q2 : (z == 0) = false := by simp [hz]
    have h1 := HD.out.2 hz
    subst h1
    clear hz
    go_enter Tryd.func23, Tryd.ntmps23
    go_wp2_with (rw [HW.out.1, HW.out.2])
    refine (HEN.out _ (HV.out.grown HG0.out)).mono ?_
    rintro e w1 ⟨rfl, g1⟩
    have HG1 := Lib.hid (grownBy_trans HG0.out g1)
    clear g1 x0 x1 x2 x3 x4
    go_wp2_with fail
    go_ret
    exact ⟨rfl, HG1.out⟩
end Go.Proofs.YtioahjdojgcfdaaDoor
