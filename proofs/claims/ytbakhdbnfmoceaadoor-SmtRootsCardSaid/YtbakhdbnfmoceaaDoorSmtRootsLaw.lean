/- The walk of the law SmtRoots. -/
import Derived.Test.YtbakhdbnfmoceaaDoorSmtU
namespace Go.Proofs.YtbakhdbnfmoceaaDoor
open Go.RowKit Go.Maps Go.Sort
attribute [local irreducible] shaL

theorem keysM_len (M : List PairS) : (keysM M).length = M.length := by
  unfold keysM sortK
  rw [List.length_map, List.length_mergeSort, List.length_map]
  simp
theorem less_or : ∀ l m : List UInt8, l ≠ m → Op.bytesLess m l = false → Op.bytesLess l m = true := by
  intro l m hne h
  rw [bytesLess_eq] at h ⊢
  simp at h ⊢
  rcases Decidable.em (l < m) with h1 | h1
  · exact h1
  · exact absurd (List.le_antisymm (List.not_lt.1 (by simpa using h)) (List.not_lt.1 h1)) hne
theorem keysM_nodup {M : List PairS} (hone : M.Pairwise (fun p q => p.1 ≠ q.1)) : (keysM M).Pairwise (fun x y => Op.bytesLess x.data.toList y.data.toList = true) := by
  have h1 := rises_sortK M (fun _ => true)
  have h2 : (keysM M).Pairwise (fun x y => x ≠ y) := by
    have hp := pairs_perm hone (fun _ => true)
    have h3 : (M.filter fun _ => true).Pairwise (fun p q => p.1 ≠ q.1) := hone.filter _
    have h4 := (hp.symm.pairwise_iff (fun {_ _} q => Ne.symm q)).1 h3
    unfold pairsM at h4
    rw [List.pairwise_map] at h4
    exact h4
  exact (h1.and h2).imp fun {x y} h => less_or _ _ (fun e => h.2 (list_inj e)) h.1
theorem alike_zero {M : List PairS} (hone : M.Pairwise (fun p q => p.1 ≠ q.1)) (h16 : ∀ x ∈ M, x.1.size = 16) : Alike 0 M := ⟨h16, hone, fun _ _ _ _ i hi => absurd hi (Nat.not_lt_zero i)⟩
theorem valM_take {M : List PairS} (hone : M.Pairwise (fun p q => p.1 ≠ q.1)) (i : Nat) (h : i < M.length) (k : ByteArray) :
    (M[i].1 = k → valM (M.take (i + 1)) k = M[i].2 ∧ hasM (M.take (i + 1)) k = true) ∧ (M[i].1 ≠ k → valM (M.take (i + 1)) k = valM (M.take i) k ∧ hasM (M.take (i + 1)) k = hasM (M.take i) k) := by
  have e : M.take (i + 1) = M.take i ++ [M[i]] := List.take_succ_eq_append_getElem h
  refine ⟨fun hk => ?_, fun hk => ?_⟩
  · have h1 := valM_mem (hone.sublist (List.take_sublist (i + 1) M)) M[i] (by rw [e]; exact List.mem_append_right _ (List.mem_singleton.2 rfl))
    rw [hk] at h1
    refine ⟨h1, ?_⟩
    unfold hasM
    rw [e, List.any_append]
    simp [hk]
  · unfold valM hasM
    rw [e, List.find?_append, List.any_append]
    simp [hk]
set_option maxRecDepth 100000 in
set_option maxHeartbeats 8000000 in
theorem smtRoots_walk (L : List PutS) (x : Option Addr) (n c : Nat) (a b : UInt8) (w : World) (hr : ShaReady w) (hv : PutsAt w (.slice x n c) L) (hsz : ∀ p ∈ L, p.2.2.size ≤ maxLen) (hn : n ≤ maxLen) :
    Calls Tryd.prog 3 #[.slice x n c, .int .u8 a.toNat, .int .u8 b.toNat] w fun e w' => e = .returned (.bool true) ∧ Below w.heap.size w w' := by
  have HSP := Lib.hid (smt_speaks w hr)
  have HR := Lib.hid hr
  have HV := Lib.hid (And.intro hv (And.intro hsz hn))
  have HKEY := Lib.hid (fun (w' : World) => key_any a b w')
  have hks := keyS_size a b
  generalize keyS a b = KK at HKEY hks
  have HKS := Lib.hid hks
  clear hr hv hsz hn hks
  go_enter Tryd.func3, Tryd.ntmps3
  go_wp2_with fail
  refine HSP.out.mono ?_
  rintro e w1 ⟨rfl, g1⟩
  have hv1 : PutsAt w1 (.slice x n c) L := by
    obtain ⟨a', cap', e, hc⟩ := HV.out.1
    refine ⟨a', cap', e, fun i hi => ?_⟩
    obtain ⟨g, o, e2, h1, h2, h3⟩ := hc i hi
    exact ⟨g, o, e2, g1.cell h1 (by simp), g1.cell h2 (by simp), g1.cell h3 (by simp)⟩
  have HB := Lib.hid (both_any w1 x n c L hv1 HV.out.2.1 HV.out.2.2)
  have HG1 := Lib.hid g1
  clear g1 hv1 HSP HV
  go_wp2_with fail
  refine HB.out.mono ?_
  rintro e w2 ⟨mv, tb, rfl, hPA, hT, g2⟩
  have hok := bothM_ok (L.take 12) (List.length_take_le 12 L)
  generalize bothM (L.take 12) = M at hPA hT hok
  have hone := hT.one
  have hP := plain_of hok.1 hok.2
  have HPA := Lib.hid hPA
  obtain ⟨ma, mc, rfl, hmc, hmm, _⟩ := hPA
  have HG2 := Lib.hid (grownBy_trans HG1.out g2)
  have HT := Lib.hid hT
  have HOK := Lib.hid (And.intro hok (And.intro hone hP))
  obtain ⟨N0, hN0⟩ : ∃ N0, w1.heap.size = N0 := ⟨_, rfl⟩
  rw [hN0] at HT
  obtain ⟨XX, hXX⟩ : ∃ XX, ownL (.slice ma M.length mc) = XX := ⟨_, rfl⟩
  rw [hXX] at HT
  obtain ⟨m, hm⟩ : ∃ m, M.length = m := ⟨_, rfl⟩
  rw [hm] at HPA hmc ⊢
  have HM := Lib.hid hm
  have hm12 : m ≤ 12 := by have := hok.2; omega
  have HROOT := Lib.hid (troot_any N0 XX w2 tb M HT.out hP (HR.out.grown HG2.out))
  have HREF := Lib.hid (fun (w' : World) (q : w2.grownBy w' none) => refNode_any 128 0 (.slice ma m mc) M w' rfl (by omega) (alike_zero hone hP.k16) (fun y hy => by have := (hok.1 y hy).2; omega) (HPA.out.grown q))
  have hls : ∀ x : ByteArray, (x.toList == x.toList) = true := fun x => by simp
  have hlr := hls (nodeN 128 M 0)
  generalize nodeN 128 M 0 = R at HROOT HREF hlr
  have HLEN := Lib.hid (fun (w' : World) (q : w2.grownBy w' none) => tlen_any N0 XX w' tb M (HT.out.grown q))
  have HKS2 := Lib.hid (fun (w' : World) (q : w2.grownBy w' none) => tkeys_any N0 XX w' tb M (HT.out.grown q) (by omega))
  have HGET := Lib.hid (fun (k : ByteArray) (hk : k.size ≤ maxLen) (w' : World) (q : w2.grownBy w' none) => tget_any N0 XX w' tb M k (HT.out.grown q) hk)
  rw [hm] at HLEN
  have hkl := keysM_len M
  rw [hm] at hkl
  have hkn := keysM_nodup hone
  clear hT hok hone hP g2 HB hls hm hN0 hXX
  go_wp2_with fail
  refine HROOT.out.mono ?_
  rintro e w3 ⟨rfl, g3⟩
  have HG3 := Lib.hid g3
  clear g3
  go_wp2_with fail
  refine (HREF.out _ HG3.out).mono ?_
  rintro e w4 ⟨rfl, g4⟩
  have HG4 := Lib.hid (grownBy_trans HG3.out g4)
  clear g4
  go_wp2_with fail
  refine (HLEN.out _ HG4.out).mono ?_
  rintro e w4' ⟨rfl, rfl⟩
  go_wp2_with fail
  refine (HKS2.out _ HG4.out).mono ?_
  rintro e w5 ⟨kv, rfl, ho5, g5⟩
  rw [hkl] at ho5
  obtain ⟨ka, kc, rfl⟩ := slice_own' ho5
  have hks5 : StrsAt w5 (.slice ka m kc) (keysM M) := strs_own ho5
  generalize keysM M = KL at hks5 hkl hkn
  have HKL := Lib.hid (And.intro hks5 (And.intro hkl hkn))
  have HG5 := Lib.hid (grownBy_trans HG4.out g5)
  clear ho5 g5 hks5 hkl hkn HLEN HREF HROOT hlr
  go_wp2_with fail
  go_loopw [10] (fun iv wr => ∃ i : Nat, 1 ≤ i ∧ i ≤ m + 1 ∧ iv = .int .i64 i ∧ Hid (w5.grownBy wr none)) (fun iv _ => m + 1 - (intOf iv).toNat)
  case atStart => exact ⟨1, Nat.le_refl _, by omega, rfl, World.grownBy.refl _ _⟩
  case round =>
    obtain ⟨i, h1, h2, rfl, HW⟩ := hrel
    by_cases hlt : i < m
    · have d1 : (i : Int) < (m : Int) := by omega
      have d0 : (0 : Int) ≤ (i : Int) := by omega
      obtain ⟨j, hj⟩ : ∃ j, i = j + 1 := ⟨i - 1, by omega⟩
      have hji : (i : Int) - 1 = (j : Int) := by omega
      have j0 : (0 : Int) ≤ (j : Int) := by omega
      have j1 : (j : Int) < (m : Int) := by omega
      have hil : i < KL.length := by have := HKL.out.2.1; omega
      have hjl : j < KL.length := by omega
      obtain ⟨g, o, rfl, k1⟩ := HKL.out.1.at_ i KL[i] (List.getElem?_eq_getElem hil)
      obtain ⟨g', o', e, k2⟩ := HKL.out.1.at_ j KL[j] (List.getElem?_eq_getElem hjl)
      cases e
      have c1 := HW.out.cell k1 (by simp)
      have c2 := HW.out.cell k2 (by simp)
      clear k1 k2
      have hls := List.pairwise_iff_getElem.1 HKL.out.2.2 j i hjl hil (by omega)
      generalize KL[i] = xi at c1 hls
      generalize KL[j] = xj at c2 hls
      have hl2 : Op.bytesLess xj.toList xi.toList = true := by rw [ByteArray.toList_eq, ByteArray.toList_eq]; exact hls
      clear hj hls hil hjl
      go_wp2_with fail
      go_region
      all_goals
        go_wp2_with fail
        go_roundw
        case rel => exact ⟨i + 1, by omega, by omega, by go_num, grownBy_drewN HW.out 1⟩
        case measure => simp [intOf]; omega
    · have d1 : ¬ (i : Int) < (m : Int) := by omega
      have HG6 := Lib.hid (grownBy_trans HG5.out HW.out)
      clear HW h1 h2 hlt HKL
      go_wp2_with fail
      go_loopw [11, 12, 13, 14, 15] (fun sw ti iv _ _ wq => ∃ i : Nat, i ≤ m ∧ iv = .int .i64 i ∧ sw = .string (valM (M.take i) KK) ∧ ti = .bool (hasM (M.take i) KK) ∧ Hid (w2.grownBy wq none)) (fun _ _ iv _ _ _ => m - (intOf iv).toNat)
      case atStart => exact ⟨0, Nat.zero_le _, rfl, rfl, rfl, HG6.out⟩
      case round =>
        clear HG6
        obtain ⟨i, hi, rfl, rfl, rfl, HW⟩ := hrel
        by_cases hlt : i < m
        · have d1 : (i : Int) < (m : Int) := by omega
          have d0 : (0 : Int) ≤ (i : Int) := by omega
          obtain ⟨a', cap', e, _, _, hc⟩ := HPA.out
          have hil : i < M.length := by have := HM.out; omega
          obtain ⟨g, o, e2, k1, k2⟩ := hc i hil
          injection e with e1 e3 e4
          obtain rfl : ma = some ⟨g, o, none⟩ := e1.trans e2
          clear e3 e4
          have htk := valM_take HOK.out.2.1 i hil KK
          have hvm := valM_mem HOK.out.2.1 M[i] (List.getElem_mem _)
          have hhm : hasM M M[i].1 = true := List.any_eq_true.2 ⟨M[i], List.getElem_mem _, by simp⟩
          have hsz := (HOK.out.1.1 M[i] (List.getElem_mem _)).1
          obtain ⟨p, hp⟩ : ∃ p, M[i] = p := ⟨_, rfl⟩
          obtain ⟨pk, py⟩ := p
          rw [hp] at k1 k2 htk hvm hhm hsz
          have hget := HGET.out pk (by have : pk.size = 16 := hsz; unfold maxLen; omega) wr HW.out
          have hvm' : valM M pk = py := hvm
          have hhm' : hasM M pk = true := hhm
          rw [hvm', hhm'] at hget
          have HGT := Lib.hid hget
          have c1 := HW.out.cell k1 (by simp)
          have c2 := HW.out.cell k2 (by simp)
          have HC1 := Lib.hid c1
          have HTK := Lib.hid htk
          have hyy : (py.toList == py.toList) = true := by simp
          have heq := eq_str pk KK
          clear hc k1 k2 e1 e2 hp htk hvm hhm hsz hget hvm' hhm'
          by_cases hk : pk = KK
          · have eq1 : (pk.toList == KK.toList) = true := by rw [heq]; simpa using hk
            have HT1 := Lib.hid (HTK.out.1 hk)
            clear heq hk
            generalize valM (M.take i) KK = V0
            generalize hasM (M.take i) KK = B0
            go_wp2_with fail
            refine HGT.out.mono ?_
            rintro e w6 ⟨rfl, rfl⟩
            go_wp2_with fail
            go_region_held3 (fun w' => w'.cell? ⟨g, o + i * 2, none⟩ = some (.string pk)) (first | exact ck.cell HC1.out (by simp) | exact HC1.out)
              ((go_at_call 16; (with_reducible refine (HKEY.out _).mono ?_); rintro e w7 ⟨rfl, g7⟩; have ck := grownBy_trans (grownBy_drew (World.grownBy.refl wr none)) g7))
            go_wp2_with fail
            go_roundw
            case rel => exact ⟨i + 1, by omega, by go_num, by rw [HT1.out.1], by rw [HT1.out.2], grownBy_trans HW.out ck⟩
            case measure => simp [intOf]; omega
          · have eq1 : (pk.toList == KK.toList) = false := by rw [heq]; simpa using hk
            have HT1 := Lib.hid (HTK.out.2 hk)
            clear heq hk
            go_wp2_with fail
            refine HGT.out.mono ?_
            rintro e w6 ⟨rfl, rfl⟩
            go_wp2_with fail
            go_region_held3 (fun w' => w'.cell? ⟨g, o + i * 2, none⟩ = some (.string pk)) (first | exact ck.cell HC1.out (by simp) | exact HC1.out)
              ((go_at_call 16; (with_reducible refine (HKEY.out _).mono ?_); rintro e w7 ⟨rfl, g7⟩; have ck := grownBy_trans (grownBy_drew (World.grownBy.refl wr none)) g7))
            go_wp2_with fail
            go_roundw
            case rel => exact ⟨i + 1, by omega, by go_num, by rw [HT1.out.1], by rw [HT1.out.2], grownBy_trans HW.out ck⟩
            case measure => simp [intOf]; omega
        · have d1 : ¬ (i : Int) < (m : Int) := by omega
          have htk : M.take i = M := List.take_of_length_le (by have := HM.out; omega)
          rw [htk]
          have hvv : ∀ x : ByteArray, (x.toList == x.toList) = true := fun x => by simp
          have hv1 := hvv (valM M KK)
          have HGK := Lib.hid (HGET.out KK (by have := HKS.out; unfold maxLen; omega))
          generalize valM M KK = VK at HGK hv1 ⊢
          generalize hasM M KK = BK at HGK ⊢
          have hb1 : (BK == BK) = true := by simp
          clear htk hvv
          go_wp2_with fail
          refine (HKEY.out _).mono ?_
          rintro e w6 ⟨rfl, g6⟩
          have HG6 := Lib.hid (grownBy_trans HW.out g6)
          clear g6
          go_wp2_with fail
          refine (HGK.out _ HG6.out).mono ?_
          rintro e w7 ⟨rfl, rfl⟩
          go_wp2_with fail
          go_ret
          exact ⟨rfl, below_grownBy (grownBy_trans HG2.out HG6.out)⟩
theorem u8_back (a : Int) (h : 0 ≤ a ∧ a ≤ 255) : ((UInt8.ofNat a.toNat).toNat : Int) = a := by
  rw [UInt8.toNat_ofNat_of_lt' (show a.toNat < 256 by omega)]
  omega
theorem smtRoots_ints (L : List PutS) (x : Option Addr) (n c : Nat) (a b : Int) (ha : 0 ≤ a ∧ a ≤ 255) (hb : 0 ≤ b ∧ b ≤ 255) (w : World) (hr : ShaReady w) (hv : PutsAt w (.slice x n c) L) (hsz : ∀ p ∈ L, p.2.2.size ≤ maxLen) (hn : n ≤ maxLen) :
    Calls Tryd.prog 3 #[.slice x n c, .int .u8 a, .int .u8 b] w fun e w' => e = .returned (.bool true) ∧ Below w.heap.size w w' := by
  have := smtRoots_walk L x n c (UInt8.ofNat a.toNat) (UInt8.ofNat b.toNat) w hr hv hsz hn
  rwa [u8_back a ha, u8_back b hb] at this
end Go.Proofs.YtbakhdbnfmoceaaDoor
