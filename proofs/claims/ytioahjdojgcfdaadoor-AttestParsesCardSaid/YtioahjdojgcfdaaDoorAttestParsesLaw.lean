/- The walk of the law AttestParses. -/
import Derived.Test.YtioahjdojgcfdaaDoorAttestParsesB7
import Derived.Deep.DeepCutAuto
namespace Go.Proofs.YtioahjdojgcfdaaDoor
open Go.RowKit
attribute [local irreducible] shaL

theorem and15a : ∀ n : Nat, n < 256 → bits .and .u8 (n : Int) 15 = ((n % 16 : Nat) : Int) := by decide +kernel
theorem and63a : ∀ n : Nat, n < 256 → bits .and .u8 (n : Int) 63 = ((n % 64 : Nat) : Int) := by decide +kernel
theorem app_x22 (l : List UInt8) : str l ++ ⟨#[120]⟩ = str (l ++ [120]) := by
  apply ByteArray.ext
  rw [ByteArray.data_append]
  apply Array.toList_inj.1
  rw [Array.toList_append]
  rfl
theorem take_str22 (l : List UInt8) (k : Nat) : (str l).extract 0 k = str (l.take k) := by
  apply ByteArray.ext
  rw [ByteArray.data_extract]
  apply Array.toList_inj.1
  rw [Array.toList_extract]
  show (l.drop 0).take (k - 0) = l.take k
  rw [List.drop_zero, Nat.sub_zero]
set_option maxRecDepth 100000 in
set_option maxHeartbeats 6400000 in
theorem attestParses_walk (e n0 n1 p0 p1 : Nat) (he : e ≤ 4294967295) (hn0 : n0 ≤ 255) (hn1 : n1 ≤ 255) (hp0 : p0 ≤ 65535) (hp1 : p1 ≤ 65535) (w : World) (hr : ShaReady w) :
    Calls Tryd.prog 6 #[.int .u32 e, .agg #[.int .u8 n0, .int .u8 n1], .agg #[.int .u16 p0, .int .u16 p1]] w fun r w' => r = .returned (.bool true) ∧ w.grownBy w' none := by
  have HR := Lib.hid hr
  have h15 := and15a n0 (by omega)
  have h63 := and63a n1 (by omega)
  obtain ⟨b, hb⟩ : ∃ b, n0 % 16 = b := ⟨_, rfl⟩
  obtain ⟨n, hn⟩ : ∃ n, n1 % 64 = n := ⟨_, rfl⟩
  rw [hb] at h15
  rw [hn] at h63
  have ho : attOk e b n noughts22 = true := attOk_iff.2 ⟨he, by omega, by omega, rfl⟩
  obtain ⟨O, hO⟩ : ∃ O, openS (seed22 98) = O := ⟨_, rfl⟩
  obtain ⟨R, hR⟩ : ∃ R, rootK (seed22 98) 0 = R := ⟨_, rfl⟩
  obtain ⟨C, hC⟩ : ∃ C, chainsS (seed22 98) 0 (amsgS e b n noughts22) = C := ⟨_, rfl⟩
  have hC35 : C.length = 35 := by rw [← hC]; exact chains_35 _ _ _
  have hC16 : ∀ t ∈ C, t.size = 16 := by rw [← hC]; exact chains_16 _ _ _
  have hg : (str (sigB 0 C [])).size = 562 := by rw [str_size, sigB_len 0 C [] hC35 hC16 (fun t ht => by cases ht)]; rfl
  obtain ⟨T, hT⟩ : ∃ T, str (attB e b n noughts22 (str (sigB 0 C []))) = T := ⟨_, rfl⟩
  have hlen : (attB e b n noughts22 (str (sigB 0 C []))).length = 587 := by rw [attB_len _ _ _ _ _ rfl, hg]
  have hTs : T.size = 587 := by rw [← hT, str_size, hlen]
  obtain ⟨k, hk⟩ : ∃ k, p0 % 587 = k := ⟨_, rfl⟩
  have hk587 : k < 587 := by omega
  have hk1 : (p0 : Int) % 587 = (k : Int) := by omega
  have hk2 : (p0 : Int).tmod 587 = (k : Int) := by rw [Int.tmod_eq_emod_of_nonneg (by omega)]; exact hk1
  obtain ⟨d, hd⟩ : ∃ d, p1 % 255 = d := ⟨_, rfl⟩
  have hd1 : (p1 : Int) % 255 = (d : Int) := by omega
  have hd2 : (p1 : Int).tmod 255 = (d : Int) := by rw [Int.tmod_eq_emod_of_nonneg (by omega)]; exact hd1
  obtain ⟨d1, hdd⟩ : ∃ d1, 1 + d = d1 := ⟨_, rfl⟩
  have hd3 : 1 + (d : Int) = (d1 : Int) := by omega
  have hd255 : d1 ≤ 255 := by omega
  have hdlt : d ≤ 254 := by omega
  have HSI := Lib.hid (fun w' q => signed_sp (seed22 98) (by show 1 ≤ 1000; decide) e b n e b n rfl rfl rfl noughts22 O R C ho hO hR hC w' q)
  have HEN := Lib.hid (fun ca pa cc pc w' q2 q3 => encode_sp e b n e b n rfl rfl rfl noughts22 T C ho hC35 hC16 hT ca pa cc pc w' q2 q3)
  have HCUT := Lib.hid (fun w' => adecode_bad (T.extract 0 k) (by rw [ByteArray.size_extract]; omega) 3 (by rw [← hT, take_str22]; exact decA_cut e b n noughts22 _ ho (by omega) k (by omega)) (by decide) w')
  have HLONG := Lib.hid (fun w' => adecode_bad (T ++ ⟨#[120]⟩) (by rw [ByteArray.size_append, hTs]; decide) 2 (by rw [← hT, app_x22]; exact decA_long e b n noughts22 _ ho (by omega)) (by decide) w')
  unfold seed22 at HSI
  unfold noughts22 at HSI HEN
  have HTS := Lib.hid hTs
  obtain ⟨m, hm⟩ : ∃ m, w.heap.size = m := ⟨_, rfl⟩
  have hb0 := heap_alloc_at w (.cells #[.int .u8 n0, .int .u8 n1] 41) m hm
  have hg0 := World.grownBy_alloc w (.cells #[.int .u8 n0, .int .u8 n1] 41) none
  obtain ⟨W0, hW0⟩ : ∃ W0, w.alloc (.cells #[.int .u8 n0, .int .u8 n1] 41) = W0 := ⟨_, rfl⟩
  rw [hW0] at hb0 hg0
  have hz0 : W0.heap.size = m + 1 := by rw [← hW0, World.size_alloc, hm]
  have hb1 := heap_alloc_at W0 (.cells #[.int .u16 p0, .int .u16 p1] 43) (m + 1) hz0
  have hg1 := World.grownBy_alloc W0 (.cells #[.int .u16 p0, .int .u16 p1] 43) none
  obtain ⟨W1, hW1⟩ : ∃ W1, W0.alloc (.cells #[.int .u16 p0, .int .u16 p1] 43) = W1 := ⟨_, rfl⟩
  rw [hW1] at hb1 hg1
  have S1 := Lib.hid (And.intro (grownBy_trans hg0 hg1) (And.intro (hg1.heap hb0 (by simp)) hb1))
  have HW := Lib.hid (And.intro hW0 (And.intro hW1 (And.intro hm hz0)))
  have HSP := Lib.hid (att_speaks W1 (hr.grown (grownBy_trans hg0 hg1)))
  have b15 : b ≤ 15 := by omega
  have n63 : n ≤ 63 := by omega
  clear hr hb hn ho hO hR hC hC35 hC16 hg hT hlen hTs hk hd hdd hm hb0 hg0 hW0 hz0 hb1 hg1 hW1
  go_enter Tryd.func6, Tryd.ntmps6
  go_wp2_with (first | rw [HW.out.1, HW.out.2.2.1] | rw [HW.out.2.1, HW.out.2.2.2] | rw [HW.out.1] | rw [HW.out.2.1])
  refine HSP.out.mono ?_
  rintro r w2 ⟨rfl, g2⟩
  have S2 := Lib.hid (And.intro (grownBy_trans S1.out.1 g2) (And.intro (g2.heap S1.out.2.1 (by simp)) (g2.heap S1.out.2.2 (by simp))))
  clear g2 S1 HSP
  have u0 : w2.cell? ⟨m, 0, none⟩ = some (.int .u8 n0) := by rw [cell_of S2.out.2.1]; rfl
  have u1 : w2.cell? ⟨m, 1, none⟩ = some (.int .u8 n1) := by rw [cell_of S2.out.2.1]; rfl
  go_wp2_with fail
  refine (HSI.out _ (HR.out.grown S2.out.1)).mono ?_
  rintro r w3 ⟨ca, cc, pa, pc, rfl, hc, hp, g3⟩
  obtain ⟨XB, hXB⟩ : ∃ XB, w3.heap.size = XB := ⟨_, rfl⟩
  have ha := heap_alloc_at w3 (.cells #[.int .u64 e, .int .i64 b, .string ⟨#[0, 0, 0, 0, 0, 0, 0, 0, 0, 0, 0, 0, 0, 0, 0, 0]⟩, .int .i64 n, .int .i64 0, .slice ca 35 cc, .slice pa 0 pc] 48) XB hXB
  have hga := World.grownBy_alloc w3 (.cells #[.int .u64 e, .int .i64 b, .string ⟨#[0, 0, 0, 0, 0, 0, 0, 0, 0, 0, 0, 0, 0, 0, 0, 0]⟩, .int .i64 n, .int .i64 0, .slice ca 35 cc, .slice pa 0 pc] 48) none
  obtain ⟨Wa, hWa⟩ : ∃ Wa, w3.alloc (.cells #[.int .u64 e, .int .i64 b, .string ⟨#[0, 0, 0, 0, 0, 0, 0, 0, 0, 0, 0, 0, 0, 0, 0, 0]⟩, .int .i64 n, .int .i64 0, .slice ca 35 cc, .slice pa 0 pc] 48) = Wa := ⟨_, rfl⟩
  rw [hWa] at ha hga
  have hgp := World.grownBy_alloc Wa (.cells #[.string O, .string R, .int .i64 0] 50) none
  obtain ⟨Wb, hWb⟩ : ∃ Wb, Wa.alloc (.cells #[.string O, .string R, .int .i64 0] 50) = Wb := ⟨_, rfl⟩
  rw [hWb] at hgp
  have g3b := grownBy_trans g3 (grownBy_trans hga hgp)
  have S3 := Lib.hid (And.intro (grownBy_trans S2.out.1 g3b) (g3b.heap S2.out.2.2 (by simp)))
  have A3 := Lib.hid (And.intro (hc.grown (grownBy_trans hga hgp)) (hp.grown (grownBy_trans hga hgp)))
  have HW3 := Lib.hid (And.intro hWa (And.intro hWb hXB))
  clear g3 g3b hc hp ha hga hWa hgp hWb hXB HSI S2 u0 u1
  go_wp2_with fail
  rw [HW3.out.1, HW3.out.2.1, HW3.out.2.2]
  refine (HEN.out ca pa cc pc _ A3.out.1 A3.out.2).mono ?_
  rintro r w4 ⟨rfl, g4⟩
  have S4 := Lib.hid (And.intro (grownBy_trans S3.out.1 g4) (g4.heap S3.out.2 (by simp)))
  clear g4 S3 A3 HEN
  have u0 : w4.cell? ⟨m + 1, 0, none⟩ = some (.int .u16 p0) := by rw [cell_of S4.out.2]; rfl
  have hTs := HTS.out
  go_wp2_with fail
  refine (HCUT.out _).mono ?_
  rintro r w5 ⟨rfl, g5⟩
  have gz := World.grownBy_alloc w5 (.cells #[.int .u64 0, .int .i64 0, .string ⟨#[]⟩, .int .i64 0, .int .i64 0, .slice none 0 0, .slice none 0 0] 48) none
  have S5 := Lib.hid (And.intro (grownBy_trans S4.out.1 (grownBy_trans g5 gz)) ((grownBy_trans g5 gz).heap S4.out.2 (by simp)))
  clear g5 gz S4 u0 HCUT
  go_wp2_with fail
  refine (HLONG.out _).mono ?_
  rintro r w6 ⟨rfl, g6⟩
  have gz := World.grownBy_alloc w6 (.cells #[.int .u64 0, .int .i64 0, .string ⟨#[]⟩, .int .i64 0, .int .i64 0, .slice none 0 0, .slice none 0 0] 48) none
  have S6 := Lib.hid (And.intro (grownBy_trans S5.out.1 (grownBy_trans g6 gz)) ((grownBy_trans g6 gz).heap S5.out.2 (by simp)))
  clear g6 gz S5 HLONG
  go_upto_region 9 with fail
  obtain ⟨w7, hw7⟩ : ∃ w7, w6.alloc (.cells #[.int .u64 0, .int .i64 0, .string ⟨#[]⟩, .int .i64 0, .int .i64 0, .slice none 0 0, .slice none 0 0] 48) = w7 := ⟨_, rfl⟩
  rw [hw7] at S6 ⊢
  clear hw7
  have hcv := conv_bytes T w7
  rw [hTs] at hcv
  have hg := grown_bytes T w7 5
  have hbn := Lib.bytesWorld_at_new w7 5 T
  obtain ⟨W8, hW8⟩ : ∃ W8, Lib.bytesWorld w7 5 T = W8 := ⟨_, rfl⟩
  rw [hW8] at hcv hg hbn
  generalize grownCap w7 587 0 5 = CP at hcv
  obtain ⟨v, hv⟩ : ∃ v : UInt8, T.data.toList.getD k 0 = v := ⟨_, rfl⟩
  have hcell : W8.cell? ⟨w7.heap.size, k, none⟩ = some (.int .u8 v.toNat) := by
    rw [← hW8, Lib.bytesWorld_cell w7 _ T k (by omega), hv]
  have hfree : W8.frozen? ⟨w7.heap.size, k, none⟩ = false := by
    have hs : 587 ≤ (Lib.bytesCells w7 5 T).size := by unfold Lib.bytesCells; rw [Array.size_append, Array.size_map]; have : T.data.size = 587 := hTs; omega
    simp [World.frozen?, hbn]
    omega
  have hx : bits .xor .u8 (v.toNat : Int) (d1 : Int) = ((UInt8.ofNat (v.toNat ^^^ d1)).toNat : Int) := by
    have hor : v.toNat ^^^ d1 < 256 := Nat.xor_lt_two_pow (n := 8) (UInt8.toNat_lt v) (by omega)
    rw [u8_xor_nat _ _ (UInt8.toNat_lt v) (by omega), UInt8.toNat_ofNat_of_lt' hor]
  generalize UInt8.ofNat (v.toNat ^^^ d1) = u at hx
  obtain ⟨YB, hYB⟩ : ∃ YB, w7.heap.size = YB := ⟨_, rfl⟩
  have hLl : (T.data.toList.set k u).length = 587 := by rw [List.length_set, Array.length_toList]; exact hTs
  have hfc := flip_cells T w7 YB k hYB u
  rw [hW8, ← hx] at hfc
  have hfc0 := hfc (W8.setCell ⟨YB, k, none⟩ (.int .u8 (bits .xor .u8 (v.toNat : Int) (d1 : Int)))).drew rfl
  have hfc1 := conv_cells (T.data.toList.set k u) 587 hLl YB CP _ hfc0
  have HFC : Hid (∀ w', (W8.setCell ⟨YB, k, none⟩ (.int .u8 (bits .xor .u8 (v.toNat : Int) (d1 : Int)))).drew.grownBy w' none → (convert 57 9 (.slice (some ⟨YB, 0, none⟩) 587 CP)).run Tryd.prog w' = .ok (.string (str (T.data.toList.set k u))) w') := Lib.hid (fun w' g => conv_cells _ 587 hLl YB CP w' (cells_grown g hfc0))
  have hJs : (str (T.data.toList.set k u)).size = 587 := by show (T.data.toList.set k u).length = 587; rw [List.length_set, Array.length_toList]; exact hTs
  obtain ⟨J, hJ⟩ : ∃ J, str (T.data.toList.set k u) = J := ⟨_, rfl⟩
  rw [hJ] at hfc1 hJs HFC
  rw [hYB] at hcell hcv hfree hbn
  have u0 : W8.cell? ⟨m + 1, 0, none⟩ = some (.int .u16 p0) := by rw [cell_of (hg.heap S6.out.2 (by simp))]; rfl
  have u1 : W8.cell? ⟨m + 1, 1, none⟩ = some (.int .u16 p1) := by rw [cell_of (hg.heap S6.out.2 (by simp))]; rfl
  have hgN : w.grownBy (W8.setCell ⟨YB, k, none⟩ (.int .u8 (bits .xor .u8 (v.toNat : Int) (d1 : Int)))).drew none := grownBy_drew (grownBy_setNew (grownBy_trans S6.out.1 hg) (by rw [← hYB]; exact S6.out.1.size) k _)
  have HGN := Lib.hid hgN
  have HJS := Lib.hid hJs
  have k0 : (0 : Int) ≤ (k : Int) := by omega
  have k1 : (k : Int) < 587 := by omega
  clear hg hW8 hfc hfc0 hLl hJs hbn hgN hx hv hJ S6 hYB
  go_wp2_with fail
  go_region
  go_wp2_with fail
  obtain ⟨W9, hW9⟩ : ∃ W9, (W8.setCell ⟨YB, k, none⟩ (.int .u8 (bits .xor .u8 (v.toNat : Int) (d1 : Int)))).drew = W9 := ⟨_, rfl⟩
  rw [hW9] at HGN HFC ⊢
  clear hW9 hfc1 hcell hfree u0 u1 hcv hTs h15 h63 hk1 hk2 hd1 hd2 hd3 k0 k1
  obtain ⟨D, hD⟩ : ∃ D, decA J = D := ⟨_, rfl⟩
  obtain ⟨G, hG⟩ : ∃ G, decG D.t = G := ⟨_, rfl⟩
  have hdec := adecode_any J (by have := HJS.out; omega) W9
  have HBK := Lib.hid (fun he ca pa cc pc M hM w' q1 q2 => aback_any J he D hD G hG ca pa cc pc M hM w' q1 q2)
  obtain ⟨er, her⟩ : ∃ er, (decA J).err = er := ⟨_, rfl⟩
  rw [her] at hdec HBK
  rw [hD, hG] at hdec
  have HDEC := Lib.hid hdec
  clear hdec her hD hG
  by_cases h0 : er = 0
  · subst h0
    refine HDEC.out.mono ?_
    rintro r w10 ⟨ca2, cc2, pa2, pc2, rfl, hq, g10⟩
    obtain ⟨q1, q2⟩ := hq rfl
    rw [if_pos rfl]
    obtain ⟨M, hM⟩ : ∃ M, min G.n 6 = M := ⟨_, rfl⟩
    rw [hM] at q2 ⊢
    have HB := Lib.hid (fun w' r1 r2 => HBK.out rfl ca2 pa2 cc2 pc2 M hM w' r1 r2)
    unfold attV
    have gz := World.grownBy_alloc w10 (.cells #[.int .u64 D.e, .int .i64 D.b, .string D.h, .int .i64 D.n, .int .i64 G.i, .slice ca2 35 cc2, .slice pa2 M pc2] 48) none
    have hbz := heap_alloc_at w10 (.cells #[.int .u64 D.e, .int .i64 D.b, .string D.h, .int .i64 D.n, .int .i64 G.i, .slice ca2 35 cc2, .slice pa2 M pc2] 48) _ rfl
    have S10 := Lib.hid (And.intro (grownBy_trans g10 gz) (And.intro hbz (And.intro (q1.grown gz) (q2.grown gz))))
    obtain ⟨x0, x1, x2, x3, x4, x5, x6⟩ := cells7 hbz
    clear gz hbz q1 q2 hq g10 HBK HDEC hM
    go_wp2_with fail
    refine (HB.out _ S10.out.2.2.1 S10.out.2.2.2).mono ?_
    rintro r w11 ⟨rfl, g11⟩
    have gf := grownBy_trans S10.out.1 g11
    have hcf := HFC.out _ gf
    have HGF := Lib.hid (grownBy_trans HGN.out gf)
    have hbe : (J.toList == J.toList) = true := by simp
    clear gf g11 x0 x1 x2 x3 x4 x5 x6
    go_wp2_with fail
    go_ret
    exact ⟨rfl, HGF.out⟩
  · refine HDEC.out.mono ?_
    rintro r w10 ⟨ca2, cc2, pa2, pc2, rfl, hq, g10⟩
    rw [if_neg h0]
    have hb0 : (er != 0) = true := by simp [h0]
    unfold attZ attV
    have gz := World.grownBy_alloc w10 (.cells #[.int .u64 0, .int .i64 0, .string ⟨#[]⟩, .int .i64 0, .int .i64 0, .slice none 0 0, .slice none 0 0] 48) none
    have hbz := heap_alloc_at w10 (.cells #[.int .u64 0, .int .i64 0, .string ⟨#[]⟩, .int .i64 0, .int .i64 0, .slice none 0 0, .slice none 0 0] 48) _ rfl
    have S10 := Lib.hid (And.intro (grownBy_trans g10 gz) hbz)
    obtain ⟨x0, x1, x2, x3, x4, x5, x6⟩ := cells7 hbz
    have HMB : Hid (∀ w', Calls Tryd.prog 20 #[.agg #[.int .u64 0, .int .i64 0, .string ⟨#[]⟩, .int .i64 0, .int .i64 0, .slice none 0 0, .slice none 0 0]] w' fun r w'' => r = .returned (.string ⟨#[]⟩) ∧ w'.grownBy w'' none) := Lib.hid (fun w' => amsg_bad 0 0 ⟨#[]⟩ 0 0 none none 0 0 0 0 (by decide) w')
    clear gz hbz hq g10 HBK HDEC h0
    go_wp2_with fail
    refine (HMB.out _).mono ?_
    rintro r w11 ⟨rfl, g11⟩
    have HGF := Lib.hid (grownBy_trans HGN.out (grownBy_trans S10.out.1 g11))
    have hb11 := g11.heap S10.out.2 (by simp)
    clear g11 x0 x1 x2 x3 x4 x5 x6
    obtain ⟨x0, x1, x2, x3, x4, x5, x6⟩ := cells7 hb11
    clear hb11
    go_wp2_with fail
    go_ret
    exact ⟨rfl, HGF.out⟩
theorem attestParses_below (e : Int) (he : 0 ≤ e ∧ e ≤ 4294967295) (a : List UInt8) (ha : a.length = 2) (l : List Int) (hl : l.length = 2) (hz : ∀ x ∈ l, (Lit.int .u16 x).wf = true) (w : World) (hr : ShaReady w) :
    Calls Tryd.prog 6 #[.int .u32 e, .agg (a.map (fun c : UInt8 => Value.int .u8 c.toNat)).toArray, .agg (l.map (Value.int .u16)).toArray] w fun r w' => r = .returned (.bool true) ∧ Below w.heap.size w w' := by
  obtain ⟨e, rfl⟩ := Int.eq_ofNat_of_zero_le he.1
  match a, ha, l, hl with
  | [n0, n1], _, [p0, p1], _ =>
    have h0 : 0 ≤ p0 ∧ p0 ≤ 65535 := by simpa [Lit.wf, IntKind.min, IntKind.max, IntKind.signed, IntKind.bits] using hz p0 (by simp)
    have h1 : 0 ≤ p1 ∧ p1 ≤ 65535 := by simpa [Lit.wf, IntKind.min, IntKind.max, IntKind.signed, IntKind.bits] using hz p1 (by simp)
    obtain ⟨p0, rfl⟩ := Int.eq_ofNat_of_zero_le h0.1
    obtain ⟨p1, rfl⟩ := Int.eq_ofNat_of_zero_le h1.1
    have := n0.toNat_lt
    have := n1.toNat_lt
    exact (attestParses_walk e n0.toNat n1.toNat p0 p1 (by omega) (by omega) (by omega) (by omega) (by omega) w hr).mono fun _ _ h => ⟨h.1, below_grownBy h.2⟩
end Go.Proofs.YtioahjdojgcfdaaDoor
