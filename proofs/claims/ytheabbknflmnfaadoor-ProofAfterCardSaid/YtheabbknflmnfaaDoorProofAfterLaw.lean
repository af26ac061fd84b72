/- The walk of the law ProofAfter. -/
import Derived.Test.YtheabbknflmnfaaDoorPrfEFJ
namespace Go.Proofs.YtheabbknflmnfaaDoor
open Go.RowKit Go.Maps
attribute [local irreducible] shaL

theorem puts_grownA {w w' : World} {x : Option Addr} {n c : Nat} {L : List PutS} (h : PutsAt w (.slice x n c) L) (g : w.grownBy w' none) : PutsAt w' (.slice x n c) L := by
  obtain ⟨a', cap', e, hc⟩ := h
  refine ⟨a', cap', e, fun i hi => ?_⟩
  obtain ⟨g', o, e2, h1, h2, h3⟩ := hc i hi
  exact ⟨g', o, e2, g.cell h1 (by simp), g.cell h2 (by simp), g.cell h3 (by simp)⟩
set_option maxRecDepth 100000 in
set_option maxHeartbeats 8000000 in
theorem proofAfter_walk (L : List PutS) (x : Option Addr) (n c : Nat) (a b z : UInt8) (V : ByteArray) (hVs : V.size ≤ maxLen) (w : World) (hr : ShaReady w) (hv : PutsAt w (.slice x n c) L) (hsz : ∀ p ∈ L, p.2.2.size ≤ maxLen) (hn : n ≤ maxLen) :
    Calls Tryd.prog 5 #[.slice x n c, .agg #[.int .u8 a.toNat, .int .u8 b.toNat, .string V], .int .u8 z.toNat] w fun e w' => e = .returned (.bool true) ∧ Below w.heap.size w w' := by
  have hb0 := heap_alloc_at w (.cells #[.int .u8 a.toNat, .int .u8 b.toNat, .string V] 62) _ rfl
  have hg0 : w.grownBy (w.alloc (.cells #[.int .u8 a.toNat, .int .u8 b.toNat, .string V] 62)) none := World.grownBy_alloc _ _ _
  have HSP := Lib.hid (prf_speaks _ (hr.grown hg0))
  have HV := Lib.hid (And.intro (puts_grownA hv hg0) (And.intro hsz hn))
  have HR := Lib.hid hr
  have HKEY := Lib.hid (fun (w' : World) => key14_any a b w')
  have hks := keyS14_size a b
  generalize keyS14 a b = K at HKEY hks
  have HKS := Lib.hid hks
  have HCU := Lib.hid (cut20_eq V)
  have hcv := cut20_size V
  unfold maxLen at hVs
  clear hr hv hsz hn hks
  go_enter Tryd.func5, Tryd.ntmps5
  go_wp2_with fail
  refine HSP.out.mono ?_
  rintro e w1 ⟨rfl, g1⟩
  have HB := Lib.hid (both_any w1 x n c L (puts_grownA HV.out.1 g1) HV.out.2.1 HV.out.2.2)
  have hb1 := g1.heap hb0 (by simp)
  have hg1 := grownBy_trans hg0 g1
  obtain ⟨BX, hBX⟩ : ∃ BX, w.heap.size = BX := ⟨_, rfl⟩
  rw [hBX] at hb1 ⊢
  have H1 := Lib.hid (And.intro hg1 hb1)
  clear hb0 hg0 g1 hb1 hg1 hBX HSP HV
  go_wp2_with fail
  refine HB.out.mono ?_
  rintro e w2 ⟨mv, tb, rfl, hPA, hT, g2⟩
  have hok := bothM_ok (L.take 12) (List.length_take_le 12 L)
  generalize bothM (L.take 12) = M at hPA hT hok
  have hP := plain_of hok.1 hok.2
  obtain ⟨ma, mc, rfl, hmc, hmm, hcells⟩ := hPA
  have hvs : ∀ y ∈ M, y.2.size ≤ 1000 := fun y hy => by have := (hok.1 y hy).2; omega
  have hc2 := g2.heap H1.out.2 (by simp)
  have ca : w2.cell? ⟨BX, 0, none⟩ = some (.int .u8 a.toNat) := by rw [cell_of hc2]; rfl
  have cb : w2.cell? ⟨BX, 1, none⟩ = some (.int .u8 b.toNat) := by rw [cell_of hc2]; rfl
  have hT := hT.more (World.grownBy.refl _ _) (Y := []) (fun i hi => by cases hi)
  have HG2 := Lib.hid (And.intro (grownBy_trans H1.out.1 g2) (And.intro hc2 g2))
  obtain ⟨N0, hN0⟩ : ∃ N0, w1.heap.size = N0 := ⟨_, rfl⟩
  rw [hN0] at hT
  have HN0 := Lib.hid hN0
  have HT := Lib.hid hT
  have HP := Lib.hid (And.intro hP (And.intro hvs hok))
  clear hcells hmm hT hP hvs g2 HB hc2 hN0 hok
  go_wp2_with fail
  refine (HKEY.out _).mono ?_
  rintro e w3 ⟨rfl, g3⟩
  have G3 := Lib.hid (And.intro (grownBy_trans HG2.out.1 g3) g3)
  have hc3 := g3.heap HG2.out.2.1 (by simp)
  have cv : w3.cell? ⟨BX, 2, none⟩ = some (.string V) := by rw [cell_of hc3]; rfl
  have HPR := Lib.hid (fun (k : Nat) (hk : k ≤ 128) (w' : World) (q : w3.grownBy w' none) => prove_own N0 [] w' tb M K k (HT.out.grown (grownBy_trans g3 q)) HP.out.1 HP.out.2.1 HKS.out hk (HR.out.grown (grownBy_trans G3.out.1 q)))
  obtain ⟨d, hd⟩ : ∃ d, z.toNat % 30 = d := ⟨_, rfl⟩
  have hd4 : d ≤ 128 := by omega
  have hz8 := z.toNat_lt
  have hw1 : IntKind.i64.wrap (z.toNat : Int) = (z.toNat : Int) := IntWalk.i64_in _ (by omega)
  have hrem : Int.tmod (z.toNat : Int) 30 = (d : Int) := by rw [Int.tmod_eq_emod_of_nonneg (by omega)]; omega
  have hrem2 : (z.toNat : Int) % 30 = (d : Int) := by omega
  have hz1 : (0 : Int) ≤ min (V.size : Int) 20 := by omega
  have hz2 : min (V.size : Int) 20 ≤ (V.size : Int) := by omega
  have HD := Lib.hid hd4
  have HT3 := Lib.hid (And.intro (HT.out.grown g3) (grownBy_trans HG2.out.2.2 g3))
  clear g3 ca cb HT hc3
  go_wp2_with fail
  rw [HCU.out]
  obtain ⟨y, hy⟩ : ∃ y, cut20 V = y := ⟨_, rfl⟩
  rw [hy] at hcv ⊢
  have HCV := Lib.hid hcv
  clear hy HCU cv hw1 hrem hrem2 hz1 hz2 hcv
  refine (HPR.out d HD.out w3 (World.grownBy.refl _ _)).mono ?_
  rintro e w4 ⟨b4, rfl, ho4, g4⟩
  obtain ⟨a4, q4, rfl⟩ := ho4.form
  have hAF := fun (w' : World) (q : w4.grownBy w' none) => (ho4.grown q).after y (by have := HCV.out; omega)
  obtain ⟨t0, ht0⟩ : ∃ t, decide (restT M K d ≠ []) = t := ⟨_, rfl⟩
  obtain ⟨k0, hk0⟩ : ∃ k, keyOf (restT M K d) = k := ⟨_, rfl⟩
  obtain ⟨y0, hy0⟩ : ∃ y, valOf (restT M K d) = y := ⟨_, rfl⟩
  obtain ⟨lp, hlp⟩ : ∃ l, (wayT M K d).length = l := ⟨_, rfl⟩
  rw [ht0, hk0, hy0, hlp] at hAF ⊢
  have HAF := Lib.hid hAF
  have hp5 := ProofIn.new w4 (.slice a4 lp q4) t0 k0 y0
  have hg5 : w4.grownBy (w4.alloc (.cells #[.slice a4 lp q4, .bool t0, .string k0, .string y0] 51)) none := World.grownBy_alloc _ _ _
  clear ht0 hk0 hy0 hlp ho4 hAF HPR
  go_wp2_with fail
  obtain ⟨W5, hW5⟩ : ∃ W5, w4.alloc (.cells #[.slice a4 lp q4, .bool t0, .string k0, .string y0] 51) = W5 := ⟨_, rfl⟩
  rw [hW5] at hp5 hg5 ⊢
  refine (HAF.out W5 hg5).mono ?_
  rintro e w6 ⟨rfl, g6⟩
  have g36 := grownBy_trans g4 (grownBy_trans hg5 g6)
  have HT6 := Lib.hid (And.intro (HT3.out.1.grown g36) (grownBy_trans HT3.out.2 g36))
  have hone := HT6.out.1.one
  obtain ⟨ND, hND⟩ : ∃ l, nodeAt (setM M (K, y)) K d = l := ⟨_, rfl⟩
  have HPUT := Lib.hid (tput_any N0 [] w6 tb M K y HT6.out.1 (fun x hx => by cases hx) (by rw [← HN0.out]; exact HT6.out.2.size) HKS.out (by have := HCV.out; omega) (by have := HP.out.2.2.2; omega))
  have hP2 : Plain (setM M (K, y)) := by
    refine ⟨fun x hx => ?_, fun x hx => ?_, ?_⟩
    · rcases List.mem_append.1 hx with q | q
      · exact HP.out.1.k16 x (List.mem_filter.1 q).1
      · rw [List.mem_singleton.1 q]; exact HKS.out
    · rcases List.mem_append.1 hx with q | q
      · exact HP.out.1.small x (List.mem_filter.1 q).1
      · rw [List.mem_singleton.1 q]; have := HCV.out; show y.size ≤ _; omega
    · have := setM_len M (K, y); have := HP.out.2.2.2; omega
  have HND : Hid (∀ w' : World, TreeK N0 [] w' tb (setM M (K, y)) → ShaReady w' → Calls Tryd.prog 29 #[.pointer (some ⟨tb, 0, none⟩), .string K, .int .i64 d] w' fun e w'' => e = .returned (.string ND) ∧ w'.grownBy w'' none) := by
    intro w' hT hr
    have h := tnode_any N0 [] w' tb (setM M (K, y)) K (d : Int) hT hP2 (by rw [HKS.out]; unfold maxLen; omega) hr
    rw [capD_at d HD.out, hND] at h
    exact h
  rw [hND]
  have hself : (ND.toList == ND.toList) = true := by simp
  clear hW5 hp5 hg5 g6 g36 g4 HAF hone hND hP2 HT3
  go_wp2_with fail
  refine HPUT.out.mono ?_
  rintro e w7 ⟨rfl, hT7, t7⟩
  have hb7 := below_grownBy HT6.out.2
  rw [HN0.out] at hb7
  have h7 := t7.bel hb7 (by rw [← HN0.out]; exact hb7.size)
  rw [← HN0.out] at h7
  have hw7 := grownBy_trans H1.out.1 (grownBy_below h7)
  have HND7 := Lib.hid (HND.out w7 hT7 (HR.out.grown hw7))
  have HW7 := Lib.hid hw7
  clear hT7 t7 hb7 h7 hw7 HPUT HND HT6
  go_wp2_with fail
  refine HND7.out.mono ?_
  rintro e w8 ⟨rfl, g8⟩
  have HW8 := Lib.hid (grownBy_trans HW7.out g8)
  clear g8
  go_wp2_with fail
  go_ret
  exact ⟨rfl, below_grownBy HW8.out⟩
theorem proofAfter_ints (L : List PutS) (x : Option Addr) (n c : Nat) (a b : UInt8) (V : ByteArray) (hVs : V.size ≤ maxLen) (z : Int) (hz : 0 ≤ z ∧ z ≤ 255) (w : World) (hr : ShaReady w) (hv : PutsAt w (.slice x n c) L) (hsz : ∀ p ∈ L, p.2.2.size ≤ maxLen) (hn : n ≤ maxLen) :
    Calls Tryd.prog 5 #[.slice x n c, .agg #[.int .u8 a.toNat, .int .u8 b.toNat, .string V], .int .u8 z] w fun e w' => e = .returned (.bool true) ∧ Below w.heap.size w w' := by
  have h := proofAfter_walk L x n c a b (UInt8.ofNat z.toNat) V hVs w hr hv hsz hn
  have e : ((UInt8.ofNat z.toNat).toNat : Int) = z := by
    rw [UInt8.toNat_ofNat_of_lt' (show z.toNat < 256 by omega)]
    omega
  rw [e] at h
  exact h
end Go.Proofs.YtheabbknflmnfaaDoor
