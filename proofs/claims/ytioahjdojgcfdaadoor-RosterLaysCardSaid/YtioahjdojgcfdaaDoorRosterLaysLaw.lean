/- The walk of the law RosterLays. -/
import Derived.Test.YtioahjdojgcfdaaDoorRosK
import Derived.Deep.DeepCutAuto
import Derived.Deep.CutBlock
import Derived.Deep.RegionHeld3
import Derived.Deep.RegionHeld
namespace Go.Proofs.YtioahjdojgcfdaaDoor
open Go.RowKit
attribute [local irreducible] shaL

theorem and_fifteen (c : Nat) (h : c < 256) : bits .and .u8 (c : Int) 15 = ((c % 16 : Nat) : Int) := by
  rw [show (15 : Int) = ((15 : Nat) : Int) from rfl, u8_and_nat _ _ h (by omega)]
  have : c &&& 15 = c % 16 := Nat.and_two_pow_sub_one_eq_mod c 4
  rw [this]
theorem hcvG (k : Nat) (hk : k < 256) (u u' : World) (g : (u.alloc (.cells #[.int .u8 k] 5)).grownBy u' none) :
    (convert 57 9 (.slice (some ⟨u.heap.size, 0, none⟩) 1 1)).run Tryd.prog u' = .ok (.string (str [UInt8.ofNat k])) u' := by
  have h : u'.heap[u.heap.size]? = some (.cells (u8s [UInt8.ofNat k]).toArray 5 (0, 0)) := by
    refine g.heap ?_ (by simp)
    rw [show (u8s [UInt8.ofNat k]).toArray = #[.int .u8 k] from by show #[Value.int .u8 ((UInt8.ofNat k).toNat : Int)] = _; rw [u8n k hk]]
    exact heap_alloc_at _ _ _ rfl
  exact row_string (w := u') (l := [UInt8.ofNat k]) (g := u.heap.size) (t := 5) h _
theorem pubEnc_33 (o r : ByteArray) (h : Int) : (pubEnc o r h).size ≤ 1000 := by
  unfold pubEnc
  split
  · rename_i q
    rw [str_size, pubB_len q]
    decide
  · decide
/-- behind Lay -/
structure RT (w : World) (n rb tb cb : Nat) (v : Value) (wr : World) : Prop where
  gr : w.grownBy wr none
  ros : RosAt w.heap.size rb (LI n) v wr
  tree : TreeK w.heap.size (cb :: rb :: ownR v) wr tb (layM (LI n) n)
theorem RT.go {w : World} {n rb tb cb : Nat} {v : Value} {wr wr' : World} (h : RT w n rb tb cb v wr) (g : wr.grownBy wr' none) : RT w n rb tb cb v wr' :=
  ⟨grownBy_trans h.gr g, h.ros.go g, h.tree.grown g⟩
set_option maxRecDepth 100000 in
set_option maxHeartbeats 6400000 in
theorem rosterLays_walk (c : Nat) (hc : c < 256) (lb : ByteArray) (w : World) (hr : ShaReady w) (hN : NormAt w) :
    Calls Tryd.prog 9 #[.int .u8 c, .string lb] w fun e w' => e = .returned (.bool true) ∧ w.grownBy w' none := by
  have HN := Lib.hid hN
  have HR := Lib.hid hr
  have HSP := Lib.hid (ros_speaks w hN)
  have hand := and_fifteen c hc
  obtain ⟨n, hn⟩ : ∃ n, c % 16 = n := ⟨_, rfl⟩
  have hn15 : n ≤ 15 := by omega
  rw [hn] at hand
  clear hN hr hn
  go_enter Tryd.func9, Tryd.ntmps9
  go_wp2_with fail
  refine HSP.out.mono ?_
  rintro e w1 ⟨rfl, g1⟩
  have HG1 := Lib.hid g1
  clear g1 HSP
  go_wp2_with fail
  refine (rnew_any w1).mono ?_
  rintro e w2 ⟨rfl, hr2, g2⟩
  obtain ⟨rb, hrb⟩ : ∃ rb, w1.heap.size = rb := ⟨_, rfl⟩
  rw [hrb] at hr2 ⊢
  have R2 : Hid (RosAt w.heap.size rb [] (.slice none 0 0) w2) := Lib.hid ⟨hr2, World.ownsRow_nil _ _ _ _, by simp [Value.ownBlock], by rw [← hrb]; exact HG1.out.size⟩
  have HG2 := Lib.hid (grownBy_trans HG1.out g2)
  clear hr2 g2 hrb
  go_wp2_with fail
  refine (tnew_any w.heap.size [rb] w2 (fun x hx => by rw [List.mem_singleton] at hx; subst hx; exact R2.out.lt) HG2.out.size).mono ?_
  rintro e w3 ⟨rfl, ht3, g3⟩
  obtain ⟨tb, htb⟩ : ∃ tb, w2.heap.size = tb := ⟨_, rfl⟩
  rw [htb] at ht3 ⊢
  have R3 : Hid (RL w rb tb (LI 0) (.slice none 0 0) w3) := Lib.hid ⟨grownBy_trans HG2.out g3, R2.out.go g3, ht3⟩
  clear ht3 g3 R2 HG2 HG1 htb
  go_wp2_with fail
  go_loopw [8] (fun iv wr => ∃ i : Nat, i ≤ n ∧ iv = .int .i64 i ∧ ∃ v, Hid (RL w rb tb (LI i) v wr)) (fun iv _ => n - (intOf iv).toNat)
  case atStart => exact ⟨0, Nat.zero_le _, rfl, _, R3⟩
  case round =>
    clear R3
    obtain ⟨i, hi, rfl, v, HI⟩ := hrel
    by_cases hlt : i < n
    · have b0 : (0 : Int) ≤ (i : Int) := by omega
      have b1 : (i : Int) < (n : Int) := by omega
      have b2 : (i : Int) < 256 := by omega
      have b3 : (97 : Int) + (i : Int) < 256 := by omega
      have b4 : (0 : Int) ≤ (97 : Int) + (i : Int) := by omega
      have HK : Hid (∀ w', Calls Tryd.prog 31 #[.int .u8 (i : Int), .int .i64 1] w' fun e w'' => e = .returned (.agg #[.string (keyO (UInt8.ofNat i)), .string noughts20, .int .i64 1]) ∧ w'.grownBy w'' none) := Lib.hid (fun w' => by
        have := key20_any (UInt8.ofNat i) 1 w'
        rwa [u8n i (by omega)] at this)
      have HA : Hid (∀ w', wr.grownBy w' none → Calls Tryd.prog 30 #[.pointer (some ⟨rb, 0, none⟩), .agg #[.string (nmI i), .string (keyO (UInt8.ofNat i)), .string noughts20, .int .i64 1]] w' fun e w'' => e = .returned (.tuple #[.int .i64 (LI i).length, .int .i64 0]) ∧ ∃ v', RL w rb tb (LI (i + 1)) v' w'') := Lib.hid (fun w' g => by
        have := radd_RL HN.out (audI i) (LI_small (i + 1) _ (by rw [LI_succ]; simp)) (addI (by omega)) (HI.out.go g)
        rwa [← LI_succ] at this)
      have HCV := Lib.hid (hcvG (97 + i) (by omega))
      have hnm : nmI i = (⟨#[97]⟩ : ByteArray) ++ str [UInt8.ofNat (97 + i)] := rfl
      have hzs : (str [UInt8.ofNat (97 + i)]).size = 1 := rfl
      generalize str [UInt8.ofNat (97 + i)] = z at hnm hzs HCV
      rw [hnm] at HA
      rw [show ((97 + i : Nat) : Int) = 97 + (i : Int) from by omega] at HCV
      generalize keyO (UInt8.ofNat i) = KO at HK HA
      clear hnm hi
      go_upto_region 9 with fail
      have wi : IntKind.i64.wrap (97 + (i : Int)) = 97 + (i : Int) := IntWalk.i64_in _ (by omega)
      have wu : IntKind.u8.wrap (97 + (i : Int)) = 97 + (i : Int) := IntWalk.u8_in _ (by omega)
      have wv : IntKind.u8.wrap (i : Int) = (i : Int) := IntWalk.u8_in _ (by omega)
      have gk : wr.grownBy wr.drew none := grownBy_drew (World.grownBy.refl _ _)
      have hcvA : ∀ u : World, (convert 57 9 (.slice (some ⟨u.heap.size, 0, none⟩) 1 1)).run Tryd.prog (u.alloc (.cells #[.int .u8 (97 + (i : Int))] 5)).drew = .ok (.string z) (u.alloc (.cells #[.int .u8 (97 + (i : Int))] 5)).drew := fun u => HCV.out u _ (grownBy_drew (World.grownBy.refl _ _))
      have hcvB : ∀ u : World, (convert 57 9 (.slice (some ⟨u.heap.size, 0, none⟩) 1 1)).run Tryd.prog (u.alloc (.cells #[.int .u8 (97 + (i : Int))] 5)) = .ok (.string z) (u.alloc (.cells #[.int .u8 (97 + (i : Int))] 5)) := fun u => HCV.out u _ (World.grownBy.refl _ _)
      go_region_held (fun _ => True) (first | trivial)
        (first
        | (go_at_call 31; (with_reducible refine (HK.out _).mono ?_); rintro e w4 ⟨rfl, g4⟩; first | (have gk := grownBy_trans gk g4) | (have gk := grownBy_trans (grownBy_drew (World.grownBy_alloc wr _ none)) g4; have hcv4 := HCV.out wr _ (grownBy_trans (grownBy_drew (World.grownBy.refl _ none)) g4)))
        | (go_at_call 30; (first | (with_reducible refine (HA.out _ gk).mono ?_) | (with_reducible refine (HA.out _ (grownBy_alloc' gk _)).mono ?_)); rintro e w6 ⟨rfl, v6, h6⟩; have ck := h6))
      all_goals
        have HK6 : Hid (RL w rb tb (LI (i + 1)) v6 w6) := Lib.hid ck
        clear ck gk hcvA hcvB h6
        go_wp2_with fail
        go_roundw
        case rel => exact ⟨i + 1, by omega, by go_num, v6, HK6⟩
        case measure => simp [intOf]; omega
    · have hin : i = n := by omega
      have d1 : ¬ (i : Int) < (n : Int) := by omega
      subst hin
      clear hi hlt
      go_wp2_with fail
      refine (rcopy_any w.heap.size rb (LI i) v (by rw [LI_len]; omega) wr HI.out.ros).mono ?_
      rintro e wc ⟨cb, vc, rfl, hRC, gc⟩
      have HC := Lib.hid (And.intro hRC gc)
      clear hRC gc
      go_wp2_with fail
      refine (key20_any 200 1 wc).mono ?_
      rintro e wd ⟨rfl, gd⟩
      have HAC := Lib.hid (radd_copy (w := w) (wc := wr) (wd := wd) HN.out HI.out.gr (grownBy_trans HC.out.2 gd) zzL.aud (aud_small (by decide)) (addZ hn15) (HC.out.1.go gd))
      unfold AudS.val AudS.cells zzL LA.aud at HAC
      clear gd
      go_wp2_with fail
      refine HAC.out.mono ?_
      rintro e we ⟨rfl, ge, ca, ck, hcb⟩
      have hcbl : wr.heap.size ≤ cb := HC.out.1.l
      rw [LI_len] at hcb
      have HE := Lib.hid (And.intro ge (And.intro hcb hcbl))
      have HLY := Lib.hid (rlay_any w HR.out rb tb (cb :: rb :: ownR v) (LI i) v we (grownBy_trans HI.out.gr ge) (by rw [LI_len]; omega) (LI_small i) (HI.out.ros.go ge)
        (HI.out.tree.more ge (fun y hy => by
          rcases List.mem_cons.1 hy with rfl | hy
          · exact .inr hcbl
          · exact .inl hy)) (List.mem_cons_of_mem _ (List.mem_cons_self ..)) (fun g q => List.mem_cons_of_mem _ (List.mem_cons_of_mem _ (ownR_mem.2 q)))
        (fun y hy => by
          rcases List.mem_cons.1 hy with rfl | hy
          · exact (Array.getElem?_eq_some_iff.1 hcb).1
          · exact Nat.lt_of_lt_of_le (HI.out.lt y hy) ge.size))
      rw [LI_len] at HLY
      clear ge hcb hcbl HAC HC
      go_wp2_with fail
      refine HLY.out.mono ?_
      rintro e wf ⟨rfl, hT, hK⟩
      have gf : w.grownBy wf none := grownBy_below (hK.bel (below_grownBy (grownBy_trans HI.out.gr HE.out.1)) (grownBy_trans HI.out.gr HE.out.1).size)
      have HF : Hid (RT w i rb tb cb v wf) := Lib.hid ⟨gf, (HI.out.ros.go HE.out.1).turn hK (List.mem_cons_of_mem _ (List.mem_cons_self ..)) (fun g q => List.mem_cons_of_mem _ (List.mem_cons_of_mem _ (ownR_mem.2 q))), hT⟩
      have HCB := Lib.hid (hK.inX (List.mem_cons_self ..) HE.out.2.1)
      clear hT hK gf HLY HE HI
      have wn : IntKind.i64.wrap ((i : Int) + 1) = (i : Int) + 1 := IntWalk.i64_in _ (by omega)
      have HML := Lib.hid (layM_len hn15)
      go_wp2_with fail
      refine (tlen_any w.heap.size (cb :: rb :: ownR v) wf tb _ HF.out.tree).mono ?_
      rintro e wg ⟨rfl, rfl⟩
      rw [HML.out]
      obtain ⟨ra, rk, hv⟩ := HF.out.ros.form
      subst hv
      have hlr := rlen_any rb ra (LI i).length rk wf HF.out.ros.h
      rw [LI_len] at hlr
      have HLR := Lib.hid hlr
      clear hlr
      go_wp2_with fail
      refine HLR.out.mono ?_
      rintro e wg ⟨rfl, rfl⟩
      go_wp2_with fail
      refine (rlen_any cb ca (i + 1) ck wf HCB.out).mono ?_
      rintro e wg ⟨rfl, rfl⟩
      clear HLR HCB HML
      rw [show ((i + 1 : Nat) : Int) = (i : Int) + 1 from by omega]
      go_wp2_with fail
      go_loopw [10, 11, 12, 13, 14] (fun jv _ _ _ _ wr => ∃ j : Nat, j ≤ i ∧ jv = .int .i64 j ∧ Hid (RT w i rb tb cb (.slice ra (LI i).length rk) wr)) (fun jv _ _ _ _ _ => i - (intOf jv).toNat)
      case atStart => exact ⟨0, Nat.zero_le _, rfl, HF⟩
      case round =>
        rename World => wr
        clear HF
        obtain ⟨j, hj, rfl, HI⟩ := hrel
        by_cases hlt : j < i
        · have b0 : (0 : Int) ≤ (j : Int) := by omega
          have b1 : (j : Int) < (i : Int) := by omega
          have b2 : (j : Int) < 256 := by omega
          have b3 : (97 : Int) + (j : Int) < 256 := by omega
          have b4 : (0 : Int) ≤ (97 : Int) + (j : Int) := by omega
          have wi : IntKind.i64.wrap (97 + (j : Int)) = 97 + (j : Int) := IntWalk.i64_in _ (by omega)
          have wu : IntKind.u8.wrap (97 + (j : Int)) = 97 + (j : Int) := IntWalk.u8_in _ (by omega)
          have wv : IntKind.u8.wrap (j : Int) = (j : Int) := IntWalk.u8_in _ (by omega)
          have hKO : (keyO (UInt8.ofNat j)).size = 16 := keyO_size _
          have HK : Hid (∀ w', Calls Tryd.prog 31 #[.int .u8 (j : Int), .int .i64 1] w' fun e w'' => e = .returned (.agg #[.string (keyO (UInt8.ofNat j)), .string noughts20, .int .i64 1]) ∧ w'.grownBy w'' none) := Lib.hid (fun w' => by
            have := key20_any (UInt8.ofNat j) 1 w'
            rwa [u8n j (by omega)] at this)
          have hpe : ∀ w', _ := fun w' => pencode_any (keyO (UInt8.ofNat j)) noughts20 1 (by omega) (by decide) w'
          rw [show pubErr (keyO (UInt8.ofNat j)) noughts20 1 = 0 from by rw [pubErr_key]; rfl] at hpe
          unfold pubZ at hpe
          have HPE := Lib.hid hpe
          have hhas := layM_has hn15 hlt HI.out.tree.one
          have HGT := Lib.hid (fun (w' : World) (q : wr.grownBy w' none) => tget_any w.heap.size (cb :: rb :: ownR (.slice ra (LI i).length rk)) w' tb _ (place20 j) ((HI.out.go q).tree) (by rw [place20_size]; decide))
          rw [hhas.1, hhas.2] at HGT
          have HRP := Lib.hid (fun w' => refPlace_any j (by omega) w')
          have HPL := Lib.hid (fun w' q => rplace_any j (by omega) w' q)
          have hpes := pubEnc_33 (keyO (UInt8.ofNat j)) noughts20 1
          have HRV := Lib.hid (fun w' => refVal20_any (nmI j) (pubEnc (keyO (UInt8.ofNat j)) noughts20 1) (by unfold nmI; rw [ByteArray.size_append, str_size]; show 1 + 1 ≤ 1000; decide) hpes w')
          generalize place20 j = PL at HGT HRP HPL
          generalize tagS 16 [nmI j, pubEnc (keyO (UInt8.ofNat j)) noughts20 1] = VA at HGT HRV
          have HCV := hcvG (97 + j) (by omega)
          have hnm : nmI j = (⟨#[97]⟩ : ByteArray) ++ str [UInt8.ofNat (97 + j)] := rfl
          have hzs : (str [UInt8.ofNat (97 + j)]).size = 1 := rfl
          generalize str [UInt8.ofNat (97 + j)] = z at hnm hzs HCV
          rw [hnm] at HRV
          rw [show ((97 + j : Nat) : Int) = 97 + (j : Int) from by omega] at HCV
          have hcvB : ∀ u : World, (convert 57 9 (.slice (some ⟨u.heap.size, 0, none⟩) 1 1)).run Tryd.prog (u.alloc (.cells #[.int .u8 (97 + (j : Int))] 5)) = .ok (.string z) (u.alloc (.cells #[.int .u8 (97 + (j : Int))] 5)) := fun u => HCV u _ (World.grownBy.refl _ _)
          generalize pubEnc (keyO (UInt8.ofNat j)) noughts20 1 = PE at HPE HRV
          generalize keyO (UInt8.ofNat j) = KO at HK HPE
          have q1 : (VA.toList == VA.toList) = true := by simp
          have q2 : (VA.toList != VA.toList) = false := by simp
          have q3 : (PL.toList == PL.toList) = true := by simp
          have q4 : (PL.toList != PL.toList) = false := by simp
          clear hpe hhas hpes hKO hnm HCV
          go_wp2_with fail
          refine (HK.out _).mono ?_
          rintro e w4 ⟨rfl, g4⟩
          have G4 := Lib.hid g4
          clear g4
          go_wp2_with fail
          refine (HPE.out _).mono ?_
          rintro e w5 ⟨rfl, g5⟩
          have G5 := Lib.hid (grownBy_trans G4.out g5)
          clear g5
          go_wp2_with fail
          refine (HRP.out _).mono ?_
          rintro e w6 ⟨rfl, g6⟩
          have G6 := Lib.hid (grownBy_trans G5.out g6)
          clear g6
          go_wp2_with fail
          refine (HGT.out _ G6.out).mono ?_
          rintro e w7 ⟨rfl, rfl⟩
          go_wp2_with fail
          refine (HRV.out _).mono ?_
          rintro e w8 ⟨rfl, g8⟩
          have G8 := Lib.hid (grownBy_trans (grownBy_trans G6.out (World.grownBy_alloc _ _ _)) g8)
          clear g8
          go_wp2_with fail
          refine (HPL.out _ (HR.out.grown (grownBy_trans HI.out.gr G8.out))).mono ?_
          rintro e w9 ⟨rfl, g9⟩
          have G9 := Lib.hid (grownBy_trans G8.out g9)
          clear g9
          go_wp2_with fail
          refine (HRP.out _).mono ?_
          rintro e w10 ⟨rfl, g10⟩
          have G10 := Lib.hid (HI.out.go (grownBy_trans G9.out g10))
          clear g10
          go_wp2_with fail
          go_roundw
          case rel => exact ⟨j + 1, by omega, by go_num, G10⟩
          case measure => simp [intOf]; omega
        · have d1 : ¬ (j : Int) < (i : Int) := by omega
          clear hj hlt
          have HAN := Lib.hid (fun w' => radd_nil ⟨⟨#[97]⟩, ⟨#[]⟩, ⟨#[]⟩, 0⟩ w')
          unfold AudS.val AudS.cells at HAN
          go_wp2_with fail
          refine (HAN.out _).mono ?_
          rintro e w4 ⟨rfl, g4⟩
          have G4 := Lib.hid (HI.out.go g4)
          clear g4 HAN HI
          go_wp2_with fail
          have HAT := Lib.hid (fun w' => rat_nil w')
          unfold audZ at HAT
          refine (HAT.out _).mono ?_
          rintro e w5 ⟨rfl, g5⟩
          have G5 := Lib.hid (G4.out.go g5)
          clear g5 HAT G4
          go_wp2_with fail
          refine (key20_any 1 7 _).mono ?_
          rintro e w6 ⟨rfl, g6⟩
          have G6 := Lib.hid (G5.out.go (grownBy_trans (World.grownBy_alloc w5 (.cells #[.string ⟨#[]⟩, .string ⟨#[]⟩, .string ⟨#[]⟩, .int .i64 0] 82) none) g6))
          clear g6 G5
          have hbA := heap_alloc_at w6 (.cells #[.string lb, .string (keyO 1), .string noughts20, .int .i64 7] 82) _ rfl
          have hgA := World.grownBy_alloc w6 (.cells #[.string lb, .string (keyO 1), .string noughts20, .int .i64 7] 82) none
          have HNV := Lib.hid (rvalue_gen ⟨lb, keyO 1, noughts20, 7⟩ (fun q => by have q : pubErr (keyO 1) noughts20 7 = 0 := q; rw [pubErr_key] at q; exact absurd q (by decide)) (by show (keyO 1).size ≤ _; rw [keyO_size]; decide) (by show noughts20.size ≤ _; decide) (w6.alloc (.cells #[.string lb, .string (keyO 1), .string noughts20, .int .i64 7] 82)) (HR.out.grown (grownBy_trans G6.out.gr hgA)))
          rw [val20_bad] at HNV
          unfold AudS.val AudS.cells at HNV
          obtain ⟨y0, y1, y2, y3⟩ := cells4 hbA
          have HGA := Lib.hid (grownBy_trans G6.out.gr hgA)
          clear hbA hgA
          go_wp2_with fail
          refine (rlen_nil _).mono ?_
          rintro e w7 ⟨rfl, rfl⟩
          go_wp2_with fail
          refine (rcopy_nil _).mono ?_
          rintro e w7 ⟨rfl, rfl⟩
          go_wp2_with fail
          refine (rlay_nil _ _).mono ?_
          rintro e w7 ⟨rfl, rfl⟩
          go_wp2_with fail
          refine (rlay_nil2 _ _).mono ?_
          rintro e w7 ⟨rfl, rfl⟩
          go_wp2_with fail
          refine HNV.out.mono ?_
          rintro e w8 ⟨rfl, g8⟩
          have HG8 := Lib.hid (grownBy_trans HGA.out g8)
          clear g8 y0 y1 y2 y3
          go_wp2_with fail
          go_ret
          exact ⟨rfl, HG8.out⟩
end Go.Proofs.YtioahjdojgcfdaaDoor
