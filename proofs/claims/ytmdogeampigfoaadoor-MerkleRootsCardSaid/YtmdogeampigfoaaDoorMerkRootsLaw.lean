/- The walk of the law MerkleRoots. -/
import Derived.Test.YtmdogeampigfoaaDoorMerkSpeaks
import Derived.Test.YtmdogeampigfoaaDoorMerkRef
import Derived.Test.YtmdogeampigfoaaDoorCuts
import Derived.Deep.DeepCutAuto
import Derived.Deep.CutBlock
namespace Go.Proofs.YtmdogeampigfoaaDoor
open Go.RowKit
attribute [local irreducible] shaL

/-- the k-th leaf -/
def leafS (L : List ByteArray) (k : Nat) : ByteArray := cutAt 20 (L.getD k ⟨#[]⟩)
theorem leafS_size (L : List ByteArray) (k : Nat) : (leafS L k).size ≤ 20 := cutAt_size _ _

theorem own_some {w : World} {B n : Nat} {t : TypeId} {a : Option Addr} {cap : Nat} {xs : List Value} (h : w.ownsRow B t 1 (.slice a n cap) n xs) (h0 : 0 < n) : ∃ g, a = some ⟨g, 0, none⟩ ∧ B ≤ g ∧ g < w.heap.size ∧ n ≤ cap := by
  rcases h.2 with ⟨_, h'⟩ | ⟨g, cap', cur, he, hB, hg, hc, _⟩
  · omega
  · cases he
    exact ⟨g, rfl, hB, (Array.getElem?_eq_some_iff.1 hg).1, hc⟩
set_option maxRecDepth 100000 in
set_option maxHeartbeats 3200000 in
theorem merkleRoots_walk (v : Value) (L : List ByteArray) (h : Nat) (i : Int) (hh : h < 256) (hi : -9223372036854775808 ≤ i ∧ i ≤ 9223372036854775807) (w : World) (hv : StrsAt w v L) (hL : L.length ≤ maxLen) (hLs : ∀ i (h : i < L.length), L[i].size ≤ maxLen) (hr : ShaReady w) :
    Calls Tryd.prog 3 #[v, .int .u8 h, .int .i64 i] w fun e w' => e = .returned (.bool true) ∧ w.grownBy w' none := by
  unfold maxLen at hL hLs
  obtain ⟨i0, hti, hz0, hz1, hz2⟩ := info_parts infoStrW
  have HR := Lib.hid hr
  obtain ⟨av, capv, rfl⟩ := hv.form
  have HV := Lib.hid hv
  have HLS := Lib.hid hLs
  have hand := u8and3 h hh
  clear hv hLs hr
  go_enter Tryd.func3, Tryd.ntmps3
  go_wp2_with fail
  refine (merk_speaks w HR.out).mono ?_
  rintro e w1 ⟨rfl, g1⟩
  have G1 := Lib.hid g1
  clear g1
  go_upto_region 3 with (fail)
  go_cut [7] (fun nv wx => ∃ ht : Nat, ht ≤ 3 ∧ nv = .int .i64 (2 ^ ht : Nat) ∧ w1 = wx)
  case first =>
    have h4 : h % 4 = 0 ∨ h % 4 = 1 ∨ h % 4 = 2 ∨ h % 4 = 3 := by omega
    rcases h4 with e | e | e | e <;> rw [e] at hand
    · go_wp2
      go_meet
      case rel => exact ⟨0, by decide, rfl, rfl⟩
    · go_wp2
      go_meet
      case rel => exact ⟨1, by decide, rfl, rfl⟩
    · go_wp2
      go_meet
      case rel => exact ⟨2, by decide, rfl, rfl⟩
    · go_wp2
      go_meet
      case rel => exact ⟨3, by decide, rfl, rfl⟩
  case rest =>
    obtain ⟨ht, hht, rfl, rfl⟩ := hcut
    obtain ⟨N, hN⟩ : ∃ N, 2 ^ ht = N := ⟨_, rfl⟩
    have hN8 : N ≤ 8 := by rw [← hN]; exact Nat.pow_le_pow_right (n := 2) (by decide) hht
    have hN0 : 0 < N := by rw [← hN]; exact Nat.pow_pos (by decide)
    have HN := Lib.hid hN
    rw [hN]
    clear hN hand
    obtain ⟨f, hf⟩ : ∃ f, leafS L = f := ⟨_, rfl⟩
    have HF := Lib.hid hf
    have HFS : Hid (∀ k, (f k).size ≤ 20) := by rw [← hf]; exact leafS_size L
    clear hf
    go_wp2_with fail
    go_loopw [8, 9, 10] (fun lv kv _ wr => ∃ (k : Nat) (a : Option Addr) (cap : Nat), k ≤ N ∧ kv = .int .i64 k ∧ lv = .slice a k cap ∧ Hid (wr.ownsRow w.heap.size 9 1 (.slice a k cap) k (strsV (allS f k))) ∧ Hid (w.grownBy wr none)) (fun _ kv _ _ => N - (intOf kv).toNat)
    case atStart => exact ⟨0, none, 0, by omega, rfl, rfl, World.ownsRow_nil _ _ _ _, G1.out⟩
    case round =>
      clear G1
      obtain ⟨k, a, cap, hk, rfl, rfl, HO, HG⟩ := hrel
      by_cases hlt : k < N
      · have d1 : (k : Int) < (N : Int) := by omega
        go_upto_if 30 with (fail)
        go_cut [10] (fun xv wx => xv = .string (f k) ∧ Hid (∃ n, wx = wr.drewN n))
        case first =>
          by_cases hkl : k < L.length
          · obtain ⟨x, hx⟩ : ∃ x, L[k]? = some x := ⟨_, List.getElem?_eq_getElem hkl⟩
            have hfk : f k = cutAt 20 x := by rw [← HF.out]; unfold leafS; rw [List.getD_eq_getElem?_getD, hx]; rfl
            obtain ⟨g, o, rfl, hc⟩ := (HV.out.grown HG.out).at_ k x hx
            have hxs : x.size ≤ 9223372036854775807 := by
              have h1 := HLS.out k hkl
              rw [List.getElem?_eq_getElem hkl] at hx
              cases hx
              omega
            have d2 : (k : Int) < (L.length : Int) := by omega
            have b1 : (0 : Int) ≤ (k : Int) := by omega
            clear hx
            by_cases hx : x.size ≤ 20
            · have hz := cutAt_le 20 x hx
              go_wp2_with fail
              go_region
              all_goals
                go_wp2_with fail
                go_meet
                case rel => exact ⟨by rw [hfk, hz], ⟨1, rfl⟩⟩
            · have hz := cutAt_gt 20 x hx
              go_wp2_with fail
              go_region
              all_goals
                go_wp2_with fail
                go_meet
                case rel => exact ⟨by rw [hfk, hz], ⟨1, rfl⟩⟩
          · have hfk : f k = ⟨#[]⟩ := by
              rw [← HF.out]
              unfold leafS
              rw [List.getD_eq_getElem?_getD, List.getElem?_eq_none (by omega)]
              rfl
            have d2 : ¬ (k : Int) < (L.length : Int) := by omega
            go_wp2_with fail
            go_meet
            case rel => exact ⟨by rw [hfk], ⟨0, rfl⟩⟩
        case rest =>
          obtain ⟨rfl, HW⟩ := hcut
          obtain ⟨n, rfl⟩ := HW
          have HG2 := Lib.hid (grownBy_drewN HG.out n)
          have HO2 : Hid ((wr.drewN n).ownsRow w.heap.size 9 1 (.slice a k cap) k (strsV (allS f k))) := own_kept HO.out (grownBy_drewN (World.grownBy.refl _ _) n)
          have HE := Lib.hid (allS_succ f k)
          clear HO HG
          generalize wr.drewN n = wq at HG2 HO2 ⊢
          generalize f k = y at HE ⊢
          go_wp2_with (at_builtin; refine wpList_append_own _ rfl _ _ 22 rfl w.heap.size 9 i0 (.string ⟨#[]⟩) 1 16 Tryd.underlying22 hti hz0 hz1 hz2 rfl (by decide) _ _ _ rfl (HO2.out.alloc _) ⟨wq.heap.size, 0, none⟩ 1 1 [.string y] rfl rfl (lit_one wq y) (one_text y) ?q3 ?q4 (size_alloc_le HG2.out _) ?_)
          case q3 => unfold maxLen; omega
          case q4 => omega
          intro v' w3 hown' hg3 _
          have HG3 : Hid (w.grownBy w3 none) := grown_row (grownBy_alloc' HG2.out _) hg3 (fun g hg => (HO2.out.lt g hg).1)
          obtain ⟨a', cap', rfl⟩ := slice_own' hown'
          rw [push_strs, ← HE.out] at hown'
          have HO3 := Lib.hid hown'
          clear hown' hg3 HG2 HO2
          go_wp2_with fail
          go_roundw
          case rel => exact ⟨k + 1, a', cap', by omega, by go_num, rfl, HO3.out, HG3.out⟩
          case measure => simp [intOf]; omega
      · obtain rfl : k = N := by omega
        obtain ⟨g, rfl, hB, hg, hcap⟩ := own_some HO.out hN0
        have HML : Hid ((allS f k).length = 2 ^ ht) := by show _ = _; rw [allS_length, HN.out]
        have HMS : Hid (∀ s ∈ allS f k, s.size ≤ 20) := allS_sizes f k 20 HFS.out
        have HME : Hid (∀ j, j < k → (allS f k)[j]? = some (f j)) := by
          intro j hj
          simp [allS, hj]
        have HST := Lib.hid (strs_own HO.out)
        have HGE := Lib.hid hB
        clear HO hB HFS HF HLS HV
        generalize allS f k = M at HML HMS HST HME
        have hroot := Lib.hid (root_ok _ M ht (by omega) HML.out (fun s hs => by have := HMS.out s hs; omega) wr HST.out (HR.out.grown HG.out))
        have HRE := Lib.hid (root_halves ht M HML.out)
        have HRS : Hid ((rootS ht M).size ≤ 20) := rootS_size ht M 20 (by decide) HMS.out
        have HCL : Hid (∀ m : Nat, m < k → climbS (f m) m (pathS ht M m) = rootS ht M) := fun m hm => climb_path ht M m (f m) HML.out (HME.out m hm)
        generalize rootS ht M = R at hroot HRE HRS HCL
        go_wp2_with fail
        refine hroot.out.mono ?_
        rintro e w2 ⟨rfl, g2⟩
        have HST2 := Lib.hid (HST.out.grown g2)
        have HG2 := Lib.hid (grownBy_trans HG.out g2)
        have hg2 : g < w2.heap.size := by have := g2.size; omega
        clear g2 hroot HST HG hg
        have HREF : Hid (∀ w0 : World, w2.grownBy w0 none → Calls Tryd.prog 10 #[.slice (some ⟨g, 0, none⟩) k cap] w0 fun e w' => e = .returned (.string R) ∧ w0.grownBy w' none) := by
          intro w0 h0
          have hst := HST2.out.grown h0
          rw [← HN.out] at hst hcap ⊢
          have := refRoot_any ht g 0 cap M (by omega) HML.out hcap (fun s hs => by have := HMS.out s hs; omega) w0 hst
          rw [← HRE.out] at this
          exact this
        by_cases hin : 0 ≤ i ∧ i < (k : Int)
        · obtain ⟨hi0, hik⟩ := hin
          obtain ⟨m, rfl⟩ := Int.eq_ofNat_of_zero_le hi0
          have hmk : m < k := by omega
          have hp := Lib.hid (path_ok _ M ht m (by omega) HML.out (by rw [HN.out]; exact hmk) (fun s hs => by have := HMS.out s hs; omega) w2 HST2.out (fun g' o' n' c' e => by cases e; exact hg2) (HR.out.grown HG2.out))
          have HPH := Lib.hid (path_halves ht M m HML.out (by rw [HN.out]; exact hmk))
          have HPL := Lib.hid (pathS_length ht M m)
          have HPS : Hid (∀ s ∈ pathS ht M m, s.size ≤ 20) := pathS_sizes ht M m 20 (by decide) HMS.out
          have HC2 := Lib.hid (HCL.out m hmk)
          generalize pathS ht M m = Q at hp HPH HPL HPS HC2
          clear HCL
          go_wp2_with fail
          refine hp.out.mono ?_
          rintro e w3 ⟨v3, rfl, ho3, g3⟩
          obtain ⟨pa, pc, rfl⟩ := slice_own' ho3
          have HP3 := Lib.hid (strs_own (by rw [HPL.out] at *; exact ho3 : w3.ownsRow w2.heap.size 9 1 (.slice pa ht pc) ht (strsV Q)))
          have HG3 := Lib.hid (grownBy_trans HG2.out g3)
          have HST3 := Lib.hid (HST2.out.grown g3)
          have g3' := Lib.hid g3
          clear g3 ho3 hp
          go_wp2_with fail
          refine (HREF.out w3 g3'.out).mono ?_
          rintro e w4 ⟨rfl, g4⟩
          have g4' := Lib.hid (grownBy_trans g3'.out g4)
          have HG4 := Lib.hid (grownBy_trans HG3.out g4)
          have HP4 := Lib.hid (HP3.out.grown g4)
          have HST4 := Lib.hid (HST3.out.grown g4)
          clear g4 HP3 HST3 HG3 g3' HREF HST2 HG2
          have hwant : Hid (Calls Tryd.prog 11 #[.slice (some ⟨g, 0, none⟩) k cap, .int .i64 m] w4 fun e w' => ∃ v', e = .returned v' ∧ w'.ownsRow w4.heap.size 9 1 v' ht (strsV Q) ∧ w4.grownBy w' none) := by
            have hst := HST4.out
            show Calls _ _ _ _ _
            have hmk2 := hmk
            rw [← HN.out] at hst hcap hmk2 ⊢
            have := refPath_any ht g 0 cap m M (by omega) hmk2 HML.out hcap (fun s hs => by have := HMS.out s hs; omega) w4 hst
            rw [← HPH.out] at this
            exact this
          go_wp2_with fail
          refine hwant.out.mono ?_
          rintro e w5 ⟨v5, rfl, ho5, g5⟩
          obtain ⟨qa, qc, rfl⟩ := slice_own' ho5
          have HQ5 := Lib.hid (strs_own ho5)
          have HP5 := Lib.hid (HP4.out.grown g5)
          have HST5 := Lib.hid (HST4.out.grown g5)
          have HG5 := Lib.hid (grownBy_trans HG4.out g5)
          clear g5 ho5 hwant HP4 HST4 HG4 g4'
          go_wp2_with fail
          go_loopw [16] (fun jv wz => ∃ j : Nat, j ≤ ht ∧ jv = .int .i64 j ∧ Hid (w5.grownBy wz none)) (fun jv _ => ht - (intOf jv).toNat)
          case atStart => exact ⟨0, by omega, rfl, World.grownBy.refl _ _⟩
          case round =>
            obtain ⟨j, hj, rfl, HJ⟩ := hrel
            by_cases hjl : j < ht
            · obtain ⟨x, hx⟩ : ∃ x, Q[j]? = some x := ⟨_, List.getElem?_eq_getElem (by rw [HPL.out]; exact hjl)⟩
              obtain ⟨gp, op, rfl, hcp⟩ := (HP5.out.grown HJ.out).at_ j x hx
              obtain ⟨gq, oq, rfl, hcq⟩ := (HQ5.out.grown HJ.out).at_ j x hx
              have b1 : (0 : Int) ≤ (j : Int) := by omega
              have b2 : (j : Int) < (ht : Int) := by omega
              clear hx
              go_wp2_with fail
              go_quiet (fail)
              go_wp2_with fail
              go_roundw
              case rel => exact ⟨j + 1, by omega, by go_num, grownBy_drewN HJ.out _⟩
              case measure => simp [intOf]; omega
            · have b2 : ¬ (j : Int) < (ht : Int) := by omega
              obtain ⟨gm, om, he, hcm⟩ := (HST5.out.grown HJ.out).at_ m (f m) (HME.out m hmk)
              obtain ⟨rfl, rfl⟩ : g = gm ∧ 0 = om := by cases he; exact ⟨rfl, rfl⟩
              rw [Nat.zero_add] at hcm
              have hfm := HMS.out _ (List.mem_of_getElem? (HME.out m hmk))
              have hcb := climb_any (f m) m _ Q (by omega) (by rw [HPL.out]; omega) (by omega) (fun s hs => by have := HPS.out s hs; omega) wr (HP5.out.grown HJ.out) (HR.out.grown (grownBy_trans HG5.out HJ.out))
              rw [HC2.out] at hcb
              have HCB := Lib.hid hcb
              have HGJ := Lib.hid (grownBy_trans HG5.out HJ.out)
              generalize f m = fm at hcm HCB
              clear hcb he HC2
              go_wp2_with fail
              refine HCB.out.mono ?_
              rintro e w6 ⟨rfl, g6⟩
              have HG6 := Lib.hid (grownBy_trans HGJ.out g6)
              clear g6
              go_wp2_with fail
              go_ret
              exact ⟨rfl, HG6.out⟩
        · have hout : i < 0 ∨ (k : Int) ≤ i := by omega
          have hp := Lib.hid (path_out _ M i (by rw [HML.out]; exact treeB_pow ht (by omega)) (by rw [HML.out, HN.out]; exact hout) w2 HST2.out)
          clear hin
          by_cases hneg : i < 0
          · clear hout
            go_wp2_with fail
            refine hp.out.mono ?_
            rintro e w3 ⟨rfl, rfl⟩
            go_wp2_with fail
            refine (HREF.out w2 (World.grownBy.refl _ _)).mono ?_
            rintro e w4 ⟨rfl, g4⟩
            have HG4 := Lib.hid (grownBy_trans HG2.out g4)
            clear g4
            go_wp2_with fail
            go_ret
            exact ⟨rfl, HG4.out⟩
          · have hge : (k : Int) ≤ i := by omega
            clear hout
            go_wp2_with fail
            refine hp.out.mono ?_
            rintro e w3 ⟨rfl, rfl⟩
            go_wp2_with fail
            refine (HREF.out w2 (World.grownBy.refl _ _)).mono ?_
            rintro e w4 ⟨rfl, g4⟩
            have HG4 := Lib.hid (grownBy_trans HG2.out g4)
            clear g4
            go_wp2_with fail
            go_ret
            exact ⟨rfl, HG4.out⟩

theorem merkleRoots_int (v : Value) (L : List ByteArray) (h i : Int) (hh : 0 ≤ h ∧ h ≤ 255) (hi : -9223372036854775808 ≤ i ∧ i ≤ 9223372036854775807) (w : World) (hv : StrsAt w v L) (hL : L.length ≤ maxLen) (hLs : ∀ i (h : i < L.length), L[i].size ≤ maxLen) (hr : ShaReady w) :
    Calls Tryd.prog 3 #[v, .int .u8 h, .int .i64 i] w fun e w' => e = .returned (.bool true) ∧ Below w.heap.size w w' := by
  obtain ⟨m, rfl⟩ := Int.eq_ofNat_of_zero_le hh.1
  exact (merkleRoots_walk v L m i (by omega) hi w hv hL hLs hr).mono fun e w' q => ⟨q.1, below_grownBy q.2⟩
end Go.Proofs.YtmdogeampigfoaaDoor
