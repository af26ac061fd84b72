/- The walk of the law MerkleHalves. -/
import Derived.Test.YtmdogeampigfoaaDoorMerkSpeaks
import Derived.Test.YtmdogeampigfoaaDoorMerkRef
import Derived.Test.YtmdogeampigfoaaDoorCuts
import Derived.Deep.DeepCutAuto
import Derived.Deep.CutBlock
namespace Go.Proofs.YtmdogeampigfoaaDoor
open Go.RowKit
attribute [local irreducible] shaL

/-- the k-th leaf: its number's byte ahead of it -/
def leaf2S (L : List ByteArray) (k : Nat) : ByteArray := str [UInt8.ofNat k] ++ cutAt 20 (L.getD k ⟨#[]⟩)
theorem leaf2S_size (L : List ByteArray) (k : Nat) : (leaf2S L k).size ≤ 21 := by
  unfold leaf2S
  have := cutAt_size 20 (L.getD k ⟨#[]⟩)
  rw [ByteArray.size_append, str_size, List.length_singleton]
  omega
theorem sub_mod (a n : Nat) (h : n ≤ a) (h2 : a < 2 * n) : (a : Int) % (n : Int) = ((a - n : Nat) : Int) := by
  have : a % n = a - n := by rw [Nat.mod_eq_sub_mod h, Nat.mod_eq_of_lt (by omega)]
  rw [← this]
  simp
theorem own_some' {w : World} {B n : Nat} {t : TypeId} {a : Option Addr} {cap : Nat} {xs : List Value} (h : w.ownsRow B t 1 (.slice a n cap) n xs) (h0 : 0 < n) : ∃ g, a = some ⟨g, 0, none⟩ ∧ B ≤ g ∧ g < w.heap.size ∧ n ≤ cap := by
  rcases h.2 with ⟨_, h'⟩ | ⟨g, cap', cur, he, hB, hg, hc, _⟩
  · omega
  · cases he
    exact ⟨g, rfl, hB, (Array.getElem?_eq_some_iff.1 hg).1, hc⟩
theorem root_two (ht : Nat) (M : List ByteArray) (h : M.length = 2 ^ (ht + 1)) : rootS (ht + 1) M = nodeS (rootS ht (M.take (2 ^ ht))) (rootS ht (M.drop (2 ^ ht))) := by
  have e := pow_succ2 ht
  rw [root_halves _ _ h, rootH, root_halves _ (M.take _) (by rw [List.length_take]; omega), root_halves _ (M.drop _) (by rw [List.length_drop]; omega)]
theorem path_two (ht : Nat) (M : List ByteArray) (k : Nat) (h : M.length = 2 ^ (ht + 1)) (hk : k < 2 ^ (ht + 1)) :
    pathS (ht + 1) M k = if k < 2 ^ ht then pathS ht (M.take (2 ^ ht)) k ++ [rootS ht (M.drop (2 ^ ht))] else pathS ht (M.drop (2 ^ ht)) (k - 2 ^ ht) ++ [rootS ht (M.take (2 ^ ht))] := by
  have e := pow_succ2 ht
  have l1 : (M.take (2 ^ ht)).length = 2 ^ ht := by rw [List.length_take]; omega
  have l2 : (M.drop (2 ^ ht)).length = 2 ^ ht := by rw [List.length_drop]; omega
  rw [path_halves _ _ _ h hk, pathH]
  split
  · rw [path_halves _ _ _ l1 (by omega), root_halves _ _ l2]
  · rw [path_halves _ _ _ l2 (by omega), root_halves _ _ l1]

set_option maxRecDepth 100000 in
set_option maxHeartbeats 3200000 in
theorem merkleHalves_walk (v : Value) (L : List ByteArray) (h i : Nat) (hh : h < 256) (hi : i < 256) (w : World) (hv : StrsAt w v L) (hL : L.length ≤ maxLen) (hLs : ∀ i (h : i < L.length), L[i].size ≤ maxLen) (hr : ShaReady w) :
    Calls Tryd.prog 5 #[v, .int .u8 h, .int .u8 i] w fun e w' => e = .returned (.bool true) ∧ w.grownBy w' none := by
  unfold maxLen at hL hLs
  obtain ⟨i0, hti, hz0, hz1, hz2⟩ := info_parts infoStrW
  have HR := Lib.hid hr
  obtain ⟨av, capv, rfl⟩ := hv.form
  have HV := Lib.hid hv
  have HLS := Lib.hid hLs
  have hand := u8and3 h hh
  clear hv hLs hr
  go_enter Tryd.func5, Tryd.ntmps5
  go_wp2_with fail
  refine (merk_speaks w HR.out).mono ?_
  rintro e w1 ⟨rfl, g1⟩
  have G1 := Lib.hid g1
  clear g1
  go_upto_region 3 with (fail)
  go_cut [7] (fun nv wx => ∃ ht : Nat, ht ≤ 3 ∧ nv = .int .i64 (2 ^ ht : Nat) ∧ w1 = wx)
  case first =>
    have h4 : h % 4 = 0 ∨ h % 4 = 1 ∨ h % 4 = 2 ∨ h % 4 = 3 := by omega
    rcases h4 with e | e | e | e <;> rw [e] at hand
    · go_wp2
      go_meet
      case rel => exact ⟨0, by decide, rfl, rfl⟩
    · go_wp2
      go_meet
      case rel => exact ⟨1, by decide, rfl, rfl⟩
    · go_wp2
      go_meet
      case rel => exact ⟨2, by decide, rfl, rfl⟩
    · go_wp2
      go_meet
      case rel => exact ⟨3, by decide, rfl, rfl⟩
  case rest =>
    obtain ⟨ht, hht, rfl, rfl⟩ := hcut
    obtain ⟨N, hN⟩ : ∃ N, 2 ^ ht = N := ⟨_, rfl⟩
    have hN8 : N ≤ 8 := by rw [← hN]; exact Nat.pow_le_pow_right (n := 2) (by decide) hht
    have hN0 : 0 < N := by rw [← hN]; exact Nat.pow_pos (by decide)
    have HN := Lib.hid hN
    rw [hN]
    clear hN hand
    obtain ⟨f, hf⟩ : ∃ f, leaf2S L = f := ⟨_, rfl⟩
    have HF := Lib.hid hf
    have HFS : Hid (∀ k, (f k).size ≤ 21) := by rw [← hf]; exact leaf2S_size L
    clear hf
    have r1 : IntKind.i64.wrap (2 * (N : Int)) = 2 * (N : Int) := IntWalk.i64_in _ (by omega)
    go_wp2_with fail
    go_loopw [8, 9, 10] (fun lv kv _ wr => ∃ (k : Nat) (a : Option Addr) (cap : Nat), k ≤ 2 * N ∧ kv = .int .i64 k ∧ lv = .slice a k cap ∧ Hid (wr.ownsRow w.heap.size 9 1 (.slice a k cap) k (strsV (allS f k))) ∧ Hid (w.grownBy wr none)) (fun _ kv _ _ => 2 * N - (intOf kv).toNat)
    case atStart => exact ⟨0, none, 0, by omega, rfl, rfl, World.ownsRow_nil _ _ _ _, G1.out⟩
    case round =>
      clear G1
      obtain ⟨k, a, cap, hk, rfl, rfl, HO, HG⟩ := hrel
      by_cases hlt : k < 2 * N
      · have d1 : (k : Int) < 2 * (N : Int) := by omega
        have wk : IntKind.u8.wrap (k : Int) = (k : Int) := by simp only [IntKind.wrap, IntKind.bits, IntKind.signed, IntKind.min, IntKind.max]; simp; omega
        have eb : ((UInt8.ofNat k).toNat : Int) = (k : Int) := by simp; omega
        have hcv : (convert 34 9 (.slice (some ⟨wr.heap.size, 0, none⟩) 1 1)).run Tryd.prog (wr.alloc (.cells #[.int .u8 k] 5)) = .ok (.string (str [UInt8.ofNat k])) (wr.alloc (.cells #[.int .u8 k] 5)) := by
          rw [← eb]
          exact row_string (w := wr.alloc (.cells #[.int .u8 ((UInt8.ofNat k).toNat : Int)] 5)) (g := wr.heap.size) (l := [UInt8.ofNat k]) (t := 5) (heap_alloc_at wr _ _ rfl) 1
        clear eb
        go_upto_if 43 with (fail)
        have hb1 : (str [UInt8.ofNat k]).size = 1 := str_size _
        obtain ⟨bb, hbb⟩ : ∃ bb, str [UInt8.ofNat k] = bb := ⟨_, rfl⟩
        have HGA := Lib.hid (grownBy_alloc' HG.out (.cells #[.int .u8 (k : Int)] 5))
        have HOA := Lib.hid (HO.out.alloc (.cells #[.int .u8 (k : Int)] 5))
        have HBB := Lib.hid hbb
        rw [hbb] at hb1 ⊢
        clear hcv HG HO hbb
        generalize wr.alloc (.cells #[.int .u8 (k : Int)] 5) = wa at HGA HOA ⊢
        go_cut [10] (fun xv wx => xv = .string (f k) ∧ Hid (∃ n, wx = wa.drewN n))
        case first =>
          by_cases hkl : k < L.length
          · obtain ⟨x, hx⟩ : ∃ x, L[k]? = some x := ⟨_, List.getElem?_eq_getElem hkl⟩
            have hfk : f k = bb ++ cutAt 20 x := by rw [← HF.out, ← HBB.out]; unfold leaf2S; rw [List.getD_eq_getElem?_getD, hx]; rfl
            obtain ⟨g, o, rfl, hc⟩ := (HV.out.grown HGA.out).at_ k x hx
            have hxs : x.size ≤ 9223372036854775807 := by
              have h1 := HLS.out k hkl
              rw [List.getElem?_eq_getElem hkl] at hx
              cases hx
              omega
            have d2 : (k : Int) < (L.length : Int) := by omega
            have b1 : (0 : Int) ≤ (k : Int) := by omega
            clear hx
            by_cases hx : x.size ≤ 20
            · have hz := cutAt_le 20 x hx
              have q1 : (9223372036854775807 < bb.size + x.size) = False := eq_false (by omega)
              go_wp2_with fail
              go_region
              all_goals
                go_wp2_with fail
                go_meet
                case rel => exact ⟨by rw [hfk, hz], ⟨1, rfl⟩⟩
            · have hz := cutAt_gt 20 x hx
              have q1 : (9223372036854775807 < bb.size + (x.extract 0 20).size) = False := eq_false (by rw [ByteArray.size_extract]; omega)
              go_wp2_with fail
              go_region
              all_goals
                go_wp2_with fail
                go_meet
                case rel => exact ⟨by rw [hfk, hz], ⟨1, rfl⟩⟩
          · have hfk : f k = bb := by
              rw [← HF.out, ← HBB.out]
              unfold leaf2S
              rw [List.getD_eq_getElem?_getD, List.getElem?_eq_none (by omega)]
              show str [UInt8.ofNat k] ++ cutAt 20 ⟨#[]⟩ = str [UInt8.ofNat k]
              rw [cutAt_le 20 ⟨#[]⟩ (by decide)]
              apply ByteArray.ext
              simp
            have d2 : ¬ (k : Int) < (L.length : Int) := by omega
            go_wp2_with fail
            go_meet
            case rel => exact ⟨by rw [hfk], ⟨0, rfl⟩⟩
        case rest =>
          obtain ⟨rfl, HW⟩ := hcut
          obtain ⟨n, rfl⟩ := HW
          have HG2 := Lib.hid (grownBy_drewN HGA.out n)
          have HO2 : Hid ((wa.drewN n).ownsRow w.heap.size 9 1 (.slice a k cap) k (strsV (allS f k))) := own_kept HOA.out (grownBy_drewN (World.grownBy.refl _ _) n)
          have HE := Lib.hid (allS_succ f k)
          clear HOA HGA
          generalize wa.drewN n = wq at HG2 HO2 ⊢
          generalize f k = y at HE ⊢
          go_wp2_with (at_builtin; refine wpList_append_own _ rfl _ _ 22 rfl w.heap.size 9 i0 (.string ⟨#[]⟩) 1 16 Tryd.underlying22 hti hz0 hz1 hz2 rfl (by decide) _ _ _ rfl (HO2.out.alloc _) ⟨wq.heap.size, 0, none⟩ 1 1 [.string y] rfl rfl (lit_one wq y) (one_text y) ?q3 ?q4 (size_alloc_le HG2.out _) ?_)
          case q3 => unfold maxLen; omega
          case q4 => omega
          intro v' w3 hown' hg3 _
          have HG3 : Hid (w.grownBy w3 none) := grown_row (grownBy_alloc' HG2.out _) hg3 (fun g hg => (HO2.out.lt g hg).1)
          obtain ⟨a', cap', rfl⟩ := slice_own' hown'
          rw [push_strs, ← HE.out] at hown'
          have HO3 := Lib.hid hown'
          clear hown' hg3 HG2 HO2
          go_wp2_with fail
          go_roundw
          case rel => exact ⟨k + 1, a', cap', by omega, by go_num, rfl, HO3.out, HG3.out⟩
          case measure => simp [intOf]; omega
      · have hk2 : k = 2 * N := by omega
        have hkp : k = 2 ^ (ht + 1) := by rw [hk2, ← HN.out, pow_succ2]
        obtain ⟨g, rfl, hB, hg, hcap⟩ := own_some' HO.out (by omega)
        have HML : Hid ((allS f k).length = 2 ^ (ht + 1)) := by show _ = _; rw [allS_length, hkp]
        have HMS : Hid (∀ s ∈ allS f k, s.size ≤ 1000000000000) := fun s hs => by have := allS_sizes f k 21 HFS.out s hs; omega
        have HST := Lib.hid (strs_own HO.out)
        clear HO hB HFS HF HLS HV
        generalize allS f k = M at HML HMS HST
        have HK := Lib.hid hk2
        have HKP := Lib.hid hkp
        have s1 : Hid (∀ s ∈ M.take (2 ^ ht), s.size ≤ 1000000000000) := fun s hs => HMS.out s (List.mem_of_mem_take hs)
        have s2 : Hid (∀ s ∈ M.drop (2 ^ ht), s.size ≤ 1000000000000) := fun s hs => HMS.out s (List.mem_of_mem_drop hs)
        have l1 : Hid ((M.take (2 ^ ht)).length = 2 ^ ht) := by show _ = _; rw [List.length_take, HML.out, pow_succ2]; omega
        have l2 : Hid ((M.drop (2 ^ ht)).length = 2 ^ ht) := by show _ = _; rw [List.length_drop, HML.out, pow_succ2]; omega
        have d1 : ¬ (k : Int) < 2 * (N : Int) := by omega
        have hNk : (N : Int) ≤ (k : Int) := by omega
        have hNc : (N : Int) ≤ (cap : Int) := by omega
        have hkc : (k : Int) ≤ (cap : Int) := by omega
        have hcN : ¬ cap = N := by omega
        have hN0' : (0 : Int) ≤ (N : Int) := by omega
        have hA : Hid (∀ w0, wr.grownBy w0 none → StrsAt w0 (.slice (some ⟨g, 0, none⟩) N cap) (M.take (2 ^ ht))) := fun w0 h0 => by
          have := (HST.out.front N (by omega) cap).grown h0
          rw [HN.out]
          exact this
        have hB2 : Hid (∀ w0, wr.grownBy w0 none → StrsAt w0 (.slice (some ⟨g, N, none⟩) (k - N) (cap - N)) (M.drop (2 ^ ht))) := fun w0 h0 => by
          have := (HST.out.back N (by omega) (cap - N)).grown h0
          rw [HN.out, Nat.zero_add] at *
          exact this
        have HRT := Lib.hid (root_two ht M HML.out)
        have HPT := Lib.hid (path_two ht M)
        clear hk2 hkp hlt
        go_wp2_with fail
        have hra := Lib.hid (root_ok _ _ ht (by omega) l1.out s1.out wr (hA.out wr (World.grownBy.refl _ _)) (HR.out.grown HG.out))
        refine hra.out.mono ?_
        rintro e w2 ⟨rfl, g2⟩
        have g2' := Lib.hid g2
        have hrb := Lib.hid (root_ok _ _ ht (by omega) l2.out s2.out w2 (hB2.out w2 g2) (HR.out.grown (grownBy_trans HG.out g2)))
        have za : Hid ((rootS ht (M.take (2 ^ ht))).size ≤ 1000000000000) := rootS_size _ _ _ (by decide) s1.out
        have zb : Hid ((rootS ht (M.drop (2 ^ ht))).size ≤ 1000000000000) := rootS_size _ _ _ (by decide) s2.out
        generalize rootS ht (M.take (2 ^ ht)) = ra at HRT HPT za
        generalize rootS ht (M.drop (2 ^ ht)) = rb at HRT HPT hrb zb
        clear g2 hra
        go_wp2_with fail
        refine hrb.out.mono ?_
        rintro e w3 ⟨rfl, g3⟩
        have g3' := Lib.hid (grownBy_trans g2'.out g3)
        have hrc := Lib.hid (root_ok _ M (ht + 1) (by omega) HML.out HMS.out w3 (HST.out.grown g3'.out) (HR.out.grown (grownBy_trans HG.out g3'.out)))
        rw [HRT.out] at hrc
        clear g3 hrb g2'
        go_wp2_with fail
        refine hrc.out.mono ?_
        rintro e w4 ⟨rfl, g4⟩
        have g4' := Lib.hid (grownBy_trans g3'.out g4)
        have hnd := Lib.hid (node_any ra rb za.out zb.out w4 (HR.out.grown (grownBy_trans HG.out g4'.out)))
        generalize nodeS ra rb = nab at hnd
        clear g4 hrc g3' HRT
        go_wp2_with fail
        refine hnd.out.mono ?_
        rintro e w5 ⟨rfl, g5⟩
        have g5' := Lib.hid (grownBy_trans g4'.out g5)
        clear g5 hnd g4'
        obtain ⟨kk, hkk⟩ : ∃ kk, i % (2 * N) = kk := ⟨_, rfl⟩
        have hkl : kk < 2 * N := by rw [← hkk]; exact Nat.mod_lt _ (by omega)
        have hrem : (i : Int) % (2 * (N : Int)) = (kk : Int) := by rw [← hkk]; simp
        have wi : IntKind.i64.wrap (i : Int) = (i : Int) := IntWalk.i64_in _ (by omega)
        have hkl2 : kk < 2 ^ (ht + 1) := by rw [pow_succ2, HN.out]; exact hkl
        have hp := Lib.hid (path_ok _ M (ht + 1) kk (by omega) HML.out hkl2 HMS.out w5 (HST.out.grown g5'.out) (fun g' o' n' c' e => by cases e; have := g5'.out.size; omega) (HR.out.grown (grownBy_trans HG.out g5'.out)))
        have HP2 := Lib.hid (HPT.out kk HML.out hkl2)
        have HPL := Lib.hid (pathS_length (ht + 1) M kk)
        have HKL := Lib.hid hkl
        generalize pathS (ht + 1) M kk = P at hp HP2 HPL
        clear HPT hkk hkl2 hkl
        go_wp2_with fail
        refine hp.out.mono ?_
        rintro e w6 ⟨v6, rfl, ho6, g6⟩
        obtain ⟨pa, pc, rfl⟩ := slice_own' ho6
        have HPS := Lib.hid (strs_own ho6)
        have g6' := Lib.hid (grownBy_trans g5'.out g6)
        clear g6 ho6 hp g5'
        go_upto_if 114 with (fail)
        go_cut [20, 21] (fun hv ov wx => ∃ (o' c' k3 : Nat) (Hf : List ByteArray) (oo : ByteArray), hv = .slice (some ⟨g, o', none⟩) N c' ∧ ov = .string oo ∧ Hid (Hf.length = 2 ^ ht) ∧ Hid (∀ s ∈ Hf, s.size ≤ 1000000000000) ∧ Hid (∀ w0, wr.grownBy w0 none → StrsAt w0 (.slice (some ⟨g, o', none⟩) N c') Hf) ∧ Hid (k3 < N) ∧ Hid ((kk : Int) % (N : Int) = (k3 : Int)) ∧ Hid (P = pathS ht Hf k3 ++ [oo]) ∧ w6 = wx)
        case first =>
          by_cases hkN : kk < N
          · have hkN' : (kk : Int) < (N : Int) := by omega
            have hE := HP2.out
            rw [HN.out, if_pos hkN, ← HN.out] at hE
            have HE := Lib.hid hE
            clear hE
            go_wp2_with fail
            go_meet
            case rel => exact ⟨0, cap, kk, M.take (2 ^ ht), rb, rfl, rfl, l1.out, s1.out, hA.out, hkN, Int.emod_eq_of_lt (by omega) hkN', HE.out, rfl⟩
          · have hkN' : ¬ (kk : Int) < (N : Int) := by omega
            have hE := HP2.out
            rw [HN.out, if_neg hkN, ← HN.out] at hE
            have HE := Lib.hid hE
            clear hE
            go_wp2_with fail
            go_meet
            case rel =>
              have e1 : k - N = N := by have := HK.out; omega
              refine ⟨N, cap - N, kk - N, M.drop (2 ^ ht), ra, ?_, rfl, l2.out, s2.out, ?_, ?_, ?_, ?_, rfl⟩
              · show Value.slice (some ⟨g, N, none⟩) (k - N) (cap - N) = _; rw [e1]
              · show ∀ w0, _ → _; intro w0 h0; have := hB2.out w0 h0; rw [e1] at this; exact this
              · show _ < _; have := HKL.out; omega
              · exact sub_mod kk N (by omega) HKL.out
              · show _ = _; have := HE.out; rw [HN.out] at this ⊢; exact this
        case rest =>
          obtain ⟨o', c', k3, Hf, oo, rfl, rfl, hfl, hfs, hst, hk3, hrem3, hPE, rfl⟩ := hcut
          have hq := Lib.hid (path_ok (.slice (some ⟨g, o', none⟩) N c') Hf ht k3 (by omega) hfl.out (by rw [HN.out]; exact hk3.out) hfs.out w6 (hst.out w6 g6'.out) (fun g' o2 n' c2 e => by cases e; have := g6'.out.size; omega) (HR.out.grown (grownBy_trans HG.out g6'.out)))
          have hr3 := hrem3.out
          have HQL := Lib.hid (pathS_length ht Hf k3)
          generalize pathS ht Hf k3 = Q at hq hPE HQL
          go_wp2_with fail
          refine hq.out.mono ?_
          rintro e w7 ⟨v7, rfl, ho7, g7⟩
          obtain ⟨qa, qc, rfl⟩ := slice_own' ho7
          have HQS := Lib.hid (strs_own ho7)
          have HPS7 := Lib.hid (HPS.out.grown g7)
          have HG7 := Lib.hid (grownBy_trans HG.out (grownBy_trans g6'.out g7))
          clear g7 ho7 hq hr3 HPS g6' HP2
          obtain ⟨gp, op, rfl, hcp⟩ := HPS7.out.at_ ht oo (by rw [hPE.out, List.getElem?_append_right (by rw [HQL.out]; exact Nat.le_refl _), HQL.out, Nat.sub_self]; rfl)
          have b1 : (0 : Int) ≤ (ht : Int) := by omega
          have b2 : (ht : Int) < ((ht + 1 : Nat) : Int) := by omega
          go_wp2_with fail
          go_loopw [24] (fun jv wr => ∃ j : Nat, j ≤ ht ∧ jv = .int .i64 j ∧ Hid (w7.grownBy wr none)) (fun jv _ => ht - (intOf jv).toNat)
          case atStart => exact ⟨0, by omega, rfl, World.grownBy.refl _ _⟩
          case round =>
            obtain ⟨j, hj, rfl, HJ⟩ := hrel
            by_cases hjl : j < ht
            · obtain ⟨x, hx⟩ : ∃ x, Q[j]? = some x := ⟨_, List.getElem?_eq_getElem (by rw [HQL.out]; exact hjl)⟩
              obtain ⟨gp', op', he, hcp'⟩ := (HPS7.out.grown HJ.out).at_ j x (by rw [hPE.out, List.getElem?_append_left (by rw [HQL.out]; exact hjl), hx])
              obtain ⟨rfl, rfl⟩ : gp = gp' ∧ op = op' := by cases he; exact ⟨rfl, rfl⟩
              obtain ⟨gq, oq, rfl, hcq⟩ := (HQS.out.grown HJ.out).at_ j x hx
              have c1 : (0 : Int) ≤ (j : Int) := by omega
              have c2 : (j : Int) < (ht : Int) := by omega
              have c3 : (j : Int) < ((ht + 1 : Nat) : Int) := by omega
              clear hx he
              go_wp2_with fail
              go_quiet (fail)
              go_wp2_with fail
              go_roundw
              case rel => exact ⟨j + 1, by omega, by go_num, grownBy_drewN HJ.out _⟩
              case measure => simp [intOf]; omega
            · have c2 : ¬ (j : Int) < (ht : Int) := by omega
              have HGJ := Lib.hid (grownBy_trans HG7.out HJ.out)
              go_wp2_with fail
              go_ret
              exact ⟨rfl, HGJ.out⟩

theorem merkleHalves_int (v : Value) (L : List ByteArray) (h i : Int) (hh : 0 ≤ h ∧ h ≤ 255) (hi : 0 ≤ i ∧ i ≤ 255) (w : World) (hv : StrsAt w v L) (hL : L.length ≤ maxLen) (hLs : ∀ i (h : i < L.length), L[i].size ≤ maxLen) (hr : ShaReady w) :
    Calls Tryd.prog 5 #[v, .int .u8 h, .int .u8 i] w fun e w' => e = .returned (.bool true) ∧ Below w.heap.size w w' := by
  obtain ⟨m, rfl⟩ := Int.eq_ofNat_of_zero_le hh.1
  obtain ⟨j, rfl⟩ := Int.eq_ofNat_of_zero_le hi.1
  exact (merkleHalves_walk v L m j (by omega) (by omega) w hv hL hLs hr).mono fun e w' q => ⟨q.1, below_grownBy q.2⟩
end Go.Proofs.YtmdogeampigfoaaDoor
