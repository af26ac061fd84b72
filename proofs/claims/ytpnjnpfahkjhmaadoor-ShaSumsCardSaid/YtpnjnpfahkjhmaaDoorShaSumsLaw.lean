/- The walk of the law ShaSums. -/
import Derived.Test.YtpnjnpfahkjhmaaDoorShaSpeaks
import Derived.Test.YtpnjnpfahkjhmaaDoorShaFour
import Derived.Test.YtpnjnpfahkjhmaaDoorShaRefE
import Derived.Deep.DeepCutAuto
import Derived.Deep.CutBlock
namespace Go.Proofs.YtpnjnpfahkjhmaaDoor
open Go.RowKit
attribute [local irreducible] shaL be

/-- a text's first bytes -/
def cutAt (n : Nat) (s : ByteArray) : ByteArray := if s.size ≤ n then s else s.extract 0 n
theorem cutAt_size (n : Nat) (s : ByteArray) : (cutAt n s).size ≤ n := by
  unfold cutAt
  split
  · assumption
  · rw [ByteArray.size_extract]; omega
theorem cutAt_le (n : Nat) (s : ByteArray) (h : s.size ≤ n) : cutAt n s = s := if_pos h
theorem cutAt_gt (n : Nat) (s : ByteArray) (h : ¬ s.size ≤ n) : cutAt n s = s.extract 0 n := if_neg h
def strs (l : List ByteArray) : List Value := l.map Value.string
theorem infoStr : (Tryd.prog.info? 9).map (fun i => (i.zero, i.size, i.bytes)) = some (some (.string ⟨#[]⟩), 1, 16) := by kernel_rfl
theorem str_kept {w w' : World} {B n : Nat} {v : Value} {xs : List Value} (h : w.ownsRow B 9 1 v n xs) (hg : w.grownBy w' none) : w'.ownsRow B 9 1 v n xs := by
  obtain ⟨hl, h⟩ := h
  refine ⟨hl, ?_⟩
  rcases h with h' | ⟨g, cap, cur, rfl, a, hgg, r⟩
  · exact .inl h'
  · refine .inr ⟨g, cap, cur, rfl, a, ?_, r⟩
    rw [hg.block g (Array.getElem?_eq_some_iff.1 hgg).1 (by simp)]
    exact hgg
theorem strs_of_own {w : World} {B n : Nat} {a : Option Addr} {cap : Nat} {L : List ByteArray} (h : w.ownsRow B 9 1 (.slice a n cap) n (strs L)) : StrsAt w (.slice a n cap) L := by
  have hl := h.1
  simp [strs] at hl
  subst hl
  refine ⟨a, cap, rfl, fun i hi => ?_⟩
  rcases h.2 with ⟨_, h0⟩ | ⟨g, cap', cur, he, hB, hg, hnc, hm, hcs, htake⟩
  · omega
  · cases he
    refine ⟨g, 0, rfl, ?_⟩
    rw [Nat.zero_add, cell_of hg]
    have : (strs L)[i]? = some (.string L[i]) := by simp [strs, List.getElem?_eq_getElem hi]
    rw [← htake, List.getElem?_take, if_pos (by omega)] at this
    simpa using this

def cuts (n : Nat) (L : List ByteArray) (k : Nat) : List ByteArray := (L.take k).map (cutAt n)
theorem cuts_length (n : Nat) (L : List ByteArray) (k : Nat) (h : k ≤ L.length) : (cuts n L k).length = k := by simp [cuts]; omega
theorem cuts_succ (n : Nat) (L : List ByteArray) (k : Nat) (h : k < L.length) : cuts n L (k + 1) = cuts n L k ++ [cutAt n L[k]] := by
  unfold cuts
  rw [List.take_succ_eq_append_getElem h, List.map_append]
  rfl
theorem catB_snoc (L : List ByteArray) (s : ByteArray) : catB (L ++ [s]) = catB L ++ s.data.toList := by simp [catB]
theorem tagB_snoc (t : UInt8) (L : List ByteArray) (s : ByteArray) : tagB t (L ++ [s]) = tagB t L ++ (be s.size 4 ++ s.data.toList) := by simp [tagB]

set_option maxRecDepth 100000 in
set_option maxHeartbeats 1600000 in
theorem shaSums_walk (v : Value) (L : List ByteArray) (tag : UInt8) (w : World) (hv : StrsAt w v L) (hL : L.length ≤ maxLen) (hLs : ∀ i (h : i < L.length), L[i].size ≤ maxLen) (hr : ShaReady w) :
    Calls Tryd.prog 3 #[v, .int .u8 tag.toNat] w fun e w' => e = .returned (.bool true) ∧ Below w.heap.size w w' := by
  unfold maxLen at hL hLs
  obtain ⟨i0, hi, hz0, hz1, hz2⟩ := info_parts infoStr
  have HR := Lib.hid hr
  obtain ⟨av, capv, rfl, hc⟩ := hv
  have HC := Lib.hid hc
  have HLS := Lib.hid hLs
  clear hc hLs hr
  go_enter Tryd.func3, Tryd.ntmps3
  go_wp2_with fail
  refine (sha_speaks _ HR.out).mono ?_
  rintro e w1 ⟨rfl, h1⟩
  have B1 := Lib.hid h1
  clear h1
  have hcv : (convert 24 9 (.slice (some ⟨w1.heap.size, 0, none⟩) 1 1)).run Tryd.prog (w1.alloc (.cells #[.int .u8 tag.toNat] 5)).drew = .ok (.string (str [tag])) (w1.alloc (.cells #[.int .u8 tag.toNat] 5)).drew :=
    row_string (w := (w1.alloc (.cells #[.int .u8 tag.toNat] 5)).drew) (g := w1.heap.size) (l := [tag]) (t := 5) (heap_alloc_at w1 _ _ rfl) 1
  go_wp2_with fail
  go_region
  have G1 : Hid (w.grownBy (w1.alloc (.cells #[.int .u8 tag.toNat] 5)).drew none) := grownBy_drew (grownBy_alloc' (grownBy_below B1.out) _)
  clear hcv B1
  generalize (w1.alloc (.cells #[.int .u8 tag.toNat] 5)).drew = w2 at G1 ⊢
  have hts : (str [tag]).size = 1 := rfl
  have hsz := G1.out.size
  go_wp2_with fail
  go_loopg [5, 6, 7, 8] 5 (fun gh av' sv tv iv wr => ∃ k : Nat, ∃ a cap sB tB, k + gh = 5 ∧ k ≤ L.length ∧ k ≤ 5 ∧ iv = .int .i64 k ∧ av' = .slice a k cap ∧ Hid (wr.ownsRow w.heap.size 9 1 (.slice a k cap) k (strs (cuts 70 L k))) ∧ sv = .string sB ∧ Hid (sB.data.toList = catB (cuts 70 L k)) ∧ sB.size ≤ 70 * k ∧ tv = .string tB ∧ Hid (tB.data.toList = tagB tag (cuts 70 L k)) ∧ tB.size ≤ 74 * k + 1 ∧ Hid (w.grownBy wr none))
  case atStart => exact ⟨0, none, 0, _, _, by omega, by omega, by omega, rfl, rfl, ⟨rfl, .inl ⟨rfl, rfl⟩⟩, rfl, rfl, by show (0 : Nat) ≤ _; omega, rfl, rfl, by rw [hts]; omega, G1.out⟩
  case round =>
    clear G1 hsz w2
    obtain ⟨k, a, cap, sB, tB, hgk, hk, hk5, rfl, rfl, HO, rfl, HS, hss, rfl, HT, htt, HG⟩ := hrel
    by_cases hlt : k < L.length ∧ k < 5
    · obtain ⟨hlt, hlt5⟩ := hlt
      obtain ⟨g, o, rfl, hcell⟩ := HC.out k hlt
      have hcell' : wr.cell? ⟨g, o + k, none⟩ = some (.string L[k]) := HG.out.cell hcell (by simp)
      have hks : L[k].size ≤ 9223372036854775807 := by have := HLS.out k hlt; omega
      have HCS := Lib.hid (cuts_succ 70 L k hlt)
      generalize L[k] = x at hcell' hks HCS
      clear hcell
      have d1 : decide ((k : Int) < (L.length : Int)) = true := by simp; omega
      have d2 : decide ((k : Int) < 5) = true := by simp; omega
      have b1 : (0 : Int) ≤ (k : Int) := by omega
      have b2 : (k : Int) < (L.length : Int) := by omega
      go_upto_region 9 with (fail)
      go_cut [9] (fun xv wx => xv = .string (cutAt 70 x) ∧ Hid (∃ n, wx = wr.drewN n))
      case first =>
        by_cases hx : x.size ≤ 70
        · have hz := cutAt_le 70 x hx
          go_region
          all_goals
            go_wp2_with fail
            go_meet
            case rel => exact ⟨by rw [hz], ⟨1, rfl⟩⟩
        · have hz := cutAt_gt 70 x hx
          go_region
          all_goals
            go_wp2_with fail
            go_meet
            case rel => exact ⟨by rw [hz], ⟨1, rfl⟩⟩
      case rest =>
        obtain ⟨rfl, HW⟩ := hcut
        clear hcell' hks
        obtain ⟨n, rfl⟩ := HW
        have hcz := cutAt_size 70 x
        have hG2 := Lib.hid (grownBy_drewN HG.out n)
        have HO2 : Hid ((wr.drewN n).ownsRow w.heap.size 9 1 (.slice a k cap) k (strs (cuts 70 L k))) := str_kept HO.out (grownBy_drewN (World.grownBy.refl _ _) n)
        clear HO HG
        generalize wr.drewN n = wq at hG2 HO2 ⊢
        generalize cutAt 70 x = y at hcz HCS ⊢
        have hsz := hG2.out.size
        go_wp2_with (at_builtin; refine wpList_append_own _ rfl _ _ 22 rfl w.heap.size 9 i0 (.string ⟨#[]⟩) 1 16 Tryd.underlying22 hi hz0 hz1 hz2 rfl (by decide) _ _ _ rfl (HO2.out.alloc _) ⟨wq.heap.size, 0, none⟩ 1 1 [.string y] rfl rfl ?q1 ?q2 ?q3 ?q4 ?q5 ?_)
        case q1 =>
          intro j u hj
          match j, hj with
          | 0, hj => simp at hj; subst hj; simp [Addr.add]
        case q2 => intro u hu; simp at hu; subst hu; rfl
        case q3 => unfold maxLen; omega
        case q4 => omega
        case q5 => simp; omega
        intro v' w3 hown' hg3 _
        have HG3 : Hid (w.grownBy w3 none) := grownBy_below (((below_grownBy hG2.out).alloc hsz _).grown hg3 (by simp; omega) (fun k hk => (HO2.out.lt k hk).1))
        obtain ⟨a', cap', rfl⟩ := slice_of_own hown'
        have HO3 := Lib.hid hown'
        clear hown' hg3 hG2 HO2 hsz
        have q1 : (9223372036854775807 < sB.size + y.size) = False := eq_false (by omega)
        have hb4 : (str (be y.size 4)).size = 4 := by rw [str_size, be_length]
        go_wp2_with fail
        refine (four_any y.size (by omega) _).mono ?_
        rintro e w4 ⟨rfl, g4⟩
        have HG4 := Lib.hid (grownBy_trans HG3.out g4)
        have HO4 := Lib.hid (str_kept HO3.out g4)
        clear g4 HG3 HO3
        obtain ⟨z, hz⟩ : ∃ z, str (be y.size 4) = z := ⟨_, rfl⟩
        rw [hz] at hb4 ⊢
        have HZ := Lib.hid hz
        clear hz
        have hzy : (z ++ y).size = 4 + y.size := by rw [ByteArray.size_append, hb4]
        have q2 : (9223372036854775807 < z.size + y.size) = False := eq_false (by omega)
        have q3 : (9223372036854775807 < tB.size + (z ++ y).size) = False := eq_false (by omega)
        have q4 : (9223372036854775807 < tB.size + (z.size + y.size)) = False := eq_false (by omega)
        go_wp2_with fail
        go_roundg (5 - (k + 1))
        case measure => omega
        case rel =>
          refine ⟨k + 1, a', cap', _, _, by omega, by omega, by omega, by go_num, rfl, ?_, rfl, ?_, ?_, rfl, ?_, ?_, HG4.out⟩
          · show World.ownsRow _ _ _ _ _ _ _
            rw [HCS.out]
            have := HO4.out
            simpa [strs] using this
          · show _ = _
            rw [HCS.out, catB_snoc, ← HS.out]
            simp
          · rw [ByteArray.size_append]; omega
          · show _ = _
            rw [HCS.out, tagB_snoc, ← HT.out, ← str_data (be y.size 4), HZ.out]
            simp
          · rw [ByteArray.size_append]; omega
    · have hcl := cuts_length 70 L k hk
      have hst := strs_of_own HO.out
      have hcn : (cuts 70 L k).length ≤ maxLen := by rw [hcl]; unfold maxLen; omega
      have hs0 := HS.out
      have ht0 := HT.out
      have hsl : (catB (cuts 70 L k)).length ≤ 350 := by rw [← hs0]; simp; omega
      have htl : (tagB tag (cuts 70 L k)).length ≤ 400 := by rw [← ht0]; simp; omega
      obtain ⟨X, hX⟩ : ∃ X, str (shaL (catB (cuts 70 L k))) = X := ⟨_, rfl⟩
      obtain ⟨Y, hY⟩ : ∃ Y, str (shaL (tagB tag (cuts 70 L k))) = Y := ⟨_, rfl⟩
      obtain ⟨Z, hZ⟩ : ∃ Z, str ((shaL (tagB tag (cuts 70 L k))).take 16) = Z := ⟨_, rfl⟩
      have hsB : str (shaL sB.data.toList) = X := by rw [hs0, hX]
      have htB : str (shaL tB.data.toList) = Y := by rw [ht0, hY]
      have hYs : Y.size = 32 := by rw [← hY, str_size, shaL_length]
      have hYZ : Y.extract 0 16 = Z := by
        rw [← hY, ← hZ]
        apply ByteArray.ext
        apply Array.toList_inj.1
        simp [str]
      have HST := Lib.hid hst
      have HXY := Lib.hid (And.intro hX (And.intro hZ (And.intro hsB htB)))
      have HSL := Lib.hid (And.intro hcn (And.intro hsl htl))
      clear hst hX hY hZ hsB htB hs0 ht0 hcn hsl htl hcl HS HT HO hgk
      have hfin : ∀ w', w.grownBy w' none → Below w.heap.size w w' := fun w' h => below_grownBy h
      have HF := Lib.hid hfin
      clear hfin
      have hsb2 : sB.size ≤ 1000000 := by omega
      have htb2 : tB.size ≤ 1000000 := by omega
      by_cases h1 : k < L.length
      · have d2 : decide ((k : Int) < 5) = false := by simp; omega
        clear hlt hss htt hk5
        go_wp2_with fail
        refine (shaSum_any _ _ _ HST.out (HR.out.kept HG.out (by simp) (by simp)) HSL.out.1 (by have := HSL.out.2.1; omega)).mono ?_
        rintro e w3 ⟨rfl, g3⟩
        have HG3 := Lib.hid (grownBy_trans HG.out g3)
        have HST3 := Lib.hid (HST.out.kept (below_grownBy g3))
        rw [HXY.out.1]
        clear g3
        go_wp2_with fail
        refine (refSum_any _ sB hsb2).mono ?_
        rintro e w4 ⟨rfl, g4⟩
        have HG4 := Lib.hid (grownBy_trans HG3.out g4)
        have HST4 := Lib.hid (HST3.out.kept (below_grownBy g4))
        rw [HXY.out.2.2.1]
        clear g4
        go_wp2_with fail
        refine (tagged_any _ tag _ _ HST4.out (HR.out.kept HG4.out (by simp) (by simp)) HSL.out.1 (by have := HSL.out.2.2; omega)).mono ?_
        rintro e w5 ⟨rfl, g5⟩
        have HG5 := Lib.hid (grownBy_trans HG4.out g5)
        rw [HXY.out.2.1]
        clear g5
        go_wp2_with fail
        refine (refSum_any _ tB htb2).mono ?_
        rintro e w6 ⟨rfl, g6⟩
        have HG6 := Lib.hid (grownBy_trans HG5.out g6)
        rw [HXY.out.2.2.2]
        clear g6
        go_wp2_with fail
        go_ret
        exact ⟨rfl, HF.out _ HG6.out⟩
      · have d1 : decide (k < L.length) = false := by simp; omega
        clear hlt hss htt hk5
        go_wp2_with fail
        refine (shaSum_any _ _ _ HST.out (HR.out.kept HG.out (by simp) (by simp)) HSL.out.1 (by have := HSL.out.2.1; omega)).mono ?_
        rintro e w3 ⟨rfl, g3⟩
        have HG3 := Lib.hid (grownBy_trans HG.out g3)
        have HST3 := Lib.hid (HST.out.kept (below_grownBy g3))
        rw [HXY.out.1]
        clear g3
        go_wp2_with fail
        refine (refSum_any _ sB hsb2).mono ?_
        rintro e w4 ⟨rfl, g4⟩
        have HG4 := Lib.hid (grownBy_trans HG3.out g4)
        have HST4 := Lib.hid (HST3.out.kept (below_grownBy g4))
        rw [HXY.out.2.2.1]
        clear g4
        go_wp2_with fail
        refine (tagged_any _ tag _ _ HST4.out (HR.out.kept HG4.out (by simp) (by simp)) HSL.out.1 (by have := HSL.out.2.2; omega)).mono ?_
        rintro e w5 ⟨rfl, g5⟩
        have HG5 := Lib.hid (grownBy_trans HG4.out g5)
        rw [HXY.out.2.1]
        clear g5
        go_wp2_with fail
        refine (refSum_any _ tB htb2).mono ?_
        rintro e w6 ⟨rfl, g6⟩
        have HG6 := Lib.hid (grownBy_trans HG5.out g6)
        rw [HXY.out.2.2.2]
        clear g6
        go_wp2_with fail
        go_ret
        exact ⟨rfl, HF.out _ HG6.out⟩
end Go.Proofs.YtpnjnpfahkjhmaaDoor
