/- The walks of sortOut, Keys. -/
import Derived.Test.YtgaenpbdfelhhaaDoorBandNodesB2
import Derived.Test.YtgaenpbdfelhhaaDoorLay
import Derived.Sort.OwnSorted
import Derived.Sort.KeysCollected
import Derived.Maps.RangeWalk
namespace Go.Proofs.YtgaenpbdfelhhaaDoor
open Go.RowKit Go.Maps Go.Sort
attribute [local irreducible] shaL

/-- keys met so far that are wanted: no key twice -/
def Coll (D : DatU) (P : List UInt8 → Bool) (left : Lit → Bool) (ss : List (List UInt8)) : Prop := ss.Nodup ∧ ∀ x, x ∈ ss ↔ (Maps.has D (.string x) = true ∧ left (.string x) = false ∧ P x = true)
theorem Coll.start (D : DatU) (P : List UInt8 → Bool) : Coll D P (Maps.has D) [] := ⟨List.nodup_nil, fun x => by cases Maps.has D (.string x) <;> simp⟩
theorem Coll.yes {D : DatU} {P : List UInt8 → Bool} {left : Lit → Bool} {ss : List (List UInt8)} (h : Coll D P left ss) {x : List UInt8} {y : DatU} (hlk : left (.string x) = true) (hat : ∀ zd, D.atKey (.string x) zd = y) (hp : P x = true) : Coll D P (fun z => left z && !z.sameKey (.string x)) (ss ++ [x]) := by
  have hhas : Maps.has D (.string x) = true := has_true_of_atKey hat
  have hnew : x ∉ ss := fun hx => by have := ((h.2 x).1 hx).2.1; rw [hlk] at this; cases this
  refine ⟨List.nodup_append.2 ⟨h.1, by simp, fun a ha b hb => by simp at hb; subst hb; exact fun e => hnew (e ▸ ha)⟩, fun y => ?_⟩
  by_cases hy : y = x
  · subst hy; simp [hhas, hp, Lit.sameKey]
  · simp [h.2 y, hy, Lit.sameKey]
theorem Coll.no {D : DatU} {P : List UInt8 → Bool} {left : Lit → Bool} {ss : List (List UInt8)} (h : Coll D P left ss) {x : List UInt8} (hlk : left (.string x) = true) (hp : P x = false) : Coll D P (fun z => left z && !z.sameKey (.string x)) ss := by
  refine ⟨h.1, fun y => ?_⟩
  by_cases hy : y = x
  · subst hy
    have : y ∉ ss := fun hx => by have := ((h.2 y).1 hx).2.1; rw [hlk] at this; cases this
    simp [this, hp]
  · simp [h.2 y, hy, Lit.sameKey]
/-- the keys that are wanted, rising -/
def sortK (M : List PairS) (P : ByteArray → Bool) : List ByteArray := (((M.filter fun x => P x.1).map fun x => x.1.data.toList).mergeSort fun x y => decide (x ≤ y)).map str
theorem list_inj {a b : ByteArray} (h : a.data.toList = b.data.toList) : a = b := ByteArray.ext (Array.toList_inj.1 h)
theorem Coll.perm {D : DatU} {M : List PairS} {P : ByteArray → Bool} {left : Lit → Bool} {ss : List (List UInt8)} (h : Coll D (fun l => P (str l)) left ss) (hI : IsM D M) (hl : ∀ kl, left kl = false) : ss.Perm ((M.filter fun x => P x.1).map fun x => x.1.data.toList) := by
  refine (List.perm_ext_iff_of_nodup h.1 ?_).2 fun x => ?_
  · refine List.pairwise_map.2 ((hI.one.filter _).imp fun {a b} hne e => hne (list_inj e))
  · rw [h.2 x, hl]
    have h1 := hI.has (str x)
    have h2 : litK (str x) = .string x := rfl
    rw [h2] at h1
    rw [h1, List.mem_map, List.any_eq_true]
    constructor
    · rintro ⟨⟨p, hp, hk⟩, _, hP⟩
      have hk' : p.1 = str x := by simpa using hk
      refine ⟨p, List.mem_filter.2 ⟨hp, ?_⟩, by rw [hk']; rfl⟩
      rw [hk']
      exact hP
    · rintro ⟨p, hp, hk⟩
      have h3 := List.mem_filter.1 hp
      have hk' : p.1 = str x := list_inj hk
      refine ⟨⟨p, h3.1, by simpa using hk'⟩, rfl, ?_⟩
      show P (str x) = true
      rw [← hk']
      exact h3.2
theorem enc_strs (ss : List (List UInt8)) : ss.map encStr = strsV (ss.map str) := by
  unfold strsV
  rw [List.map_map]
  rfl
theorem own_low {w : World} {B B' n : Nat} {t : TypeId} {v : Value} {xs : List Value} (h : w.ownsRow B t 1 v n xs) (hb : B' ≤ B) : w.ownsRow B' t 1 v n xs := by
  refine ⟨h.1, ?_⟩
  rcases h.2 with h' | ⟨g, cap, cur, rfl, hB, r⟩
  · exact .inl h'
  · exact .inr ⟨g, cap, cur, rfl, Nat.le_trans hb hB, r⟩
theorem own_keep {w w' : World} {B n : Nat} {t : TypeId} {v : Value} {xs : List Value} {row : Option Nat} (h : w.ownsRow B t 1 v n xs) (k : w.grownBy w' row) (hne : ∀ x, v.ownBlock = some x → row ≠ some x) : w'.ownsRow B t 1 v n xs := by
  refine ⟨h.1, ?_⟩
  rcases h.2 with h' | ⟨g, cap, cur, rfl, hB, hg, r⟩
  · exact .inl h'
  · exact .inr ⟨g, cap, cur, rfl, hB, (k.block g (Array.getElem?_eq_some_iff.1 hg).1 (fun e => hne g rfl e.symm)).trans hg, r⟩
theorem sortK_nil (P : ByteArray → Bool) : sortK [] P = [] := by simp [sortK]
theorem sorted_strs {M : List PairS} {P : ByteArray → Bool} {ss : List (List UInt8)} (h : ss.Perm ((M.filter fun x => P x.1).map fun x => x.1.data.toList)) : (ss.mergeSort fun x y => decide (x ≤ y)).map str = sortK M P := by
  unfold sortK
  rw [mergeSort_of_perm h]
set_option maxRecDepth 100000 in
set_option maxHeartbeats 3200000 in
theorem tsort_all (n0 : Nat) (X : List Nat) (P : ByteArray → Bool) (w : World) (b : Nat) (M : List PairS) (hT : TreeK n0 X w b M) (hM : M.length ≤ 1000000)
    (hF : ∀ (k : ByteArray) (w' : World), hasM M k = true → w.grownBy w' none → Calls Tryd.prog 62 #[.string k] w' fun e w'' => e = .returned (.bool (P k)) ∧ w'.grownBy w'' none) :
    Calls Tryd.prog 53 #[.pointer (some ⟨b, 0, none⟩), .func (Fn.func 62) #[] #[]] w fun e w' => ∃ v, e = .returned v ∧ w'.ownsRow w.heap.size 9 1 v (sortK M P).length (strsV (sortK M P)) ∧ w.grownBy w' none := by
  obtain ⟨i0, hi, hz0, hz1, hz2⟩ := info_parts infoStrW
  obtain ⟨mv, hb, ho, hm⟩ := hT
  have c0 := cell_of hb 0
  simp at c0
  have HF := Lib.hid hF
  have hlb : b < w.heap.size := (Array.getElem?_eq_some_iff.1 hb).1
  rcases hm with ⟨rfl, rfl⟩ | ⟨mb, D, rfl, h1, h2, h3, h4⟩
  · have hrg := run_range_nilMap (P := Tryd.prog) w 69 9 9 Tryd.underlying69
    have hnx : ∀ ty, (Instr.next (.pointer (some ⟨w.heap.size, 0, none⟩)) false ty).run Tryd.prog (w.alloc (.mapIter none 0 #[] 0)) = _ := fun ty => run_next_nilMap _ ty 0 0 #[]
    have HSN := Lib.hid (Tryd.slices_Sort_string_none none 0)
    clear hb ho hlb hF
    go_enter Tryd.func53, Tryd.ntmps53
    go_wp2_with fail
    refine wp_loop_rounds 1 ?_
    rw [rounds_succ]
    go_wp2_with fail
    refine (HSN.out _).mono ?_
    rintro e w' ⟨rfl, rfl⟩
    go_wp2_with fail
    go_ret
    rw [sortK_nil]
    exact ⟨_, rfl, World.ownsRow_nil _ _ _ _, World.grownBy_alloc _ _ _⟩
  · have hbl := h3.lt
    have hbm : mb ≠ b := by
      intro e
      obtain ⟨es, cl, h5, _⟩ := h3
      rw [e, hb] at h5
      cases h5
    have hsz := h4.size
    have HI := Lib.hid h4
    have HK := Lib.hid h3
    have HM := Lib.hid hM
    clear hb ho h1 h2 h4 hF hsz hM
    go_enter Tryd.func53, Tryd.ntmps53
    go_wp2_with (at_range; refine wpList_range_own _ rfl _ 69 rfl 9 9 strK Tryd.underlying69 strR mb M.length D rfl HK.out ?_; intro w1 hrg1 hg1 hs1)
    rw [HI.out.size] at hrg1
    have HRG1 := Lib.hid hrg1
    have HG1 := Lib.hid (And.intro hg1 hs1)
    have HB := Lib.hid (And.intro hbl (And.intro hlb hbm))
    clear hrg1 hg1 hs1 hbl hlb hbm c0
    go_frame
    go_loopw [5, 6] (fun v _ wr => ∃ (left : Lit → Bool) (cnt : Nat) (ss : List (List UInt8)), Hid (wr.ranges Tryd.prog 9 strR mb w.heap.size M.length D left cnt) ∧ Hid (ss.length + cnt ≤ M.length) ∧ Hid (wr.ownsRow (w.heap.size + 1) 9 1 v ss.length (strsV (ss.map str))) ∧ Hid (Coll D (fun l => P (str l)) left ss) ∧ Hid (w.grownBy wr none ∧ w.heap.size + 1 ≤ wr.heap.size)) (fun _ _ wr => wr.rangeLeft mb w.heap.size)
    case atStart => exact ⟨_, _, [], HRG1.out, by show 0 + _ ≤ _; omega, World.ownsRow_nil _ _ _ _, Coll.start D _, HG1.out.1, by have := HG1.out.2; omega⟩
    case round =>
      clear HRG1 HG1
      obtain ⟨left, cnt, ss, HRG, HCS, HROW, HC, HG⟩ := hrel
      go_wp2_with (at_next; refine wpList_next_ranges _ rfl _ rfl 9 strK strR (fun l : List UInt8 => Value.string (str l)) (fun s : ByteArray => Value.string s) (fun key kl hk => by obtain ⟨x, hx, _⟩ := Maps.keyOf_str Tryd.underlying9 hk; exact ⟨x, hx⟩) (fun v y hv => by obtain ⟨c, rfl, _⟩ := strR_inv hv; exact ⟨c, rfl⟩) mb w.heap.size M.length _ _ _ rfl HRG.out ?_ ?_)
      · intro hc0 hl0
        have HP := Lib.hid (sorted_strs (HC.out.perm HI.out hl0))
        have HL : Hid (ss.length ≤ 1000000) := by have := HCS.out; have := HM.out; exact Lib.hid (by omega)
        clear hc0 hl0
        have hrow := HROW.out
        rw [← enc_strs] at hrow
        rcases hrow.2 with ⟨rfl, h0⟩ | ⟨g, cap, cur, rfl, hbase, hb, h1, h2, h3, h4⟩
        · have hss : ss = [] := by
            have := hrow.1
            simp at this
            exact List.eq_nil_of_length_eq_zero (by omega)
          subst hss
          have HSN := Lib.hid (Tryd.slices_Sort_string_none none 0)
          clear hrow h0
          go_wp2_with fail
          refine (HSN.out _).mono ?_
          rintro e w' ⟨rfl, rfl⟩
          go_wp2_with fail
          go_ret
          have hp : sortK M P = [] := by rw [← HP.out]; simp
          rw [hp]
          exact ⟨_, rfl, World.ownsRow_nil _ _ _ _, HG.out.1⟩
        · have hH : Holds encStr wr g 0 ss.toArray := holds_of_block hb (by simpa using h4)
          have hgl : g < wr.heap.size := (Array.getElem?_eq_some_iff.1 hb).1
          have HSC := Lib.hid (Tryd.slices_Sort_string g 0 cap ss wr hH hgl (by have := HL.out; omega))
          have HB2 := Lib.hid (And.intro hbase (And.intro hb (And.intro h1 (And.intro h2 h3))))
          clear hH hgl hrow hbase hb h1 h2 h3 h4
          go_wp2_with fail
          refine HSC.out.mono ?_
          rintro e w' ⟨rfl, nn, os, rfl⟩
          have HO := Lib.hid (ownsRow_sorted (n := nn) (os := os) (ts := ss.mergeSort fun x y => decide (x ≤ y)) (by simp) HB2.out.1 HB2.out.2.1 HB2.out.2.2.1 HB2.out.2.2.2.1 HB2.out.2.2.2.2)
          have HGS : Hid (wr.grownBy (grow (putRow encStr (Sort.ahead wr nn) g 0 (ss.mergeSort fun x y => decide (x ≤ y)).toArray) os) (some g)) := Lib.hid (grownBy_sorted _)
          generalize grow (putRow encStr (Sort.ahead wr nn) g 0 (ss.mergeSort fun x y => decide (x ≤ y)).toArray) os = w' at HO HGS ⊢
          go_wp2_with fail
          go_ret
          have hl : ss.length = (sortK M P).length := by rw [← HP.out]; simp
          have ho2 := HO.out
          rw [enc_strs, HP.out] at ho2
          rw [← hl]
          exact ⟨_, rfl, own_low ho2 (Nat.le_succ _), grown_row HG.out.1 HGS.out (fun x e => by injection e with e; have := HB2.out.1; omega)⟩
      · intro x c kl yd yp w2 cnt2 hkey hlk hv hat hrg2 hlt hg2 hs2 hen
        obtain ⟨x', ex, rfl, _⟩ := Maps.keyOf_str Tryd.underlying9 hkey
        obtain rfl : x = x' := encStr_inj ex
        have hg3 : w.grownBy w2 none := grown_row HG.out.1 hg2 (fun i e => by injection e with e; omega)
        have hhas : hasM M (str x) = true := by
          have := HI.out.has (str x)
          rw [show litK (str x) = .string x from rfl, has_true_of_atKey hat] at this
          exact this.symm
        have HFX := HF.out (str x) w2 hhas hg3
        have hrow2 := own_keep HROW.out hg2 (fun i e q => by injection q with q; have := (HROW.out.lt i e).1; omega)
        have HROW2 := Lib.hid hrow2
        have HRG2 := Lib.hid hrg2
        have HW2 := Lib.hid (And.intro hg3 (show w.heap.size + 1 ≤ w2.heap.size by have := HG.out.2; omega))
        have HLT := Lib.hid hlt
        have HLK := Lib.hid (And.intro hlk hat)
        have HX : Hid ((ss.length + 1) ≤ 1000000 + 1 ∧ ss.length + 1 + cnt2 ≤ M.length) := by have := HCS.out; have := HM.out; exact Lib.hid (by omega)
        clear hkey hv hlk hat hrg2 hlt hg2 hs2 ex hg3 hhas hrow2
        cases hP : P (str x)
        · rw [hP] at HFX
          have HFX := Lib.hid HFX
          have HPX := Lib.hid hP
          clear hP
          go_wp2_with fail
          refine HFX.out.mono ?_
          rintro e w3 ⟨rfl, g3⟩
          have HRG3 := Lib.hid (HRG2.out.kept g3 (by simp) (by simp))
          have HROW3 := Lib.hid (own_keep HROW2.out g3 (fun _ _ => by simp))
          have HW3 := Lib.hid (And.intro (grownBy_trans HW2.out.1 g3) (Nat.le_trans HW2.out.2 g3.size))
          clear g3 HRG2 HROW2 HW2
          go_wp2_with fail
          go_roundw
          case rel => exact ⟨_, cnt2, ss, HRG3.out, by show _ ≤ _; have := HX.out; omega, HROW3.out, HC.out.no HLK.out.1 HPX.out, HW3.out⟩
          case measure => rw [HRG3.out.left_eq, HRG.out.left_eq]; exact HLT.out
        · rw [hP] at HFX
          have HFX := Lib.hid HFX
          have HPX := Lib.hid hP
          clear hP
          go_wp2_with fail
          refine HFX.out.mono ?_
          rintro e wa ⟨rfl, g3⟩
          have HRGa := Lib.hid (HRG2.out.kept g3 (by simp) (by simp))
          have HROWa := Lib.hid (own_keep HROW2.out g3 (fun _ _ => by simp))
          have HWa := Lib.hid (And.intro (grownBy_trans HW2.out.1 g3) (Nat.le_trans HW2.out.2 g3.size))
          clear g3 HRG2 HROW2 HW2
          go_wp2_with (at_builtin; refine wpList_append_own _ rfl _ _ 34 rfl (w.heap.size + 1) 9 i0 (.string ⟨#[]⟩) 1 16 Tryd.underlying34 hi hz0 hz1 hz2 rfl (by decide) _ _ _ rfl (HROWa.out.alloc _) ⟨wa.heap.size, 0, none⟩ 1 1 [.string (str x)] rfl rfl (cell_one_new _ _ _) ?q2 ?q3 ?q4 ?q5 ?_)
          case q2 => first | rfl | (intro u hu; simp at hu; subst hu; rfl)
          case q3 => have := HX.out; unfold maxLen; omega
          case q4 => have := HX.out; omega
          case q5 => have := HWa.out.2; first | (simp; omega) | omega
          intro v' w3 ho hg3 _
          rw [push_strs, ← List.map_singleton (f := str), ← List.map_append] at ho
          have HO3 := Lib.hid ho
          have hne1 : some mb ≠ (show Value from _).ownBlock := row_ne_low HROWa.out (by have := HB.out.1; omega)
          have hne2 : some w.heap.size ≠ (show Value from _).ownBlock := row_ne_low HROWa.out (by omega)
          have HRG3 := Lib.hid ((HRGa.out.alloc _).kept hg3 hne1 hne2)
          have HG3 := Lib.hid (grown_row (grownBy_alloc' HWa.out.1 (.cells #[.string (str x)] 9)) hg3 (fun i e => by have := (HROWa.out.lt i e).1; omega))
          have HS3 : Hid (w.heap.size + 1 ≤ w3.heap.size) := by
            have h1 := hg3.size
            have h2 := HWa.out.2
            simp at h1
            exact Lib.hid (by omega)
          clear ho hg3 hne1 hne2
          go_wp2_with fail
          go_roundw
          case rel => exact ⟨_, cnt2, ss ++ [x], HRG3.out, by show _ ≤ _; have := HX.out; simp; omega, by show World.ownsRow _ _ _ _ _ _ _; rw [List.length_append]; exact HO3.out, HC.out.yes HLK.out.1 HLK.out.2 HPX.out, HG3.out, HS3.out⟩
          case measure => rw [HRG3.out.left_eq, HRG.out.left_eq]; exact HLT.out
set_option maxRecDepth 100000 in
set_option maxHeartbeats 3200000 in
theorem tsort_some (n0 : Nat) (X : List Nat) (c1 c2 : Value) (P : ByteArray → Bool) (w : World) (b : Nat) (M : List PairS) (hT : TreeK n0 X w b M) (hM : M.length ≤ 1000000)
    (hF : ∀ (k : ByteArray) (w' : World), hasM M k = true → w.grownBy w' none → Calls Tryd.prog 54 #[.string k, c1, c2] w' fun e w'' => e = .returned (.bool (P k)) ∧ w'.grownBy w'' none) :
    Calls Tryd.prog 53 #[.pointer (some ⟨b, 0, none⟩), .func (Fn.func 54) #[] #[c1, c2]] w fun e w' => ∃ v, e = .returned v ∧ w'.ownsRow w.heap.size 9 1 v (sortK M P).length (strsV (sortK M P)) ∧ w.grownBy w' none := by
  obtain ⟨i0, hi, hz0, hz1, hz2⟩ := info_parts infoStrW
  obtain ⟨mv, hb, ho, hm⟩ := hT
  have c0 := cell_of hb 0
  simp at c0
  have HF := Lib.hid hF
  have hlb : b < w.heap.size := (Array.getElem?_eq_some_iff.1 hb).1
  rcases hm with ⟨rfl, rfl⟩ | ⟨mb, D, rfl, h1, h2, h3, h4⟩
  · have hrg := run_range_nilMap (P := Tryd.prog) w 69 9 9 Tryd.underlying69
    have hnx : ∀ ty, (Instr.next (.pointer (some ⟨w.heap.size, 0, none⟩)) false ty).run Tryd.prog (w.alloc (.mapIter none 0 #[] 0)) = _ := fun ty => run_next_nilMap _ ty 0 0 #[]
    have HSN := Lib.hid (Tryd.slices_Sort_string_none none 0)
    clear hb ho hlb hF
    go_enter Tryd.func53, Tryd.ntmps53
    go_wp2_with fail
    refine wp_loop_rounds 1 ?_
    rw [rounds_succ]
    go_wp2_with fail
    refine (HSN.out _).mono ?_
    rintro e w' ⟨rfl, rfl⟩
    go_wp2_with fail
    go_ret
    rw [sortK_nil]
    exact ⟨_, rfl, World.ownsRow_nil _ _ _ _, World.grownBy_alloc _ _ _⟩
  · have hbl := h3.lt
    have hbm : mb ≠ b := by
      intro e
      obtain ⟨es, cl, h5, _⟩ := h3
      rw [e, hb] at h5
      cases h5
    have hsz := h4.size
    have HI := Lib.hid h4
    have HK := Lib.hid h3
    have HM := Lib.hid hM
    clear hb ho h1 h2 h4 hF hsz hM
    go_enter Tryd.func53, Tryd.ntmps53
    go_wp2_with (at_range; refine wpList_range_own _ rfl _ 69 rfl 9 9 strK Tryd.underlying69 strR mb M.length D rfl HK.out ?_; intro w1 hrg1 hg1 hs1)
    rw [HI.out.size] at hrg1
    have HRG1 := Lib.hid hrg1
    have HG1 := Lib.hid (And.intro hg1 hs1)
    have HB := Lib.hid (And.intro hbl (And.intro hlb hbm))
    clear hrg1 hg1 hs1 hbl hlb hbm c0
    go_frame
    go_loopw [5, 6] (fun v _ wr => ∃ (left : Lit → Bool) (cnt : Nat) (ss : List (List UInt8)), Hid (wr.ranges Tryd.prog 9 strR mb w.heap.size M.length D left cnt) ∧ Hid (ss.length + cnt ≤ M.length) ∧ Hid (wr.ownsRow (w.heap.size + 1) 9 1 v ss.length (strsV (ss.map str))) ∧ Hid (Coll D (fun l => P (str l)) left ss) ∧ Hid (w.grownBy wr none ∧ w.heap.size + 1 ≤ wr.heap.size)) (fun _ _ wr => wr.rangeLeft mb w.heap.size)
    case atStart => exact ⟨_, _, [], HRG1.out, by show 0 + _ ≤ _; omega, World.ownsRow_nil _ _ _ _, Coll.start D _, HG1.out.1, by have := HG1.out.2; omega⟩
    case round =>
      clear HRG1 HG1
      obtain ⟨left, cnt, ss, HRG, HCS, HROW, HC, HG⟩ := hrel
      go_wp2_with (at_next; refine wpList_next_ranges _ rfl _ rfl 9 strK strR (fun l : List UInt8 => Value.string (str l)) (fun s : ByteArray => Value.string s) (fun key kl hk => by obtain ⟨x, hx, _⟩ := Maps.keyOf_str Tryd.underlying9 hk; exact ⟨x, hx⟩) (fun v y hv => by obtain ⟨c, rfl, _⟩ := strR_inv hv; exact ⟨c, rfl⟩) mb w.heap.size M.length _ _ _ rfl HRG.out ?_ ?_)
      · intro hc0 hl0
        have HP := Lib.hid (sorted_strs (HC.out.perm HI.out hl0))
        have HL : Hid (ss.length ≤ 1000000) := by have := HCS.out; have := HM.out; exact Lib.hid (by omega)
        clear hc0 hl0
        have hrow := HROW.out
        rw [← enc_strs] at hrow
        rcases hrow.2 with ⟨rfl, h0⟩ | ⟨g, cap, cur, rfl, hbase, hb, h1, h2, h3, h4⟩
        · have hss : ss = [] := by
            have := hrow.1
            simp at this
            exact List.eq_nil_of_length_eq_zero (by omega)
          subst hss
          have HSN := Lib.hid (Tryd.slices_Sort_string_none none 0)
          clear hrow h0
          go_wp2_with fail
          refine (HSN.out _).mono ?_
          rintro e w' ⟨rfl, rfl⟩
          go_wp2_with fail
          go_ret
          have hp : sortK M P = [] := by rw [← HP.out]; simp
          rw [hp]
          exact ⟨_, rfl, World.ownsRow_nil _ _ _ _, HG.out.1⟩
        · have hH : Holds encStr wr g 0 ss.toArray := holds_of_block hb (by simpa using h4)
          have hgl : g < wr.heap.size := (Array.getElem?_eq_some_iff.1 hb).1
          have HSC := Lib.hid (Tryd.slices_Sort_string g 0 cap ss wr hH hgl (by have := HL.out; omega))
          have HB2 := Lib.hid (And.intro hbase (And.intro hb (And.intro h1 (And.intro h2 h3))))
          clear hH hgl hrow hbase hb h1 h2 h3 h4
          go_wp2_with fail
          refine HSC.out.mono ?_
          rintro e w' ⟨rfl, nn, os, rfl⟩
          have HO := Lib.hid (ownsRow_sorted (n := nn) (os := os) (ts := ss.mergeSort fun x y => decide (x ≤ y)) (by simp) HB2.out.1 HB2.out.2.1 HB2.out.2.2.1 HB2.out.2.2.2.1 HB2.out.2.2.2.2)
          have HGS : Hid (wr.grownBy (grow (putRow encStr (Sort.ahead wr nn) g 0 (ss.mergeSort fun x y => decide (x ≤ y)).toArray) os) (some g)) := Lib.hid (grownBy_sorted _)
          generalize grow (putRow encStr (Sort.ahead wr nn) g 0 (ss.mergeSort fun x y => decide (x ≤ y)).toArray) os = w' at HO HGS ⊢
          go_wp2_with fail
          go_ret
          have hl : ss.length = (sortK M P).length := by rw [← HP.out]; simp
          have ho2 := HO.out
          rw [enc_strs, HP.out] at ho2
          rw [← hl]
          exact ⟨_, rfl, own_low ho2 (Nat.le_succ _), grown_row HG.out.1 HGS.out (fun x e => by injection e with e; have := HB2.out.1; omega)⟩
      · intro x c kl yd yp w2 cnt2 hkey hlk hv hat hrg2 hlt hg2 hs2 hen
        obtain ⟨x', ex, rfl, _⟩ := Maps.keyOf_str Tryd.underlying9 hkey
        obtain rfl : x = x' := encStr_inj ex
        have hg3 : w.grownBy w2 none := grown_row HG.out.1 hg2 (fun i e => by injection e with e; omega)
        have hhas : hasM M (str x) = true := by
          have := HI.out.has (str x)
          rw [show litK (str x) = .string x from rfl, has_true_of_atKey hat] at this
          exact this.symm
        have HFX := HF.out (str x) w2 hhas hg3
        have hrow2 := own_keep HROW.out hg2 (fun i e q => by injection q with q; have := (HROW.out.lt i e).1; omega)
        have HROW2 := Lib.hid hrow2
        have HRG2 := Lib.hid hrg2
        have HW2 := Lib.hid (And.intro hg3 (show w.heap.size + 1 ≤ w2.heap.size by have := HG.out.2; omega))
        have HLT := Lib.hid hlt
        have HLK := Lib.hid (And.intro hlk hat)
        have HX : Hid ((ss.length + 1) ≤ 1000000 + 1 ∧ ss.length + 1 + cnt2 ≤ M.length) := by have := HCS.out; have := HM.out; exact Lib.hid (by omega)
        clear hkey hv hlk hat hrg2 hlt hg2 hs2 ex hg3 hhas hrow2
        cases hP : P (str x)
        · rw [hP] at HFX
          have HFX := Lib.hid HFX
          have HPX := Lib.hid hP
          clear hP
          go_wp2_with fail
          refine HFX.out.mono ?_
          rintro e w3 ⟨rfl, g3⟩
          have HRG3 := Lib.hid (HRG2.out.kept g3 (by simp) (by simp))
          have HROW3 := Lib.hid (own_keep HROW2.out g3 (fun _ _ => by simp))
          have HW3 := Lib.hid (And.intro (grownBy_trans HW2.out.1 g3) (Nat.le_trans HW2.out.2 g3.size))
          clear g3 HRG2 HROW2 HW2
          go_wp2_with fail
          go_roundw
          case rel => exact ⟨_, cnt2, ss, HRG3.out, by show _ ≤ _; have := HX.out; omega, HROW3.out, HC.out.no HLK.out.1 HPX.out, HW3.out⟩
          case measure => rw [HRG3.out.left_eq, HRG.out.left_eq]; exact HLT.out
        · rw [hP] at HFX
          have HFX := Lib.hid HFX
          have HPX := Lib.hid hP
          clear hP
          go_wp2_with fail
          refine HFX.out.mono ?_
          rintro e wa ⟨rfl, g3⟩
          have HRGa := Lib.hid (HRG2.out.kept g3 (by simp) (by simp))
          have HROWa := Lib.hid (own_keep HROW2.out g3 (fun _ _ => by simp))
          have HWa := Lib.hid (And.intro (grownBy_trans HW2.out.1 g3) (Nat.le_trans HW2.out.2 g3.size))
          clear g3 HRG2 HROW2 HW2
          go_wp2_with (at_builtin; refine wpList_append_own _ rfl _ _ 34 rfl (w.heap.size + 1) 9 i0 (.string ⟨#[]⟩) 1 16 Tryd.underlying34 hi hz0 hz1 hz2 rfl (by decide) _ _ _ rfl (HROWa.out.alloc _) ⟨wa.heap.size, 0, none⟩ 1 1 [.string (str x)] rfl rfl (cell_one_new _ _ _) ?q2 ?q3 ?q4 ?q5 ?_)
          case q2 => first | rfl | (intro u hu; simp at hu; subst hu; rfl)
          case q3 => have := HX.out; unfold maxLen; omega
          case q4 => have := HX.out; omega
          case q5 => have := HWa.out.2; first | (simp; omega) | omega
          intro v' w3 ho hg3 _
          rw [push_strs, ← List.map_singleton (f := str), ← List.map_append] at ho
          have HO3 := Lib.hid ho
          have hne1 : some mb ≠ (show Value from _).ownBlock := row_ne_low HROWa.out (by have := HB.out.1; omega)
          have hne2 : some w.heap.size ≠ (show Value from _).ownBlock := row_ne_low HROWa.out (by omega)
          have HRG3 := Lib.hid ((HRGa.out.alloc _).kept hg3 hne1 hne2)
          have HG3 := Lib.hid (grown_row (grownBy_alloc' HWa.out.1 (.cells #[.string (str x)] 9)) hg3 (fun i e => by have := (HROWa.out.lt i e).1; omega))
          have HS3 : Hid (w.heap.size + 1 ≤ w3.heap.size) := by
            have h1 := hg3.size
            have h2 := HWa.out.2
            simp at h1
            exact Lib.hid (by omega)
          clear ho hg3 hne1 hne2
          go_wp2_with fail
          go_roundw
          case rel => exact ⟨_, cnt2, ss ++ [x], HRG3.out, by show _ ≤ _; have := HX.out; simp; omega, by show World.ownsRow _ _ _ _ _ _ _; rw [List.length_append]; exact HO3.out, HC.out.yes HLK.out.1 HLK.out.2 HPX.out, HG3.out, HS3.out⟩
          case measure => rw [HRG3.out.left_eq, HRG.out.left_eq]; exact HLT.out
theorem tkeys1_any (k : ByteArray) (w : World) : Calls Tryd.prog 62 #[.string k] w fun e w' => e = .returned (.bool true) ∧ w = w' := by
  go_enter Tryd.func62, Tryd.ntmps62
  go_wp2_with fail
  go_ret
  exact ⟨rfl, rfl⟩
/-- all keys, rising -/
def keysM (M : List PairS) : List ByteArray := sortK M fun _ => true
theorem tkeys_any (n0 : Nat) (X : List Nat) (w : World) (b : Nat) (M : List PairS) (hT : TreeK n0 X w b M) (hM : M.length ≤ 1000000) :
    Calls Tryd.prog 35 #[.pointer (some ⟨b, 0, none⟩)] w fun e w' => ∃ v, e = .returned v ∧ w'.ownsRow w.heap.size 9 1 v (keysM M).length (strsV (keysM M)) ∧ w.grownBy w' none := by
  have H := Lib.hid (tsort_all n0 X (fun _ => true) w b M hT hM (fun k w' _ _ => (tkeys1_any k w').mono fun e w'' q => ⟨q.1, by rw [← q.2]; exact World.grownBy.refl _ _⟩))
  clear hT hM
  go_enter Tryd.func35, Tryd.ntmps35
  go_wp2_with fail
  refine H.out.mono ?_
  rintro e w1 ⟨v, rfl, ho, g⟩
  have HO := Lib.hid (And.intro ho g)
  clear ho g
  go_wp2_with fail
  go_ret
  exact ⟨v, rfl, HO.out.1, HO.out.2⟩
end Go.Proofs.YtgaenpbdfelhhaaDoor
