/- The walks of header's isNode, depthMayBe, check. · Plain words for sparse trees: nodes of pairs. No walk. · What a sparse tree holds in memory: pairs in a map. No walk. · The walks of a tree's New, Put, Get, Len. · The walks of Leaf, isLeaf, Join. · The walks of sortOut, Keys. · The walk of IndexFunc, at the closures that are handed to it. · The walk of IndexFunc, at proof's alike's closure (SmtI's text, by program). · What DeleteFunc leaves in its row: plain words, and a row whose cells are set one by one. No walk. · The walk of DeleteFunc, at proof's alike's closure. · The walks of proof's begins, and of its alike's closure. · The walk of proof's alike. · The walks of above, Node, Root. · Keys that rise, parted at a bit. No walk. · The walk of a proof's besideMayBe. · The walk of a proof's Good, where key and depth may be. · The walks of band's Count and Of. -/
import Derived.Test.YtioahjdojgcfdaaDoorHeaderChainsB3
import Derived.Handy
import Derived.Deep.DeepCutAuto
import Derived.Deep.RegionHeld3
import Derived.Test.YtioahjdojgcfdaaDoorHeaderChainsB2
import Derived.Maps.OwnSet
import Derived.Carry
import Derived.Deep.RegionWith
import Derived.Test.YtioahjdojgcfdaaDoorLay
import Derived.Sort.OwnSorted
import Derived.Sort.KeysCollected
import Derived.Maps.RangeWalk
import Derived.Laws.IdiomCopy
import Derived.Lib.SliceRun
import Derived.Sort.Walk0
import Derived.Test.YtioahjdojgcfdaaDoorShaCalls
namespace Go.Proofs.YtioahjdojgcfdaaDoor
open Go.RowKit
attribute [local irreducible] shaL

def HdrS.val (x : HdrS) (v : Value) : Value := .agg #[.int .u64 x.e, .string x.p, .int .i64 x.d, .int .i64 x.a, v]
theorem one0 (s : ByteArray) : (s.toList == [0]) = decide (s = ⟨#[0]⟩) := by
  have h : (⟨#[0]⟩ : ByteArray).toList = [0] := by rw [ByteArray.toList_eq]
  have h2 := eq_strE s ⟨#[0]⟩
  rwa [h] at h2
theorem nodeOk_17 {s : ByteArray} (h : s.size = 17) (h0 : 0 < s.size) : nodeOk s = (decide (s[0].toNat = 1) || decide (s[0].toNat = 2)) := by
  have hne : s ≠ ⟨#[0]⟩ := by rintro rfl; exact absurd h (by decide)
  have hh : s.data.toList.head? = some s[0] := by
    rw [List.head?_eq_getElem?, List.getElem?_eq_getElem (by rw [Array.length_toList]; exact h0)]
    rfl
  unfold nodeOk
  rw [decide_eq_false hne, Bool.false_or, decide_eq_true h, Bool.true_and, hh]
  have key : ∀ (c : UInt8) (n : Nat), n < 256 → decide (some c = some (UInt8.ofNat n)) = decide (c.toNat = n) := by
    intro c n hn
    rw [Bool.eq_iff_iff, decide_eq_true_iff, decide_eq_true_iff, Option.some_inj]
    constructor
    · rintro rfl; simp; omega
    · intro e; rw [← e]; simp
  rw [show (1 : UInt8) = UInt8.ofNat 1 from rfl, show (2 : UInt8) = UInt8.ofNat 2 from rfl, key _ 1 (by decide), key _ 2 (by decide)]
set_option maxRecDepth 100000 in
set_option maxHeartbeats 1600000 in
theorem isNode_any (s : ByteArray) (hs : s.size ≤ maxLen) (w : World) :
    Calls Tryd.prog 112 #[.string s] w fun e w' => e = .returned (.bool (nodeOk s)) ∧ w.grownBy w' none := by
  unfold maxLen at hs
  have e0 := one0 s
  by_cases h0 : s = ⟨#[0]⟩
  · have e1 : (s.toList == [0]) = true := by rw [e0]; simpa using h0
    have hok : nodeOk s = true := by unfold nodeOk; rw [decide_eq_true h0, Bool.true_or]
    rw [hok]
    clear h0 hok e0
    go_enter Tryd.func112, Tryd.ntmps112
    go_wp2_with fail
    go_ret
    exact ⟨rfl, by first | exact World.grownBy.refl _ _ | exact grownBy_drew (World.grownBy.refl _ _)⟩
  · have e1 : (s.toList == [0]) = false := by rw [e0]; simpa using h0
    by_cases h17 : s.size = 17
    · have hp : 0 < s.size := by omega
      have hok := nodeOk_17 h17 hp
      have q1 : ((s.size : Int) == 17) = true := by rw [h17]; rfl
      have q2 : (0 : Int) < (s.size : Int) := by omega
      rw [hok]
      obtain ⟨c, hc⟩ : ∃ c, s[0].toNat = c := ⟨_, rfl⟩
      have hc256 : c < 256 := by rw [← hc]; exact s[0].toNat_lt
      rw [hc]
      clear hok e0 h0
      by_cases c1 : c = 1
      · have r1 : ((c : Int) == 1) = true := by simp [c1]
        go_enter Tryd.func112, Tryd.ntmps112
        go_wp2_with (rw [hc])
        go_ret
        exact ⟨by simp [c1], by first | exact World.grownBy.refl _ _ | exact grownBy_drew (World.grownBy.refl _ _)⟩
      · have r1 : ((c : Int) == 1) = false := by rw [beq_eq_false_iff_ne]; omega
        by_cases c2 : c = 2
        · have r2 : ((c : Int) == 2) = true := by simp [c2]
          go_enter Tryd.func112, Tryd.ntmps112
          go_wp2_with (rw [hc])
          go_ret
          exact ⟨by simp [c2], by first | exact World.grownBy.refl _ _ | exact grownBy_drew (World.grownBy.refl _ _)⟩
        · have r2 : ((c : Int) == 2) = false := by rw [beq_eq_false_iff_ne]; omega
          go_enter Tryd.func112, Tryd.ntmps112
          go_wp2_with (rw [hc])
          go_ret
          exact ⟨by simp [c1, c2], by first | exact World.grownBy.refl _ _ | exact grownBy_drew (World.grownBy.refl _ _)⟩
    · have q1 : ((s.size : Int) == 17) = false := by rw [beq_eq_false_iff_ne]; omega
      have hok : nodeOk s = false := by unfold nodeOk; rw [decide_eq_false h0, decide_eq_false h17]; rfl
      rw [hok]
      clear h0 hok e0
      go_enter Tryd.func112, Tryd.ntmps112
      go_wp2_with fail
      go_ret
      exact ⟨rfl, by first | exact World.grownBy.refl _ _ | exact grownBy_drew (World.grownBy.refl _ _)⟩

theorem depthMay_any (d : Int) (w : World) :
    Calls Tryd.prog 110 #[.int .i64 d] w fun e w' => e = .returned (.bool (decide (0 ≤ d ∧ d ≤ 4))) ∧ w = w' := by
  by_cases h : 0 ≤ d ∧ d ≤ 4
  · obtain ⟨k, rfl⟩ := Int.eq_ofNat_of_zero_le h.1
    have HC := Lib.hid (fun w' => bcount_in k (by omega) w')
    have hp : 0 < 2 ^ k := Nat.pow_pos (by decide)
    rw [decide_eq_true h]
    generalize 2 ^ k = N at HC hp
    have q1 : (0 : Int) < (N : Int) := by omega
    have q2 : (N : Int) > 0 := by omega
    clear h
    go_enter Tryd.func110, Tryd.ntmps110
    go_wp2_with fail
    refine (HC.out _).mono ?_
    rintro e w1 ⟨rfl, rfl⟩
    go_wp2_with fail
    go_ret
    exact ⟨rfl, rfl⟩
  · have HC := Lib.hid (fun w' => bcount_out d (by omega) w')
    rw [decide_eq_false h]
    clear h
    go_enter Tryd.func110, Tryd.ntmps110
    go_wp2_with fail
    refine (HC.out _).mono ?_
    rintro e w1 ⟨rfl, rfl⟩
    go_wp2_with fail
    go_ret
    exact ⟨rfl, rfl⟩

structure HdrS.small (x : HdrS) : Prop where
  e : x.e ≤ 18446744073709551615
  p : x.p.size ≤ 100000
  n : x.L.length ≤ 100000
  s : ∀ s ∈ x.L, s.size ≤ 100000
set_option maxRecDepth 100000 in
set_option maxHeartbeats 3200000 in
theorem hcheck_any (x : HdrS) (hx : x.small) (v : Value) (w : World) (hv : StrsAt w v x.L) :
    Calls Tryd.prog 74 #[x.val v] w fun e w' => e = .returned (.int .i64 x.err) ∧ w.grownBy w' none := by
  obtain ⟨a, cap, rfl⟩ := hv.form
  obtain ⟨e, p, d, au, L⟩ := x
  obtain ⟨he, hp, hn, hs⟩ := hx
  have he : e ≤ 18446744073709551615 := he
  have hp : p.size ≤ 100000 := hp
  have hn : L.length ≤ 100000 := hn
  have hs : ∀ s ∈ L, s.size ≤ 100000 := hs
  have hv : StrsAt w (.slice a L.length cap) L := hv
  unfold HdrS.val
  simp only
  have HV := Lib.hid hv
  have HS := Lib.hid hs
  obtain ⟨n, hnn⟩ : ∃ n, L.length = n := ⟨_, rfl⟩
  rw [hnn] at hn HV ⊢
  have HN := Lib.hid hnn
  have hb0 := heap_alloc_at w (.cells #[.int .u64 e, .string p, .int .i64 d, .int .i64 au, .slice a n cap] 63) _ rfl
  have hg0 : w.grownBy (w.alloc (.cells #[.int .u64 e, .string p, .int .i64 d, .int .i64 au, .slice a n cap] 63)) none := World.grownBy_alloc _ _ _
  obtain ⟨W0, hW0⟩ : ∃ W0, w.alloc (.cells #[.int .u64 e, .string p, .int .i64 d, .int .i64 au, .slice a n cap] 63) = W0 := ⟨_, rfl⟩
  obtain ⟨XB, hXB⟩ : ∃ XB, w.heap.size = XB := ⟨_, rfl⟩
  rw [hW0] at hb0 hg0
  rw [hXB] at hb0
  obtain ⟨x0, x1, x2, x3, x4⟩ := cells5 hb0
  have HB0 := Lib.hid hb0
  have HG0 := Lib.hid hg0
  have HW := Lib.hid (And.intro hW0 hXB)
  have HDM := Lib.hid (fun w' => depthMay_any d w')
  clear hb0 hg0 hW0 hXB hv hs
  obtain ⟨z, hz⟩ : ∃ z, (⟨e, p, d, au, L⟩ : HdrS).err = z := ⟨_, rfl⟩
  rw [hz]
  by_cases h1 : 4294967295 < e
  · have hzz : z = 10 := by rw [← hz]; unfold HdrS.err; rw [if_pos (show (⟨e, p, d, au, L⟩ : HdrS).wide from Or.inl h1)]
    subst hzz
    have q1 : (4294967295 : Int) < (e : Int) := by omega
    have q2 : (e : Int) > 4294967295 := by omega
    clear hz h1
    go_enter Tryd.func74, Tryd.ntmps74
    go_wp2_with (rw [HW.out.1, HW.out.2])
    go_ret
    exact ⟨rfl, by first | exact HG0.out | exact grownBy_drew HG0.out⟩
  · have q1 : ¬ (4294967295 : Int) < (e : Int) := by omega
    have q2 : ¬ (e : Int) > 4294967295 := by omega
    by_cases h2 : p.size = 16
    · have q3 : ((p.size : Int) != 16) = false := by rw [h2]; rfl
      have q3' : ((p.size : Int) == 16) = true := by rw [h2]; rfl
      by_cases h3 : 0 ≤ d ∧ d ≤ 4
      · rw [decide_eq_true h3] at HDM
        obtain ⟨k, rfl⟩ := Int.eq_ofNat_of_zero_le h3.1
        have hk : k ≤ 4 := by omega
        have HC := Lib.hid (fun w' => bcount_in k hk w')
        by_cases h4 : au < 0 ∨ 64 < au
        · have hzz : z = 10 := by rw [← hz]; unfold HdrS.err; rw [if_pos (by unfold HdrS.wide; simp only; omega)]
          subst hzz
          clear hz h1 h2 h3 HC hk
          rcases h4 with h4 | h4
          · go_enter Tryd.func74, Tryd.ntmps74
            go_wp2_with (rw [HW.out.1, HW.out.2])
            refine (HDM.out _).mono ?_
            rintro e w1 ⟨rfl, rfl⟩
            go_wp2_with (rw [HW.out.1, HW.out.2])
            go_ret
            exact ⟨rfl, by first | exact HG0.out | exact grownBy_drew HG0.out⟩
          · have h5 : ¬ au < 0 := by omega
            have h6 : au > 64 := h4
            go_enter Tryd.func74, Tryd.ntmps74
            go_wp2_with (rw [HW.out.1, HW.out.2])
            refine (HDM.out _).mono ?_
            rintro e w1 ⟨rfl, rfl⟩
            go_wp2_with (rw [HW.out.1, HW.out.2])
            go_ret
            exact ⟨rfl, by first | exact HG0.out | exact grownBy_drew HG0.out⟩
        · have h5 : ¬ au < 0 := by omega
          have h6 : ¬ au > 64 := by omega
          have hnw : ¬ (⟨e, p, (k : Int), au, L⟩ : HdrS).wide := by unfold HdrS.wide; simp only; omega
          have hz2 : z = if n ≠ 2 ^ k then 22 else if L.all nodeOk = true then 0 else 4 := by
            rw [← hz]
            unfold HdrS.err
            rw [if_neg hnw]
            show (if L.length ≠ 2 ^ ((k : Int)).toNat then (22 : Int) else if L.all nodeOk = true then 0 else 4) = _
            rw [hnn]
            rfl
          clear hz hnw h1 h2 h3 hk
          generalize 2 ^ k = N at HC hz2
          by_cases h7 : n = N
          · have q7 : ((n : Int) != (N : Int)) = false := by simp [h7]
            have q7' : ((n : Int) == (N : Int)) = true := by simp [h7]
            rw [if_neg (by omega)] at hz2
            have HZ := Lib.hid hz2
            have H7 := Lib.hid h7
            clear hz2 h4 h7
            go_enter Tryd.func74, Tryd.ntmps74
            go_wp2_with (rw [HW.out.1, HW.out.2])
            refine (HDM.out _).mono ?_
            rintro e w1 ⟨rfl, rfl⟩
            go_wp2_with (rw [HW.out.1, HW.out.2])
            go_region_held3 (fun w' => w'.cell? ⟨XB, 2, none⟩ = some (.int .i64 k) ∧ w'.cell? ⟨XB, 4, none⟩ = some (.slice a n cap)) (first | exact ⟨x2, x4⟩)
              (first
              | (go_at_call 111; (with_reducible refine (HC.out _).mono ?_); rintro e w3 ⟨rfl, rfl⟩))
            go_wp2_with (rw [HW.out.1, HW.out.2])
            go_loopw [4, 38] (fun _ iv wr => ∃ (i : Nat), i ≤ n ∧ iv = .int .i64 i ∧ Hid ((L.take i).all nodeOk = true) ∧ Hid (w.grownBy wr none)) (fun _ iv _ => n - (intOf iv).toNat)
            case atStart => exact ⟨0, Nat.zero_le _, rfl, rfl, by first | exact HG0.out | exact grownBy_drew HG0.out⟩
            case round =>
              obtain ⟨i, hi, rfl, HK, HG⟩ := hrel
              by_cases hlt : i < n
              · have d1 : (i : Int) < (n : Int) := by omega
                have d0 : (0 : Int) ≤ (i : Int) := by omega
                have hil : i < L.length := by have := HN.out; omega
                obtain ⟨s, hs⟩ : ∃ s, L[i]? = some s := ⟨_, List.getElem?_eq_getElem hil⟩
                obtain ⟨g, o, rfl, c1⟩ := (HV.out.grown HG.out).at_ i s hs
                have htk : (L.take (i + 1)).all nodeOk = nodeOk s := by
                  rw [List.take_add_one, hs, List.all_append, HK.out]
                  simp
                have hno : nodeOk s = false → z = 4 := fun h => by
                  rw [HZ.out, if_neg]
                  intro q
                  have := List.all_eq_true.1 q s (List.mem_of_getElem? hs)
                  rw [h] at this
                  cases this
                have HIS := Lib.hid (fun w' => isNode_any s (by have := HS.out s (List.mem_of_getElem? hs); unfold maxLen; omega) w')
                have HT := Lib.hid (And.intro htk hno)
                clear hs htk hno
                go_wp2_with fail
                refine (HIS.out _).mono ?_
                rintro e w2 ⟨rfl, g2⟩
                have G2 := Lib.hid (grownBy_trans HG.out g2)
                clear g2 HG c1 HIS
                obtain ⟨b, hb⟩ : ∃ b, nodeOk s = b := ⟨_, rfl⟩
                have HB := Lib.hid hb
                rw [hb]
                cases b with
                | true =>
                  clear hb
                  go_wp2_with fail
                  go_roundw
                  case rel => exact ⟨i + 1, by omega, by go_num, Lib.hid (HT.out.1.trans HB.out), G2.out⟩
                  case measure => simp [intOf]; omega
                | false =>
                  have h4 := HT.out.2 hb
                  subst h4
                  clear hb
                  go_wp2_with fail
                  go_ret
                  exact ⟨rfl, G2.out⟩
              · have d1 : ¬ (i : Int) < (n : Int) := by omega
                have hin : L.take i = L := List.take_of_length_le (by have := HN.out; omega)
                have hz0 : z = 0 := by
                  have := HK.out
                  rw [hin] at this
                  rw [HZ.out, if_pos this]
                subst hz0
                clear hin
                go_wp2_with fail
                go_ret
                exact ⟨rfl, HG.out⟩
          · have q7 : ((n : Int) != (N : Int)) = true := by simp; omega
            have q7' : ((n : Int) == (N : Int)) = false := by rw [beq_eq_false_iff_ne]; omega
            rw [if_pos h7] at hz2
            subst hz2
            clear h4 h7
            go_enter Tryd.func74, Tryd.ntmps74
            go_wp2_with (rw [HW.out.1, HW.out.2])
            refine (HDM.out _).mono ?_
            rintro e w1 ⟨rfl, rfl⟩
            go_wp2_with (rw [HW.out.1, HW.out.2])
            go_region_held3 (fun w' => w'.cell? ⟨XB, 2, none⟩ = some (.int .i64 k) ∧ w'.cell? ⟨XB, 4, none⟩ = some (.slice a n cap)) (first | exact ⟨x2, x4⟩)
              (first
              | (go_at_call 111; (with_reducible refine (HC.out _).mono ?_); rintro e w3 ⟨rfl, rfl⟩))
            go_wp2_with (rw [HW.out.1, HW.out.2])
            go_ret
            exact ⟨rfl, by first | exact HG0.out | exact grownBy_drew HG0.out⟩
      · have hzz : z = 10 := by rw [← hz]; unfold HdrS.err; rw [if_pos (by unfold HdrS.wide; simp only; omega)]
        subst hzz
        rw [decide_eq_false h3] at HDM
        clear hz h1 h2 h3
        go_enter Tryd.func74, Tryd.ntmps74
        go_wp2_with (rw [HW.out.1, HW.out.2])
        refine (HDM.out _).mono ?_
        rintro e w1 ⟨rfl, rfl⟩
        go_wp2_with (rw [HW.out.1, HW.out.2])
        go_ret
        exact ⟨rfl, by first | exact HG0.out | exact grownBy_drew HG0.out⟩
    · have hzz : z = 10 := by rw [← hz]; unfold HdrS.err; rw [if_pos (show (⟨e, p, d, au, L⟩ : HdrS).wide from Or.inr (Or.inl h2))]
      subst hzz
      have q3 : ((p.size : Int) != 16) = true := by simp; omega
      have q3' : ((p.size : Int) == 16) = false := by rw [beq_eq_false_iff_ne]; omega
      clear hz h1 h2
      go_enter Tryd.func74, Tryd.ntmps74
      go_wp2_with (rw [HW.out.1, HW.out.2])
      go_ret
      exact ⟨rfl, by first | exact HG0.out | exact grownBy_drew HG0.out⟩
end Go.Proofs.YtioahjdojgcfdaaDoor

namespace Go.Proofs.YtioahjdojgcfdaaDoor
attribute [local irreducible] shaL

def emptyS : ByteArray := ⟨#[0]⟩
def leafS (k v : ByteArray) : ByteArray := ⟨#[1]⟩ ++ tagS 9 [k, v]
def bothS (a b : ByteArray) : ByteArray := ⟨#[2]⟩ ++ tagS 10 [a, b]
/-- the first byte of a text, or 0 -/
def headB (s : ByteArray) : UInt8 := (s.data.toList[0]?).getD 0
def leafB (s : ByteArray) : Bool := decide (s.size = 17) && (headB s == 1)
def joinN (a b : ByteArray) : ByteArray := if a = emptyS ∧ (b = emptyS ∨ leafB b = true) then b else if b = emptyS ∧ leafB a = true then a else bothS a b
abbrev PairS := ByteArray × ByteArray
/-- those whose bit there is b -/
def side (b d : Nat) (l : List PairS) : List PairS := l.filter fun x => bitS x.1 d == b
def nodeN : Nat → List PairS → Nat → ByteArray
  | _, [], _ => emptyS
  | _, [x], _ => leafS x.1 x.2
  | 0, _ :: _ :: _, _ => emptyS
  | f + 1, x :: y :: r, d => joinN (nodeN f (side 0 d (x :: y :: r)) (d + 1)) (nodeN f (side 1 d (x :: y :: r)) (d + 1))
theorem nodeN_nil (f d : Nat) : nodeN f [] d = emptyS := by cases f <;> rfl
theorem nodeN_one (f d : Nat) (x : PairS) : nodeN f [x] d = leafS x.1 x.2 := by cases f <;> rfl
theorem nodeN_more (f d : Nat) (l : List PairS) (h : 2 ≤ l.length) : nodeN (f + 1) l d = joinN (nodeN f (side 0 d l) (d + 1)) (nodeN f (side 1 d l) (d + 1)) := by
  match l, h with
  | x :: y :: r, _ => rfl
theorem nodeN_perm : ∀ (f : Nat) (l m : List PairS) (d : Nat), l.Perm m → nodeN f l d = nodeN f m d := by
  intro f
  induction f with
  | zero =>
    intro l m d h
    have hl := h.length_eq
    match l, m, h, hl with
    | [], [], _, _ => rfl
    | [x], [y], h, _ => rw [List.perm_singleton.1 h.symm]
    | x :: y :: r, x' :: y' :: r', _, _ => rfl
  | succ f ih =>
    intro l m d h
    have hl := h.length_eq
    by_cases h2 : 2 ≤ l.length
    · rw [nodeN_more f d l h2, nodeN_more f d m (by omega), ih (side 0 d l) (side 0 d m) _ (h.filter _), ih (side 1 d l) (side 1 d m) _ (h.filter _)]
    · match l, m, h, hl, h2 with
      | [], [], _, _, _ => rfl
      | [x], [y], h, _, _ => rw [List.perm_singleton.1 h.symm]
      | x :: y :: r, _, _, _, h2 => simp at h2
theorem tag16 (t : UInt8) (L : List ByteArray) : (tagS t L).size = 16 := tagS_size _ _
theorem leafS_size (k v : ByteArray) : (leafS k v).size = 17 := by unfold leafS; rw [ByteArray.size_append, tag16]; rfl
theorem bothS_size (a b : ByteArray) : (bothS a b).size = 17 := by unfold bothS; rw [ByteArray.size_append, tag16]; rfl
theorem head_app (c : UInt8) (t : ByteArray) : headB (⟨#[c]⟩ ++ t) = c := by
  unfold headB
  rw [ByteArray.data_append, Array.toList_append]
  rfl
theorem leafS_leaf (k v : ByteArray) : leafB (leafS k v) = true := by
  unfold leafB
  rw [leafS_size, leafS, head_app]
  decide
theorem bothS_leaf (a b : ByteArray) : leafB (bothS a b) = false := by
  unfold leafB
  rw [bothS_size, bothS, head_app]
  decide
theorem emptyS_leaf : leafB emptyS = false := by decide
theorem size_ne {a b : ByteArray} (h : a.size ≠ b.size) : a ≠ b := fun e => h (by rw [e])
theorem leafS_ne (k v : ByteArray) : leafS k v ≠ emptyS := size_ne (by rw [leafS_size]; decide)
theorem bothS_ne (a b : ByteArray) : bothS a b ≠ emptyS := size_ne (by rw [bothS_size]; decide)
/-- a node: empty, a leaf's, or another one -/
inductive NodeS : ByteArray → Prop
  | none : NodeS emptyS
  | leaf (k v : ByteArray) : NodeS (leafS k v)
  | both (a b : ByteArray) : NodeS (bothS a b)
theorem joinN_node {a b : ByteArray} (ha : NodeS a) (hb : NodeS b) : NodeS (joinN a b) := by
  unfold joinN
  split
  · exact hb
  · split
    · exact ha
    · exact .both a b
theorem nodeN_node : ∀ (f : Nat) (l : List PairS) (d : Nat), NodeS (nodeN f l d)
  | 0, [], _ => .none
  | 0, [x], _ => .leaf _ _
  | 0, _ :: _ :: _, _ => .none
  | f + 1, [], _ => .none
  | f + 1, [x], _ => .leaf _ _
  | f + 1, x :: y :: r, d => joinN_node (nodeN_node f _ _) (nodeN_node f _ _)
theorem NodeS.size {a : ByteArray} (h : NodeS a) : a.size ≤ 17 := by
  cases h
  · decide
  · rw [leafS_size]; exact Nat.le_refl _
  · rw [bothS_size]; exact Nat.le_refl _

/-- keys of 16 bytes, no two the same, that begin alike by d bits -/
structure Alike (d : Nat) (l : List PairS) : Prop where
  len : ∀ x ∈ l, x.1.size = 16
  one : l.Pairwise (fun x y => x.1 ≠ y.1)
  bits : ∀ x ∈ l, ∀ y ∈ l, ∀ i, i < d → bitS x.1 i = bitS y.1 i
theorem bits_key {a b : ByteArray} (ha : a.size = 16) (hb : b.size = 16) (h : ∀ i, i < 128 → bitS a i = bitS b i) : a = b := by
  have := bits_all a.data.toList b.data.toList 16 (by rw [Array.length_toList]; exact ha) (by rw [Array.length_toList]; exact hb) (fun i hi => h i (by omega))
  exact ByteArray.ext (Array.toList_inj.1 this)
theorem Alike.few {d : Nat} {l : List PairS} (h : Alike d l) (hd : 128 ≤ d) : l.length ≤ 1 := by
  match l, h with
  | [], _ => simp
  | [x], _ => simp
  | x :: y :: r, h =>
    exfalso
    have h1 := (List.pairwise_cons.1 h.one).1 y (by simp)
    exact h1 (bits_key (h.len x (by simp)) (h.len y (by simp)) (fun i hi => h.bits x (by simp) y (by simp) i (by omega)))
theorem Alike.sub {d : Nat} {l m : List PairS} (h : Alike d l) (hs : m.Sublist l) : Alike d m :=
  ⟨fun x hx => h.len x (hs.subset hx), h.one.sublist hs, fun x hx y hy => h.bits x (hs.subset hx) y (hs.subset hy)⟩
theorem Alike.side {d b : Nat} {l : List PairS} (h : Alike d l) : Alike (d + 1) (side b d l) := by
  have h1 := h.sub (List.filter_sublist (p := fun x => bitS x.1 d == b))
  refine ⟨h1.len, h1.one, fun x hx y hy i hi => ?_⟩
  by_cases hid : i < d
  · exact h1.bits x hx y hy i hid
  · obtain rfl : i = d := by omega
    have e1 := (List.mem_filter.1 hx).2
    have e2 := (List.mem_filter.1 hy).2
    simp at e1 e2
    rw [e1, e2]
theorem Alike.perm {d : Nat} {l m : List PairS} (h : Alike d l) (hp : l.Perm m) : Alike d m :=
  ⟨fun x hx => h.len x (hp.mem_iff.2 hx), (hp.pairwise_iff (fun {_ _} q => Ne.symm q)).1 h.one, fun x hx y hy => h.bits x (hp.mem_iff.2 hx) y (hp.mem_iff.2 hy)⟩
/-- the document's joining, by how many keys are on each side -/
theorem side_all (b d : Nat) (l : List PairS) : side b d (side b d l) = side b d l := by unfold side; rw [List.filter_filter]; congr 1; funext x; simp
theorem side_len (d : Nat) (l : List PairS) : (side 0 d l).length + (side 1 d l).length = l.length := by
  induction l with
  | nil => rfl
  | cons x r ih =>
    have hb := bitS_le x.1 d
    unfold side at ih ⊢
    by_cases h : bitS x.1 d = 0
    · simp [List.filter_cons, h]; omega
    · have h1 : bitS x.1 d = 1 := by omega
      simp [List.filter_cons, h1]; omega
end Go.Proofs.YtioahjdojgcfdaaDoor

namespace Go.Proofs.YtioahjdojgcfdaaDoor
open Go.RowKit Go.Maps

abbrev DatU := DataW Unit
def litK (k : ByteArray) : Lit := .string k.data.toList
/-- a map as read holds these pairs -/
structure IsM (D : DatU) (M : List PairS) : Prop where
  has : ∀ k : ByteArray, Maps.has D (litK k) = M.any (fun p => decide (p.1 = k))
  look : ∀ p ∈ M, ∀ zd, D.atKey (litK p.1) zd = .lit (.string p.2.data.toList)
  size : Maps.size D = M.length
  one : M.Pairwise (fun p q => p.1 ≠ q.1)
/-- pairs with one more, or another value -/
def setM (M : List PairS) (x : PairS) : List PairS := M.filter (fun p => !(decide (p.1 = x.1))) ++ [x]
theorem litK_inj {a b : ByteArray} (h : litK a = litK b) : a = b := by
  unfold litK at h
  injection h with h
  exact ByteArray.ext (Array.toList_inj.1 h)
theorem litK_ne {a b : ByteArray} (h : a ≠ b) : litK a ≠ litK b := fun e => h (litK_inj e)
theorem litK_key (k : ByteArray) : WideAt.IsKeyLit (litK k) := trivial
theorem isM_nil : IsM (.map []) [] := ⟨fun _ => rfl, fun p hp => by simp at hp, rfl, List.Pairwise.nil⟩
theorem one_split : ∀ (M : List PairS) (k : ByteArray), M.Pairwise (fun p q => p.1 ≠ q.1) → (M.filter (fun p => !(decide (p.1 = k)))).length + (if M.any (fun p => decide (p.1 = k)) then 1 else 0) = M.length
  | [], _, _ => rfl
  | x :: r, k, h => by
    obtain ⟨h1, h2⟩ := List.pairwise_cons.1 h
    have ih := one_split r k h2
    by_cases e : x.1 = k
    · have hn : r.any (fun p => decide (p.1 = k)) = false := by
        rw [List.any_eq_false]
        intro p hp q
        have : p.1 = k := by simpa using q
        exact h1 p hp (e.trans this.symm)
      rw [hn] at ih
      have e1 : (decide (x.1 = k)) = true := by simpa using e
      simp only [List.filter_cons, e1, List.any_cons, Bool.true_or, Bool.not_true, if_true, List.length_cons] at ih ⊢
      simp at ih ⊢
      omega
    · have e1 : (decide (x.1 = k)) = false := by simpa using e
      simp only [List.filter_cons, e1, List.any_cons, Bool.false_or, Bool.not_false, if_true, List.length_cons]
      omega
theorem setM_one {M : List PairS} (h : M.Pairwise (fun p q => p.1 ≠ q.1)) (x : PairS) : (setM M x).Pairwise (fun p q => p.1 ≠ q.1) := by
  unfold setM
  rw [List.pairwise_append]
  refine ⟨h.filter _, List.pairwise_singleton _ _, fun p hp q hq => ?_⟩
  rw [List.mem_singleton.1 hq]
  have := (List.mem_filter.1 hp).2
  simpa using this
theorem setM_any (M : List PairS) (x : PairS) (k : ByteArray) : (setM M x).any (fun p => decide (p.1 = k)) = (M.any (fun p => decide (p.1 = k)) || (decide (x.1 = k))) := by
  unfold setM
  rw [List.any_append, List.any_filter]
  by_cases e : x.1 = k
  · have e1 : (decide (x.1 = k)) = true := by simpa using e
    simp [e1]
  · have e1 : (decide (x.1 = k)) = false := by simpa using e
    simp only [List.any_cons, List.any_nil, e1, Bool.or_false]
    congr 1
    funext p
    by_cases e2 : p.1 = k
    · have e3 : (decide (p.1 = x.1)) = false := by simp; exact fun q => e (q.symm.trans e2)
      rw [e3]; simp
    · have e3 : (decide (p.1 = k)) = false := by simpa using e2
      rw [e3]; simp
theorem IsM.put {D : DatU} {M : List PairS} (h : IsM D M) (ht : Tidy D) (x : PairS) : IsM (D.put (litK x.1) (.lit (.string x.2.data.toList))) (setM M x) := by
  have hm := ht.isMap
  refine ⟨fun k => ?_, fun p hp zd => ?_, ?_, setM_one h.one x⟩
  · rw [setM_any]
    by_cases e : k = x.1
    · subst e
      rw [has_put_same hm (litK_key _)]
      simp
    · rw [has_put_other (litK_ne e), h.has]
      have e1 : (decide (x.1 = k)) = false := by simp; exact fun q => e q.symm
      rw [e1, Bool.or_false]
  · rcases List.mem_append.1 hp with hp | hp
    · have h1 := List.mem_filter.1 hp
      have h2 : p.1 ≠ x.1 := by have := h1.2; simpa using this
      rw [atKey_put_other (litK_ne h2)]
      exact h.look p h1.1 zd
    · rw [List.mem_singleton.1 hp]
      exact atKey_put_same hm (litK_key _) _ _
  · have h1 := one_split M x.1 h.one
    have h2 := size_put ht (k := litK x.1) (.lit (.string x.2.data.toList))
    rw [h.has, h.size] at h2
    rw [h2]
    unfold setM
    rw [List.length_append, List.length_singleton]
    cases hh : M.any (fun p => decide (p.1 = x.1)) with
    | true => rw [hh, if_pos rfl] at h1; rw [if_pos rfl]; omega
    | false => rw [hh, if_neg (by decide)] at h1; rw [if_neg (by decide)]; omega
theorem ownsMap_exact {P : Program} {k : TypeId} {R : Value → Option (DatU × List MemPlace)} {w : World} {b n : Nat} {D : DatU} (h : w.ownsMap P k R b n D) : w.ownsMap P k R b (Maps.size D) D := by
  obtain ⟨es, clock, hb, F, hs, rfl⟩ := h
  exact ⟨es, clock, hb, F, by simp [Maps.size, length_sorted], rfl⟩
theorem plainElem_string_inv {P : Program} {e : TypeId} (he : P.underlying e = some .string) {v : Value} {z : DatU × List MemPlace} (h : plainElem P e v = some z) : ∃ s : ByteArray, v = .string s ∧ z = (.lit (.string s.data.toList), []) ∧ s.size ≤ maxLen := by
  unfold plainElem at h
  rw [he] at h
  cases v <;> simp at h
  obtain ⟨h1, rfl⟩ := h
  exact ⟨_, rfl, rfl, h1⟩
noncomputable def strR : Value → Option (DatU × List MemPlace) := plainElem Tryd.prog 9
theorem strK : Keyed Tryd.prog 9 := string_keyed Tryd.underlying9
theorem strR_mk (s : ByteArray) (h : s.size ≤ maxLen) : strR (.string s) = some (.lit (.string s.data.toList), []) := plainElem_string Tryd.underlying9 h
theorem strR_inv {v : Value} {z : DatU × List MemPlace} (h : strR v = some z) : ∃ s : ByteArray, v = .string s ∧ z = (.lit (.string s.data.toList), []) ∧ s.size ≤ maxLen := plainElem_string_inv Tryd.underlying9 h
theorem keyV (k : ByteArray) (h : k.size ≤ maxLen) : keyOf Tryd.prog 9 (.string k) = some (litK k) := WideMaps.keyOf_string_mk Tryd.underlying9 h
/-- block b is a tree of the pairs M; its blocks lie from n0 on, none of them is one of X -/
structure TreeAt (n0 : Nat) (X : List Nat) (w : World) (b : Nat) (M : List PairS) (mv : Value) : Prop where
  blk : w.heap[b]? = some (.cells #[mv] 131 (0, 0))
  own : n0 ≤ b ∧ b ∉ X
  map : (mv = .map none ∧ M = []) ∨ ∃ mb D, mv = .map (some mb) ∧ n0 ≤ mb ∧ mb ∉ X ∧ w.ownsMap Tryd.prog 9 strR mb M.length D ∧ IsM D M
def TreeK (n0 : Nat) (X : List Nat) (w : World) (b : Nat) (M : List PairS) : Prop := ∃ mv, TreeAt n0 X w b M mv
theorem TreeAt.lt {n0 : Nat} {X : List Nat} {w : World} {b : Nat} {M : List PairS} {mv : Value} (h : TreeAt n0 X w b M mv) : b < w.heap.size := (Array.getElem?_eq_some_iff.1 h.blk).1
theorem TreeAt.one {n0 : Nat} {X : List Nat} {w : World} {b : Nat} {M : List PairS} {mv : Value} (h : TreeAt n0 X w b M mv) : M.Pairwise (fun p q => p.1 ≠ q.1) := by
  rcases h.map with ⟨_, rfl⟩ | ⟨_, _, _, _, _, _, hm⟩
  · exact List.Pairwise.nil
  · exact hm.one
/-- blocks of the caller's own turn, and new ones join them -/
theorem TreeK.turn {n0 : Nat} {X Y : List Nat} {S : Nat → Prop} {w w' : World} {b : Nat} {M : List PairS} (h : TreeK n0 X w b M) (k : Turn S w w') (hS : ∀ i, i < w.heap.size → S i → i ∈ X) (hY : ∀ i ∈ Y, i ∈ X ∨ w.heap.size ≤ i) : TreeK n0 Y w' b M := by
  obtain ⟨mv, hb, ho, hm⟩ := h
  have hbl : b < w.heap.size := (Array.getElem?_eq_some_iff.1 hb).1
  refine ⟨mv, k.heap hb (fun q => ho.2 (hS b hbl q)), ⟨ho.1, fun q => ?_⟩, ?_⟩
  · rcases hY b q with q | q
    · exact ho.2 q
    · omega
  · rcases hm with hm | ⟨mb, D, rfl, h1, h2, h3, h4⟩
    · exact .inl hm
    · have hml := h3.lt
      refine .inr ⟨mb, D, rfl, h1, fun q => ?_, ?_, h4⟩
      · rcases hY mb q with q | q
        · exact h2 q
        · omega
      · obtain ⟨es, clock, hb3, r⟩ := h3
        exact ⟨es, clock, k.heap hb3 (fun q => h2 (hS mb hml q)), r⟩
theorem TreeK.grown {n0 : Nat} {X : List Nat} {w w' : World} {b : Nat} {M : List PairS} (h : TreeK n0 X w b M) (k : w.grownBy w' none) : TreeK n0 X w' b M :=
  h.turn (S := fun _ => False) (Turn.of_grown k) (fun _ _ q => q.elim) (fun _ hi => .inl hi)
theorem TreeK.more {n0 : Nat} {X Y : List Nat} {w w' : World} {b : Nat} {M : List PairS} (h : TreeK n0 X w b M) (k : w.grownBy w' none) (hY : ∀ i ∈ Y, i ∈ X ∨ w.heap.size ≤ i) : TreeK n0 Y w' b M :=
  h.turn (S := fun _ => False) (Turn.of_grown k) (fun _ _ q => q.elim) hY
theorem TreeK.lt {n0 : Nat} {X : List Nat} {w : World} {b : Nat} {M : List PairS} (h : TreeK n0 X w b M) : b < w.heap.size := by obtain ⟨_, h⟩ := h; exact h.lt
theorem TreeK.one {n0 : Nat} {X : List Nat} {w : World} {b : Nat} {M : List PairS} (h : TreeK n0 X w b M) : M.Pairwise (fun p q => p.1 ≠ q.1) := by obtain ⟨_, h⟩ := h; exact h.one
/-- the value of a key, or the empty text -/
def valM (M : List PairS) (k : ByteArray) : ByteArray := ((M.find? (fun p => decide (p.1 = k))).map Prod.snd).getD ⟨#[]⟩
def hasM (M : List PairS) (k : ByteArray) : Bool := M.any (fun p => decide (p.1 = k))
theorem valM_mem : ∀ {M : List PairS}, M.Pairwise (fun p q => p.1 ≠ q.1) → ∀ x ∈ M, valM M x.1 = x.2
  | [], _, x, hx => by simp at hx
  | y :: r, h, x, hx => by
    obtain ⟨h1, h2⟩ := List.pairwise_cons.1 h
    unfold valM
    rcases List.mem_cons.1 hx with rfl | hx'
    · simp
    · have hne : (decide (y.1 = x.1)) = false := by simpa using h1 x hx'
      rw [List.find?_cons, hne]
      exact valM_mem h2 x hx'
theorem valM_none {M : List PairS} {k : ByteArray} (h : hasM M k = false) : valM M k = ⟨#[]⟩ := by
  unfold valM
  unfold hasM at h
  rw [List.find?_eq_none.2]
  · rfl
  · intro x hx
    have := List.any_eq_false.1 h x hx
    simpa using this
theorem IsM.val {D : DatU} {M : List PairS} (h : IsM D M) (k : ByteArray) : D.atKey (litK k) (.lit (.string [])) = .lit (.string (valM M k).data.toList) := by
  cases hh : hasM M k with
  | true =>
    obtain ⟨p, hp, hk⟩ := List.any_eq_true.1 hh
    obtain rfl : p.1 = k := by simpa using hk
    rw [h.look p hp, valM_mem h.one p hp]
  | false =>
    rw [valM_none hh, atKey_of_not_has (by rw [h.has]; exact hh)]
end Go.Proofs.YtioahjdojgcfdaaDoor

namespace Go.Proofs.YtioahjdojgcfdaaDoor
open Go.RowKit Go.Maps
attribute [local irreducible] shaL

theorem zeroStr (w : World) : (zeroValue 9).run Tryd.prog w = .ok (.string ⟨#[]⟩) w := by kernel_rfl
theorem map_ne (mb : Nat) (w : World) : (binOp .eql 129 (.map (some mb)) (.map none)).run Tryd.prog w = .ok (.bool false) w := by kernel_rfl
theorem map_eq (w : World) : (binOp .eql 129 (.map none) (.map none)).run Tryd.prog w = .ok (.bool true) w := by kernel_rfl
theorem tnew_any (n0 : Nat) (X : List Nat) (w : World) (hX : ∀ x ∈ X, x < w.heap.size) (hn0 : n0 ≤ w.heap.size) : Calls Tryd.prog 35 #[] w fun e w' => e = .returned (.pointer (some ⟨w.heap.size, 0, none⟩)) ∧ TreeK n0 X w' w.heap.size [] ∧ w.grownBy w' none := by
  have HX := Lib.hid (And.intro hX hn0)
  clear hX hn0
  go_enter Tryd.func35, Tryd.ntmps35
  go_wp2_with fail
  go_ret
  refine ⟨rfl, ⟨_, heap_alloc_at _ _ _ rfl, ⟨HX.out.2, fun q => ?_⟩, .inl ⟨rfl, rfl⟩⟩, World.grownBy_alloc _ _ _⟩
  have := HX.out.1 _ q
  omega
set_option maxRecDepth 100000 in
theorem tput_any (n0 : Nat) (X : List Nat) (w : World) (b : Nat) (M : List PairS) (k v : ByteArray) (hT : TreeK n0 X w b M) (hX : ∀ x ∈ X, x < w.heap.size) (hn0 : n0 ≤ w.heap.size) (hk : k.size = 16) (hv : v.size ≤ 1000000) (hM : M.length < 1000000) :
    Calls Tryd.prog 81 #[.pointer (some ⟨b, 0, none⟩), .string k, .string v] w fun e w' => e = .returned (.int .i64 0) ∧ TreeK n0 X w' b (setM M (k, v)) ∧ Turn (rest n0 X) w w' := by
  obtain ⟨mv, hb, ho, hm⟩ := hT
  have hk16 : (k.size : Int) = 16 := by omega
  have hkey := keyV k (by unfold maxLen; omega)
  have hval := strR_mk v (by unfold maxLen; omega)
  have c0 := cell_of hb 0
  have f0 := free_of hb 0
  simp at c0
  have hlb : b < w.heap.size := (Array.getElem?_eq_some_iff.1 hb).1
  rcases hm with ⟨rfl, rfl⟩ | ⟨mb, D, rfl, h1, h2, h3, h4⟩
  · have HB := Lib.hid (And.intro hb (And.intro ho (And.intro hX (And.intro hn0 hlb))))
    have hmm := @run_makeMap Tryd.prog
    have he := map_eq
    have hown : ((w.alloc (.map #[] 0)).setCell ⟨b, 0, none⟩ (.map (some w.heap.size))).ownsMap Tryd.prog 9 strR w.heap.size 0 (.map []) := (World.ownsMap_made w Tryd.prog 9 strR).setCell (by show w.heap.size ≠ b; omega) _
    have HK := Lib.hid (And.intro hown (And.intro hkey hval))
    have hblk : ((w.alloc (.map #[] 0)).setCell ⟨b, 0, none⟩ (.map (some w.heap.size))).heap[b]? = some (.cells #[.map (some w.heap.size)] 131 (0, 0)) := heap_setCell (Below.heap_alloc _ _ _ hlb |>.trans hb) 0 _
    have HBK := Lib.hid hblk
    have d0 : ((w.alloc (.map #[] 0)).setCell ⟨b, 0, none⟩ (.map (some w.heap.size))).cell? ⟨b, 0, none⟩ = some (.map (some w.heap.size)) := cell_of hblk 0
    have c0a : (w.alloc (.map #[] 0)).cell? ⟨b, 0, none⟩ = some (.map none) := (World.cell?_alloc_lt _ _ _ hlb).trans c0
    have f0a : (w.alloc (.map #[] 0)).frozen? ⟨b, 0, none⟩ = false := free_of (Below.heap_alloc _ _ _ hlb |>.trans hb) 0
    have t1 : Turn (fun i => i = b) w ((w.alloc (.map #[] 0)).setCell ⟨b, 0, none⟩ (.map (some w.heap.size))) := ((Turn.refl (fun i => i = b) w).alloc _).setCell (fun _ => rfl) _ _
    have HT1 := Lib.hid t1
    clear hb ho hX hn0 hown hkey hval hblk t1 hk hv hM
    have hlb2 := Lib.hid hlb
    clear hlb
    go_enter Tryd.func81, Tryd.ntmps81
    go_wp2_with (at_mapUpdate; refine wpList_mapUpdate_own _ rfl _ _ _ 129 rfl 9 9 strK Tryd.underlying129 strR w.heap.size 0 (.map []) rfl HK.out.1 (by unfold maxLen; omega) _ _ _ rfl rfl HK.out.2.1 _ [] HK.out.2.2 ?_; intro w2 hown2 hg2)
    have HO2 := Lib.hid hown2
    have HG2 := Lib.hid hg2
    clear hown2 hg2
    go_wp2_with fail
    go_ret
    generalize hSZ : w.heap.size = SZ at HO2 HG2 HBK HT1 hlb2
    generalize (w.alloc (.map #[] 0)).setCell ⟨b, 0, none⟩ (.map (some SZ)) = w1 at HG2 HBK HT1
    have hlt2 : b < w.heap.size := HB.out.2.2.2.2
    refine ⟨rfl, ⟨.map (some SZ), (HG2.out.block b (by have := HT1.out.size; omega) (by simp; omega)).trans HBK.out, HB.out.2.1, .inr ⟨SZ, _, rfl, by have := HB.out.2.2.2.1; omega, fun q => by have := HB.out.2.2.1 _ q; omega, HO2.out, isM_nil.put tidy_empty (k, v)⟩⟩, ?_⟩
    have t2 : Turn (fun i => i = b ∨ i = SZ) w w2 := (HT1.out.mono (fun i _ q => .inl q)).row HG2.out (fun i _ e => .inr (by injection e with e; exact e.symm))
    refine t2.mono (fun i hi q => ?_)
    rcases q with rfl | q
    · exact HB.out.2.1
    · omega
  · have HB := Lib.hid (And.intro hb (And.intro ho (And.intro hX (And.intro hn0 hlb))))
    have he := map_ne mb
    have HK := Lib.hid (And.intro h3 (And.intro hkey hval))
    have HI := Lib.hid (And.intro h1 (And.intro h2 h4))
    have hMl : M.length < maxLen := by unfold maxLen; omega
    clear hb ho hX hn0 hlb h1 h2 h3 h4 hkey hval hk hv hM
    go_enter Tryd.func81, Tryd.ntmps81
    go_wp2_with (at_mapUpdate; refine wpList_mapUpdate_own _ rfl _ _ _ 129 rfl 9 9 strK Tryd.underlying129 strR mb M.length D rfl HK.out.1 hMl _ _ _ rfl rfl HK.out.2.1 _ [] HK.out.2.2 ?_; intro w2 hown2 hg2)
    have HO2 := Lib.hid hown2
    have HG2 := Lib.hid hg2
    clear hown2 hg2
    go_wp2_with fail
    go_ret
    have hmb : mb ≠ b := by
      intro e
      obtain ⟨es, cl, h5, _⟩ := HK.out.1
      rw [e, HB.out.1] at h5
      cases h5
    have hi := HI.out.2.2.put (HK.out.1.tidy strK) (k, v)
    refine ⟨rfl, ⟨.map (some mb), (HG2.out.block b HB.out.2.2.2.2 (by simp; exact fun q => hmb q.symm)).trans HB.out.1, HB.out.2.1, .inr ⟨mb, _, rfl, HI.out.1, HI.out.2.1, ?_, hi⟩⟩, (Turn.refl _ w).row HG2.out (fun i _ e => ?_)⟩
    · have h6 := ownsMap_exact HO2.out
      rw [hi.size] at h6
      exact h6
    · injection e with e
      subst e
      exact ⟨HI.out.1, HI.out.2.1⟩
theorem tget_nil (k : ByteArray) (w : World) : Calls Tryd.prog 40 #[.pointer none, .string k] w fun e w' => e = .returned (.tuple #[.string ⟨#[]⟩, .bool false]) ∧ w = w' := by
  go_enter Tryd.func40, Tryd.ntmps40
  go_wp2_with fail
  go_returns
  exact ⟨rfl, rfl⟩
set_option maxRecDepth 100000 in
theorem tget_any (n0 : Nat) (X : List Nat) (w : World) (b : Nat) (M : List PairS) (k : ByteArray) (hT : TreeK n0 X w b M) (hk : k.size ≤ maxLen) :
    Calls Tryd.prog 40 #[.pointer (some ⟨b, 0, none⟩), .string k] w fun e w' => e = .returned (.tuple #[.string (valM M k), .bool (hasM M k)]) ∧ w = w' := by
  obtain ⟨mv, hb, ho, hm⟩ := hT
  have hkey := keyV k hk
  have c0 := cell_of hb 0
  simp at c0
  rcases hm with ⟨rfl, rfl⟩ | ⟨mb, D, rfl, h1, h2, h3, h4⟩
  · have hrun := look_nil (w := w) true strK Tryd.underlying129 (zeroStr w) hkey
    have e1 : valM [] k = ⟨#[]⟩ := rfl
    have e2 : hasM [] k = false := rfl
    rw [e1, e2]
    clear hb ho hkey hk e1 e2
    go_enter Tryd.func40, Tryd.ntmps40
    go_wp2_with fail
    go_returns
    exact ⟨rfl, rfl⟩
  · have hv := h4.val k
    have hh := h4.has k
    have HK := Lib.hid (And.intro h3 hkey)
    have hh2 : hasM M k = Maps.has D (litK k) := hh.symm
    rw [hh2]
    have HV := Lib.hid hv
    have HZ := Lib.hid (zeroStr w)
    clear hb ho hkey hk h1 h2 h3 h4 hv hh hh2
    go_enter Tryd.func40, Tryd.ntmps40
    go_wp2_with (at_lookup; refine wpList_lookup_own_ok _ rfl _ _ 129 rfl 9 9 strK Tryd.underlying129 strR HZ.out (.lit (.string [])) [] (strR_mk ⟨#[]⟩ (by unfold maxLen; decide)) mb M.length D rfl HK.out.1 _ _ rfl HK.out.2 ?_; intro v ps hvr)
    obtain ⟨s, rfl, hz, _⟩ := strR_inv hvr
    rw [HV.out] at hz
    have hs : valM M k = s := by
      have h5 := (Prod.mk.inj hz).1
      injection h5 with h5
      injection h5 with h5
      exact ByteArray.ext (Array.toList_inj.1 h5)
    have HS := Lib.hid hs
    clear hvr hz hs
    go_wp2_with fail
    go_returns
    exact ⟨by rw [HS.out]; rfl, rfl⟩
end Go.Proofs.YtioahjdojgcfdaaDoor

namespace Go.Proofs.YtioahjdojgcfdaaDoor
open Go.RowKit Go.Maps
attribute [local irreducible] shaL

set_option maxRecDepth 100000 in
theorem tleaf_any (k v : ByteArray) (hk : k.size ≤ 1000000000) (hv : v.size ≤ 1000000000) (w : World) (hr : ShaReady w) :
    Calls Tryd.prog 71 #[.string k, .string v] w fun e w' => e = .returned (.string (leafS k v)) ∧ w.grownBy w' none := by
  have ht := Lib.hid (tagged_new w 9 [k, v] _ 2 9 rfl rfl rfl hr (by simp) (by
    intro s hs'
    simp at hs'
    rcases hs' with rfl | rfl <;> omega))
  have h16 := tag16 9 [k, v]
  have hL : leafS k v = ⟨#[1]⟩ ++ tagS 9 [k, v] := rfl
  rw [hL]
  generalize tagS 9 [k, v] = T at ht h16
  have q1 : (9223372036854775807 < (⟨#[1]⟩ : ByteArray).size + T.size) = False := eq_false (by rw [h16]; decide)
  have q2 : (9223372036854775807 < 1 + T.size) = False := eq_false (by rw [h16]; decide)
  clear hr hL h16
  go_enter Tryd.func71, Tryd.ntmps71
  go_wp2_with fail
  refine ht.out.mono ?_
  rintro e w1 ⟨rfl, g1⟩
  have G1 := Lib.hid g1
  clear g1
  go_wp2_with fail
  go_ret
  exact ⟨rfl, G1.out⟩
theorem head_one (s : ByteArray) (h : 1 ≤ s.size) : ((s.extract 0 1).toList == [1]) = (headB s == 1) := by
  obtain ⟨⟨l⟩⟩ := s
  rw [ByteArray.toList_eq]
  match l, h with
  | [], h => exact absurd h (by decide)
  | x :: r, _ =>
    have e : (ByteArray.extract ⟨⟨x :: r⟩⟩ 0 1).data.toList = [x] := by
      rw [ByteArray.data_extract, Array.toList_extract]
      rfl
    rw [e]
    show ([x] == [1]) = (x == 1)
    rw [Bool.eq_iff_iff]
    simp
theorem isLeaf_any (s : ByteArray) (hs : s.size ≤ maxLen) (w : World) : Calls Tryd.prog 163 #[.string s] w fun e w' => e = .returned (.bool (leafB s)) ∧ w = w' := by
  unfold maxLen at hs
  by_cases h : s.size = 17
  · have h1 : ((s.size : Int) == 17) = true := by simp; omega
    have h2 : (1 : Int) ≤ (s.size : Int) := by omega
    have hb : leafB s = ((s.extract 0 1).toList == [1]) := by rw [head_one s (by omega)]; unfold leafB; simp [h]
    rw [hb]
    clear hb
    go_enter Tryd.func163, Tryd.ntmps163
    go_wp2_with fail
    go_ret
    exact ⟨rfl, rfl⟩
  · have h1 : ((s.size : Int) == 17) = false := by simp; omega
    have hb : leafB s = false := by unfold leafB; simp [h]
    rw [hb]
    clear hb
    go_enter Tryd.func163, Tryd.ntmps163
    go_wp2_with fail
    go_ret
    exact ⟨rfl, rfl⟩
theorem is_empty (s : ByteArray) : (s.toList == [0]) = decide (s = emptyS) := by
  rw [ByteArray.toList_eq, Bool.eq_iff_iff, beq_iff_eq, decide_eq_true_iff]
  constructor
  · intro h
    exact ByteArray.ext (Array.toList_inj.1 (h.trans rfl))
  · rintro rfl
    rfl
set_option maxRecDepth 100000 in
theorem join_any (a b : ByteArray) (ha : a.size ≤ 1000000000) (hb : b.size ≤ 1000000000) (w : World) (hr : ShaReady w) :
    Calls Tryd.prog 147 #[.string a, .string b] w fun e w' => e = .returned (.string (joinN a b)) ∧ w.grownBy w' none := by
  have ht : Hid (∀ w0, w.grownBy w0 none → Calls Tryd.prog 46 #[.int .u8 10, .slice (some ⟨w0.heap.size, 0, none⟩) 2 2] (w0.alloc (.cells #[.string a, .string b] 9)) fun e w' => e = .returned (.string (tagS 10 [a, b])) ∧ w0.grownBy w' none) := Lib.hid (fun w0 g => tagged_new w0 10 [a, b] _ 2 10 rfl rfl rfl (hr.grown g) (by simp) (by
    intro s hs'
    simp at hs'
    rcases hs' with rfl | rfl <;> omega))
  have hla := Lib.hid (fun w0 => isLeaf_any a (by unfold maxLen; omega) w0)
  have hlb := Lib.hid (fun w0 => isLeaf_any b (by unfold maxLen; omega) w0)
  have h16 := tag16 10 [a, b]
  have hB : bothS a b = ⟨#[2]⟩ ++ tagS 10 [a, b] := rfl
  have HJ := Lib.hid (show joinN a b = if a = emptyS ∧ (b = emptyS ∨ leafB b = true) then b else if b = emptyS ∧ leafB a = true then a else bothS a b from rfl)
  generalize joinN a b = J at HJ ⊢
  rw [hB] at HJ
  generalize tagS 10 [a, b] = T at ht h16 HJ
  have q1 : (9223372036854775807 < (⟨#[2]⟩ : ByteArray).size + T.size) = False := eq_false (by rw [h16]; decide)
  have q2 : (9223372036854775807 < 1 + T.size) = False := eq_false (by rw [h16]; decide)
  have ea := is_empty a
  have eb := is_empty b
  obtain ⟨la, hlae⟩ : ∃ x, leafB a = x := ⟨_, rfl⟩
  obtain ⟨lb, hlbe⟩ : ∃ x, leafB b = x := ⟨_, rfl⟩
  rw [hlae] at hla HJ
  rw [hlbe] at hlb HJ
  clear hr hB h16 hlae hlbe
  by_cases h1 : a = emptyS
  · have ea1 : (a.toList == [0]) = true := by rw [ea]; simpa using h1
    by_cases h2 : b = emptyS
    · have eb1 : (b.toList == [0]) = true := by rw [eb]; simpa using h2
      have hj : J = b := by rw [HJ.out, if_pos ⟨h1, .inl h2⟩]
      subst hj
      clear ea eb h1 h2 HJ
      go_enter Tryd.func147, Tryd.ntmps147
      go_wp2_with fail
      go_ret
      exact ⟨rfl, World.grownBy.refl _ _⟩
    · have eb1 : (b.toList == [0]) = false := by rw [eb]; simpa using h2
      cases lb
      · have hj : J = ⟨#[2]⟩ ++ T := by rw [HJ.out, if_neg (by simp [h2]), if_neg (by simp [h2])]
        subst hj
        clear ea eb h1 h2 HJ
        go_enter Tryd.func147, Tryd.ntmps147
        go_wp2_with fail
        refine (hlb.out _).mono ?_
        rintro e w1 ⟨rfl, rfl⟩
        go_wp2_with fail
        refine (ht.out _ (World.grownBy.refl _ _)).mono ?_
        rintro e w2 ⟨rfl, g2⟩
        have G2 := Lib.hid g2
        clear g2
        go_wp2_with fail
        go_ret
        exact ⟨rfl, G2.out⟩
      · have hj : J = b := by rw [HJ.out, if_pos ⟨h1, .inr rfl⟩]
        subst hj
        clear ea eb h1 h2 HJ
        go_enter Tryd.func147, Tryd.ntmps147
        go_wp2_with fail
        refine (hlb.out _).mono ?_
        rintro e w1 ⟨rfl, rfl⟩
        go_wp2_with fail
        go_ret
        exact ⟨rfl, World.grownBy.refl _ _⟩
  · have ea1 : (a.toList == [0]) = false := by rw [ea]; simpa using h1
    by_cases h2 : b = emptyS
    · have eb1 : (b.toList == [0]) = true := by rw [eb]; simpa using h2
      cases la
      · have hj : J = ⟨#[2]⟩ ++ T := by rw [HJ.out, if_neg (by simp [h1]), if_neg (by simp)]
        subst hj
        clear ea eb h1 h2 HJ
        go_enter Tryd.func147, Tryd.ntmps147
        go_wp2_with fail
        refine (hla.out _).mono ?_
        rintro e w1 ⟨rfl, rfl⟩
        go_wp2_with fail
        refine (ht.out _ (World.grownBy.refl _ _)).mono ?_
        rintro e w2 ⟨rfl, g2⟩
        have G2 := Lib.hid g2
        clear g2
        go_wp2_with fail
        go_ret
        exact ⟨rfl, G2.out⟩
      · have hj : J = a := by rw [HJ.out, if_neg (by simp [h1]), if_pos ⟨h2, rfl⟩]
        subst hj
        clear ea eb h1 h2 HJ
        go_enter Tryd.func147, Tryd.ntmps147
        go_wp2_with fail
        refine (hla.out _).mono ?_
        rintro e w1 ⟨rfl, rfl⟩
        go_wp2_with fail
        go_ret
        exact ⟨rfl, World.grownBy.refl _ _⟩
    · have eb1 : (b.toList == [0]) = false := by rw [eb]; simpa using h2
      have hj : J = ⟨#[2]⟩ ++ T := by rw [HJ.out, if_neg (by simp [h1]), if_neg (by simp [h2])]
      subst hj
      clear ea eb h1 h2 HJ
      go_enter Tryd.func147, Tryd.ntmps147
      go_wp2_with fail
      refine (ht.out _ (World.grownBy.refl _ _)).mono ?_
      rintro e w2 ⟨rfl, g2⟩
      have G2 := Lib.hid g2
      clear g2
      go_wp2_with fail
      go_ret
      exact ⟨rfl, G2.out⟩
end Go.Proofs.YtioahjdojgcfdaaDoor

namespace Go.Proofs.YtioahjdojgcfdaaDoor
open Go.RowKit Go.Maps Go.Sort
attribute [local irreducible] shaL

/-- keys met so far that are wanted: no key twice -/
def Coll (D : DatU) (P : List UInt8 → Bool) (left : Lit → Bool) (ss : List (List UInt8)) : Prop := ss.Nodup ∧ ∀ x, x ∈ ss ↔ (Maps.has D (.string x) = true ∧ left (.string x) = false ∧ P x = true)
theorem Coll.start (D : DatU) (P : List UInt8 → Bool) : Coll D P (Maps.has D) [] := ⟨List.nodup_nil, fun x => by cases Maps.has D (.string x) <;> simp⟩
theorem Coll.yes {D : DatU} {P : List UInt8 → Bool} {left : Lit → Bool} {ss : List (List UInt8)} (h : Coll D P left ss) {x : List UInt8} {y : DatU} (hlk : left (.string x) = true) (hat : ∀ zd, D.atKey (.string x) zd = y) (hp : P x = true) : Coll D P (fun z => left z && !z.sameKey (.string x)) (ss ++ [x]) := by
  have hhas : Maps.has D (.string x) = true := has_true_of_atKey hat
  have hnew : x ∉ ss := fun hx => by have := ((h.2 x).1 hx).2.1; rw [hlk] at this; cases this
  refine ⟨List.nodup_append.2 ⟨h.1, by simp, fun a ha b hb => by simp at hb; subst hb; exact fun e => hnew (e ▸ ha)⟩, fun y => ?_⟩
  by_cases hy : y = x
  · subst hy; simp [hhas, hp, Lit.sameKey]
  · simp [h.2 y, hy, Lit.sameKey]
theorem Coll.no {D : DatU} {P : List UInt8 → Bool} {left : Lit → Bool} {ss : List (List UInt8)} (h : Coll D P left ss) {x : List UInt8} (hlk : left (.string x) = true) (hp : P x = false) : Coll D P (fun z => left z && !z.sameKey (.string x)) ss := by
  refine ⟨h.1, fun y => ?_⟩
  by_cases hy : y = x
  · subst hy
    have : y ∉ ss := fun hx => by have := ((h.2 y).1 hx).2.1; rw [hlk] at this; cases this
    simp [this, hp]
  · simp [h.2 y, hy, Lit.sameKey]
/-- the keys that are wanted, rising -/
def sortK (M : List PairS) (P : ByteArray → Bool) : List ByteArray := (((M.filter fun x => P x.1).map fun x => x.1.data.toList).mergeSort fun x y => decide (x ≤ y)).map str
theorem list_inj {a b : ByteArray} (h : a.data.toList = b.data.toList) : a = b := ByteArray.ext (Array.toList_inj.1 h)
theorem Coll.perm {D : DatU} {M : List PairS} {P : ByteArray → Bool} {left : Lit → Bool} {ss : List (List UInt8)} (h : Coll D (fun l => P (str l)) left ss) (hI : IsM D M) (hl : ∀ kl, left kl = false) : ss.Perm ((M.filter fun x => P x.1).map fun x => x.1.data.toList) := by
  refine (List.perm_ext_iff_of_nodup h.1 ?_).2 fun x => ?_
  · refine List.pairwise_map.2 ((hI.one.filter _).imp fun {a b} hne e => hne (list_inj e))
  · rw [h.2 x, hl]
    have h1 := hI.has (str x)
    have h2 : litK (str x) = .string x := rfl
    rw [h2] at h1
    rw [h1, List.mem_map, List.any_eq_true]
    constructor
    · rintro ⟨⟨p, hp, hk⟩, _, hP⟩
      have hk' : p.1 = str x := by simpa using hk
      refine ⟨p, List.mem_filter.2 ⟨hp, ?_⟩, by rw [hk']; rfl⟩
      rw [hk']
      exact hP
    · rintro ⟨p, hp, hk⟩
      have h3 := List.mem_filter.1 hp
      have hk' : p.1 = str x := list_inj hk
      refine ⟨⟨p, h3.1, by simpa using hk'⟩, rfl, ?_⟩
      show P (str x) = true
      rw [← hk']
      exact h3.2
theorem enc_strs (ss : List (List UInt8)) : ss.map encStr = strsV (ss.map str) := by
  unfold strsV
  rw [List.map_map]
  rfl
theorem own_low {w : World} {B B' n : Nat} {t : TypeId} {v : Value} {xs : List Value} (h : w.ownsRow B t 1 v n xs) (hb : B' ≤ B) : w.ownsRow B' t 1 v n xs := by
  refine ⟨h.1, ?_⟩
  rcases h.2 with h' | ⟨g, cap, cur, rfl, hB, r⟩
  · exact .inl h'
  · exact .inr ⟨g, cap, cur, rfl, Nat.le_trans hb hB, r⟩
theorem own_keep {w w' : World} {B n : Nat} {t : TypeId} {v : Value} {xs : List Value} {row : Option Nat} (h : w.ownsRow B t 1 v n xs) (k : w.grownBy w' row) (hne : ∀ x, v.ownBlock = some x → row ≠ some x) : w'.ownsRow B t 1 v n xs := by
  refine ⟨h.1, ?_⟩
  rcases h.2 with h' | ⟨g, cap, cur, rfl, hB, hg, r⟩
  · exact .inl h'
  · exact .inr ⟨g, cap, cur, rfl, hB, (k.block g (Array.getElem?_eq_some_iff.1 hg).1 (fun e => hne g rfl e.symm)).trans hg, r⟩
theorem sortK_nil (P : ByteArray → Bool) : sortK [] P = [] := by simp [sortK]
theorem sorted_strs {M : List PairS} {P : ByteArray → Bool} {ss : List (List UInt8)} (h : ss.Perm ((M.filter fun x => P x.1).map fun x => x.1.data.toList)) : (ss.mergeSort fun x y => decide (x ≤ y)).map str = sortK M P := by
  unfold sortK
  rw [mergeSort_of_perm h]
/-- all keys, rising -/
def keysM (M : List PairS) : List ByteArray := sortK M fun _ => true
end Go.Proofs.YtioahjdojgcfdaaDoor

namespace Go.Proofs.YtioahjdojgcfdaaDoor
open Go.RowKit Go.Maps
attribute [local irreducible] shaL

/-- the first one that is meant, or -1 -/
def firstI (L : List ByteArray) (P : ByteArray → Bool) : Int := match L.findIdx? P with
  | some i => i
  | none => -1
theorem firstI_at (L : List ByteArray) (P : ByteArray → Bool) (k : Nat) (hk : k < L.length) (hp : P L[k] = true) (hn : ∀ j, (h : j < L.length) → j < k → P L[j] = false) : firstI L P = k := by
  have : L.findIdx? P = some k := by
    rw [List.findIdx?_eq_some_iff_getElem]
    exact ⟨hk, hp, fun j hj => by simp [hn j (by omega) hj]⟩
  unfold firstI
  rw [this]
theorem firstI_none (L : List ByteArray) (P : ByteArray → Bool) (hn : ∀ j, (h : j < L.length) → P L[j] = false) : firstI L P = -1 := by
  have : L.findIdx? P = none := by
    rw [List.findIdx?_eq_none_iff]
    intro x hx
    obtain ⟨j, hj, rfl⟩ := List.getElem_of_mem hx
    exact hn j hj
  unfold firstI
  rw [this]
end Go.Proofs.YtioahjdojgcfdaaDoor

namespace Go.Proofs.YtioahjdojgcfdaaDoor
open Go.RowKit Go.Maps

/-- j places have been looked at; what is kept of them, i texts, lies at the row's head; from place j on the row is as it was -/
structure KeptL (q : ByteArray → Bool) (L cur : List ByteArray) (i j : Nat) : Prop where
  len : cur.length = L.length
  lt : i < j
  low : cur.take i = (L.take j).filter q
  high : cur.drop j = L.drop j
theorem take_succ_at {L : List ByteArray} {j : Nat} {x : ByteArray} (h : L[j]? = some x) : L.take (j + 1) = L.take j ++ [x] := by
  rw [List.take_add_one, h]
  rfl
theorem KeptL.start (q : ByteArray → Bool) (L : List ByteArray) (k : Nat) (hk : k < L.length) (hp : q L[k] = false) (hn : ∀ j, (h : j < L.length) → j < k → q L[j] = true) : KeptL q L L k (k + 1) := by
  refine ⟨rfl, Nat.lt_succ_self _, ?_, rfl⟩
  rw [take_succ_at (List.getElem?_eq_getElem hk), List.filter_append, List.filter_eq_self.2]
  · simp [hp]
  · intro x hx
    obtain ⟨j, hj, rfl⟩ := List.getElem_of_mem hx
    simp at hj
    simp only [List.getElem_take]
    exact hn j (by omega) (by omega)
theorem KeptL.at_ {q : ByteArray → Bool} {L cur : List ByteArray} {i j : Nat} (h : KeptL q L cur i j) (t : Nat) (ht : j ≤ t) : cur[t]? = L[t]? := by
  have h1 : (cur.drop j)[t - j]? = (L.drop j)[t - j]? := by rw [h.high]
  rw [List.getElem?_drop, List.getElem?_drop, show j + (t - j) = t from by omega] at h1
  exact h1
theorem KeptL.keep {q : ByteArray → Bool} {L cur : List ByteArray} {i j : Nat} (h : KeptL q L cur i j) {x : ByteArray} (hx : L[j]? = some x) (hq : q x = true) : KeptL q L (cur.set i x) (i + 1) (j + 1) := by
  have hj : j < L.length := (List.getElem?_eq_some_iff.1 hx).1
  have hl := h.len
  have hlt := h.lt
  refine ⟨by simpa using hl, by omega, ?_, ?_⟩
  · rw [take_succ_at hx, List.filter_append, ← h.low, List.take_add_one, List.getElem?_set_self (by omega), List.take_set_of_le (Nat.le_refl _)]
    simp [hq]
  · rw [List.drop_set_of_lt (by omega)]
    have h1 := h.high
    have : (cur.drop j).drop 1 = (L.drop j).drop 1 := by rw [h1]
    simpa [List.drop_drop] using this
theorem KeptL.skip {q : ByteArray → Bool} {L cur : List ByteArray} {i j : Nat} (h : KeptL q L cur i j) {x : ByteArray} (hx : L[j]? = some x) (hq : q x = false) : KeptL q L cur i (j + 1) := by
  refine ⟨h.len, by have := h.lt; omega, ?_, ?_⟩
  · rw [take_succ_at hx, List.filter_append, ← h.low]
    simp [hq]
  · have h1 := h.high
    have : (cur.drop j).drop 1 = (L.drop j).drop 1 := by rw [h1]
    simpa [List.drop_drop] using this
theorem KeptL.count {q : ByteArray → Bool} {L cur : List ByteArray} {i : Nat} (h : KeptL q L cur i L.length) : (L.filter q).length = i ∧ cur.take i = L.filter q := by
  have h1 := h.low
  rw [List.take_length] at h1
  refine ⟨?_, h1⟩
  rw [← h1, List.length_take, h.len]
  have := h.lt
  omega
theorem KeptL.few {q : ByteArray → Bool} {L cur : List ByteArray} {i j : Nat} (h : KeptL q L cur i j) (hj : j ≤ L.length) : i < L.length := by have := h.lt; omega

/-- a list whose places from o on are set, one by one -/
def setL : List Value → Nat → List Value → List Value
  | xs, _, [] => xs
  | xs, o, v :: r => setL (xs.set o v) (o + 1) r
theorem setL_take : ∀ (vs xs : List Value) (o : Nat), (setL xs o vs).take o = xs.take o
  | [], _, _ => rfl
  | v :: r, xs, o => by
    have h1 := setL_take r (xs.set o v) (o + 1)
    have h2 : ((setL (xs.set o v) (o + 1) r).take (o + 1)).take o = ((xs.set o v).take (o + 1)).take o := by rw [h1]
    rw [List.take_take, List.take_take, Nat.min_eq_left (by omega)] at h2
    show (setL (xs.set o v) (o + 1) r).take o = xs.take o
    rw [h2, List.take_set_of_le (Nat.le_refl _)]
theorem own_setCells {base : Nat} {e : TypeId} {g n cap : Nat} : ∀ (vs xs : List Value) (o : Nat) (w : World), w.ownsRow base e 1 (.slice (some ⟨g, 0, none⟩) n cap) n xs →
    (w.setCells g o vs).ownsRow base e 1 (.slice (some ⟨g, 0, none⟩) n cap) n (setL xs o vs) ∧ w.grownBy (w.setCells g o vs) (some g)
  | [], xs, o, w, h => ⟨h, World.grownBy.refl _ _⟩
  | v :: r, xs, o, w, h => by
    have h1 := h.stored o v
    have h2 := own_setCells r (xs.set o v) (o + 1) (w.setCell ⟨g, o, none⟩ v) h1.1
    exact ⟨h2.1, h1.2.trans h2.2⟩
theorem own_take {w : World} {base : Nat} {e : TypeId} {g n cap : Nat} {xs : List Value} (h : w.ownsRow base e 1 (.slice (some ⟨g, 0, none⟩) n cap) n xs) (i : Nat) (hi : i ≤ n) : w.ownsRow base e 1 (.slice (some ⟨g, 0, none⟩) i cap) i (xs.take i) := by
  have hl := h.1
  refine ⟨by simp; omega, ?_⟩
  rcases h.2 with ⟨h', _⟩ | ⟨g', cap', cur, h', hb, hg, hnc, hcm, hcs, htake⟩
  · simp at h'
  · simp only [Value.slice.injEq, Option.some.injEq, Addr.mk.injEq, and_true, true_and] at h'
    obtain ⟨rfl, rfl⟩ := h'
    refine .inr ⟨g, cap, cur, rfl, hb, hg, by omega, hcm, hcs, ?_⟩
    rw [← htake, List.take_take, Nat.mul_one, Nat.mul_one, Nat.min_eq_left hi]
end Go.Proofs.YtioahjdojgcfdaaDoor

namespace Go.Proofs.YtioahjdojgcfdaaDoor
open Go.RowKit Go.Maps
attribute [local irreducible] shaL

theorem zero_str (w : World) : (zeroValue 9).run Tryd.prog w = .ok (.string ⟨#[]⟩) w := by
  obtain ⟨i0, hi, hz0, hz1, hz2⟩ := info_parts infoStrW
  simp [zeroValue, typeInfo, hi, hz0]
theorem clear_strs (w : World) (ty : TypeId) (b o n c : Nat) (hn : 0 < n) (hc : ∀ j, j < n → (w.cell? ⟨b, o + j, none⟩).isSome = true) (hf : ∀ j, j < n → w.frozen? ⟨b, o + j, none⟩ = false) :
    (Builtin.clear_ #[44] ty #[.slice (some ⟨b, o, none⟩) n c]).run Tryd.prog w = .ok (.tuple #[]) (w.setCells b o (List.replicate n (.string ⟨#[]⟩))) :=
  Lib.run_clear_slice w 44 9 ty (.string ⟨#[]⟩) Tryd.underlying44 zero_str rfl rfl b o n c hn hc hf
theorem str_cell {w : World} {B g n c : Nat} {L : List ByteArray} (h : w.ownsRow B 9 1 (.slice (some ⟨g, 0, none⟩) n c) n (strsV L)) {j : Nat} {x : ByteArray} (hx : L[j]? = some x) : w.cell? ⟨g, j, none⟩ = some (.string x) := by
  have hl := h.1
  have hj := (List.getElem?_eq_some_iff.1 hx).1
  rw [strsV_length] at hl
  rw [h.cellAt j (by omega)]
  simp [strsV, hx]
theorem strsV_set (L : List ByteArray) (i : Nat) (x : ByteArray) : (strsV L).set i (.string x) = strsV (L.set i x) := by simp [strsV, List.map_set]
theorem strsV_take (L : List ByteArray) (i : Nat) : (strsV L).take i = strsV (L.take i) := by simp [strsV, List.map_take]
end Go.Proofs.YtioahjdojgcfdaaDoor

namespace Go.Proofs.YtioahjdojgcfdaaDoor
open Go.RowKit Go.Maps
attribute [local irreducible] shaL

/-- a node of bytes, of which the first is this one -/
def beginsB (s : ByteArray) (m : UInt8) : Bool := decide (s.size = 17) && (headB s == m)
end Go.Proofs.YtioahjdojgcfdaaDoor

namespace Go.Proofs.YtioahjdojgcfdaaDoor
open Go.RowKit Go.Maps
attribute [local irreducible] shaL

def likeL (key : ByteArray) (d : Nat) (L : List ByteArray) : List ByteArray := L.filter fun x => belowB x key d
end Go.Proofs.YtioahjdojgcfdaaDoor

namespace Go.Proofs.YtioahjdojgcfdaaDoor
open Go.RowKit Go.Maps
attribute [local irreducible] shaL

/-- the pairs of these keys -/
def pairsM (M : List PairS) (L : List ByteArray) : List PairS := L.map fun k => (k, valM M k)
set_option maxRecDepth 100000 in
/-- a tree's look-up, in whatever world -/
theorem TreeAt.run {n0 : Nat} {X : List Nat} {w : World} {b : Nat} {M : List PairS} {mv : Value} (h : TreeAt n0 X w b M mv) (k : ByteArray) (hk : k.size ≤ maxLen) (hh : hasM M k = true) : (Instr.lookup 129 mv (.string k) false).run Tryd.prog w = .ok (.string (valM M k)) w := by
  rcases h.map with ⟨rfl, rfl⟩ | ⟨mb, D, rfl, h1, h2, h3, h4⟩
  · exact absurd hh (by simp [hasM])
  · obtain ⟨v, ps, hrun, hv⟩ := h3.lookup strK Tryd.underlying129 (zeroStr w) (strR_mk ⟨#[]⟩ (by unfold maxLen; decide)) (keyV k hk)
    obtain ⟨s, rfl, hz, _⟩ := strR_inv hv
    have h5 := h4.val k
    have h6 := (Prod.mk.inj hz).1
    have h7 : (⟨#[]⟩ : ByteArray).data.toList = [] := rfl
    rw [h7, h5] at h6
    injection h6 with h6
    injection h6 with h6
    rw [hrun, ← ByteArray.ext (Array.toList_inj.1 h6)]
theorem TreeK.drew {n0 : Nat} {X : List Nat} {w : World} {b : Nat} {M : List PairS} (h : TreeK n0 X w b M) : TreeK n0 X w.drew b M := h.grown (grownBy_drew (World.grownBy.refl _ _))
theorem TreeAt.grown {n0 : Nat} {X : List Nat} {w w' : World} {b : Nat} {M : List PairS} {mv : Value} (h : TreeAt n0 X w b M mv) (k : w.grownBy w' none) : TreeAt n0 X w' b M mv := by
  refine ⟨k.heap h.blk (by simp), h.own, ?_⟩
  rcases h.map with hm | ⟨mb, D, rfl, h1, h2, h3, h4⟩
  · exact .inl hm
  · exact .inr ⟨mb, D, rfl, h1, h2, h3.kept k (by simp), h4⟩
/-- what a look-up at a key's cell reads, in whatever world behind -/
theorem one_reads {n0 : Nat} {X : List Nat} {w : World} {b g o : Nat} {M : List PairS} {mv : Value} {k v : ByteArray} (h : TreeAt n0 X w b M mv) (hk : k.size ≤ maxLen) (hh : hasM M k = true) (hv : valM M k = v) (hc : w.cell? ⟨g, o, none⟩ = some (.string k)) (w' : World) (q : w.grownBy w' none) :
    w'.cell? ⟨g, o, none⟩ = some (.string k) ∧ w'.cell? ⟨b, 0, none⟩ = some mv ∧ (Instr.lookup 129 mv (.string k) false).run Tryd.prog w' = .ok (.string v) w' := by
  have h1 := h.grown q
  refine ⟨q.cell hc (by simp), by rw [cell_of h1.blk]; rfl, ?_⟩
  rw [h1.run k hk hh, hv]
end Go.Proofs.YtioahjdojgcfdaaDoor

namespace Go.Proofs.YtioahjdojgcfdaaDoor
open Go.RowKit Go.Maps Go.Sort
attribute [local irreducible] shaL

def Rises (L : List ByteArray) : Prop := L.Pairwise fun x y => Op.bytesLess y.data.toList x.data.toList = false
theorem rises_sortK (M : List PairS) (P : ByteArray → Bool) : Rises (sortK M P) := by
  unfold Rises sortK
  rw [List.pairwise_map]
  refine (List.pairwise_mergeSort (fun a b c h1 h2 => ?_) (fun a b => ?_) _).imp fun {a b} h => ?_
  · simp only [decide_eq_true_eq] at h1 h2 ⊢
    exact List.le_trans h1 h2
  · simp only [Bool.or_eq_true, decide_eq_true_eq]
    exact List.le_total a b
  · show Op.bytesLess b a = false
    rw [bytesLess_eq]
    simp only [decide_eq_true_eq] at h
    simp
    exact h
def sideK (b d : Nat) (L : List ByteArray) : List ByteArray := L.filter fun k => bitS k d == b
theorem side_pairs (M : List PairS) (b d : Nat) (L : List ByteArray) : side b d (pairsM M L) = pairsM M (sideK b d L) := by
  unfold side pairsM sideK
  rw [List.filter_map]
  rfl
/-- where the ones begin -/
def cutK (L : List ByteArray) (d : Nat) : Nat := match L.findIdx? (fun k => bitS k d == 1) with
  | some i => i
  | none => L.length
theorem cutK_le (L : List ByteArray) (d : Nat) : cutK L d ≤ L.length := by
  unfold cutK
  split
  · rename_i i h
    have := (List.findIdx?_eq_some_iff_getElem.1 h).1
    omega
  · exact Nat.le_refl _
theorem firstI_cut (L : List ByteArray) (d : Nat) : (cutK L d = L.length ∧ firstI L (fun k => bitS k d == 1) = -1) ∨ (cutK L d < L.length ∧ firstI L (fun k => bitS k d == 1) = (cutK L d : Nat)) := by
  unfold cutK firstI
  cases h : L.findIdx? (fun k => bitS k d == 1) with
  | none => exact .inl ⟨rfl, rfl⟩
  | some i => exact .inr ⟨(List.findIdx?_eq_some_iff_getElem.1 h).1, rfl⟩
theorem cut_sides (L : List ByteArray) (d : Nat) (hd : d < 128) (hR : Rises L) (hl : ∀ k ∈ L, k.size = 16) (ha : ∀ x ∈ L, ∀ y ∈ L, ∀ i, i < d → bitS x i = bitS y i) : L.take (cutK L d) = sideK 0 d L ∧ L.drop (cutK L d) = sideK 1 d L := by
  have hz : ∀ j, (h : j < L.length) → j < cutK L d → bitS L[j] d = 0 := by
    intro j hj hc
    unfold cutK at hc
    have hb := bitS_le L[j] d
    cases h : L.findIdx? (fun k => bitS k d == 1) with
    | none =>
      have := List.findIdx?_eq_none_iff.1 h L[j] (List.getElem_mem _)
      simp at this
      omega
    | some i =>
      rw [h] at hc
      have := (List.findIdx?_eq_some_iff_getElem.1 h).2.2 j hc
      simp at this
      omega
  have ho : ∀ j, (h : j < L.length) → cutK L d ≤ j → bitS L[j] d = 1 := by
    intro j hj hc
    unfold cutK at hc
    have hb := bitS_le L[j] d
    cases h : L.findIdx? (fun k => bitS k d == 1) with
    | none => rw [h] at hc; simp at hc; omega
    | some i =>
      rw [h] at hc
      simp at hc
      obtain ⟨hi, h1, _⟩ := List.findIdx?_eq_some_iff_getElem.1 h
      have h1' : bitS L[i] d = 1 := by simpa using h1
      by_cases e : i = j
      · subst e; exact h1'
      · have hr := List.pairwise_iff_getElem.1 hR i j hi hj (by omega)
        by_cases h0 : bitS L[j] d = 1
        · exact h0
        · exfalso
          have := order_bit L[i].data.toList L[j].data.toList d (by rw [Array.length_toList]; exact hl _ (List.getElem_mem _)) (by rw [Array.length_toList]; exact hl _ (List.getElem_mem _)) hd (fun q hq => ha _ (List.getElem_mem _) _ (List.getElem_mem _) q hq) (fun e => h0 (e.symm.trans h1')) hr
          have h2 : bitS L[i] d = 0 := this.1
          omega
  have h0 : ∀ x ∈ L.take (cutK L d), bitS x d = 0 := by
    intro x hx
    obtain ⟨j, hj, rfl⟩ := List.getElem_of_mem hx
    rw [List.getElem_take]
    rw [List.length_take] at hj
    exact hz j (by omega) (by omega)
  have h1 : ∀ x ∈ L.drop (cutK L d), bitS x d = 1 := by
    intro x hx
    obtain ⟨j, hj, rfl⟩ := List.getElem_of_mem hx
    rw [List.getElem_drop]
    rw [List.length_drop] at hj
    exact ho _ (by omega) (by omega)
  have e : ∀ b, sideK b d L = (L.take (cutK L d)).filter (fun k => bitS k d == b) ++ (L.drop (cutK L d)).filter (fun k => bitS k d == b) := by
    intro b
    unfold sideK
    rw [← List.filter_append, List.take_append_drop]
  constructor
  · rw [e, List.filter_eq_self.2 (fun x hx => by simp [h0 x hx]), List.filter_eq_nil_iff.2 (fun x hx => by simp [h1 x hx]), List.append_nil]
  · rw [e, List.filter_eq_nil_iff.2 (fun x hx => by simp [h0 x hx]), List.filter_eq_self.2 (fun x hx => by simp [h1 x hx]), List.nil_append]
theorem Rises.sub {L N : List ByteArray} (h : Rises L) (hs : N.Sublist L) : Rises N := List.Pairwise.sublist hs h
end Go.Proofs.YtioahjdojgcfdaaDoor

namespace Go.Proofs.YtioahjdojgcfdaaDoor
open Go.RowKit Go.Maps
attribute [local irreducible] shaL

/-- a node that may be -/
def okN (n : ByteArray) : Bool := decide (n = emptyS) || (beginsB n 1 || beginsB n 2)
/-- a last one that may be -/
def endN (L : List ByteArray) (t : Bool) : Bool := match L.getLast? with | none => true | some l => beginsB l 2 || (t && !decide (l = emptyS))
def besideB (L : List ByteArray) (t : Bool) : Bool := L.all okN && endN L t
end Go.Proofs.YtioahjdojgcfdaaDoor

namespace Go.Proofs.YtioahjdojgcfdaaDoor
open Go.RowKit Go.Maps
attribute [local irreducible] shaL

def goodB (L : List ByteArray) (t : Bool) (pk pv key : ByteArray) (d : Nat) : Bool :=
  besideB L t && (if t then decide (pk.size = 16) && belowB pk key (d + L.length) else decide (pk.size = 0) && decide (pv.size = 0))
theorem is_nil (s : ByteArray) : (s.toList == []) = decide (s.size = 0) := by
  rw [ByteArray.toList_eq, Bool.eq_iff_iff, beq_iff_eq, decide_eq_true_iff]
  show s.data.toList = [] ↔ s.data.size = 0
  rw [← Array.length_toList, List.length_eq_zero_iff]
end Go.Proofs.YtioahjdojgcfdaaDoor
