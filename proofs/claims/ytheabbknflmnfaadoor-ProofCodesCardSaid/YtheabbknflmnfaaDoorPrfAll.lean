/- The walks of proof's begins, and of its alike's closure. · The walk of IndexFunc, at proof's alike's closure (SmtI's text, by program). · What DeleteFunc leaves in its row: plain words, and a row whose cells are set one by one. No walk. · The walk of DeleteFunc, at proof's alike's closure. · The walk of proof's alike. · The walk of a proof's besideMayBe. · The walk of a proof's Good, where key and depth may be. · Plain words: the way to a key, what stands beside it, the climb back. No walk. · Plain words for Prove: the keys that go on, the way so far. No walk. -/
import Derived.Test.YtheabbknflmnfaaDoorSmtSpec
import Derived.Test.YtheabbknflmnfaaDoorSmtB
import Derived.Test.YtheabbknflmnfaaDoorBelow
import Derived.Test.YtheabbknflmnfaaDoorSmtI
import Derived.Test.YtheabbknflmnfaaDoorSmtC
import Derived.Laws.IdiomCopy
import Derived.Lib.SliceRun
import Derived.Test.YtheabbknflmnfaaDoorShaCalls
import Derived.Deep.DeepCutAuto
import Derived.Test.YtheabbknflmnfaaDoorSmtN
namespace Go.Proofs.YtheabbknflmnfaaDoor
open Go.RowKit Go.Maps
attribute [local irreducible] shaL

/-- a node of bytes, of which the first is this one -/
def beginsB (s : ByteArray) (m : UInt8) : Bool := decide (s.size = 17) && (headB s == m)
theorem begins_any (s : ByteArray) (hs : s.size ≤ maxLen) (m : UInt8) (w : World) : Calls Tryd.prog 73 #[.string s, .int .u8 m.toNat] w fun e w' => e = .returned (.bool (beginsB s m)) ∧ w = w' := by
  unfold maxLen at hs
  by_cases h : s.size = 17
  · have h1 : ((s.size : Int) == 17) = true := by simp; omega
    have h2 : 0 < s.size := by omega
    have h3 : (0 : Int) < (s.size : Int) := by omega
    have hb : beginsB s m = ((s[0].toNat : Int) == (m.toNat : Int)) := by
      unfold beginsB headB
      obtain ⟨⟨l⟩⟩ := s
      match l, h2 with
      | x :: r, _ =>
        simp [h]
        show (x == m) = decide (((x.toNat : Nat) : Int) = ((m.toNat : Nat) : Int))
        rw [Bool.eq_iff_iff]
        simp
        exact ⟨fun e => by rw [e], fun e => UInt8.toNat_inj.1 (by omega)⟩
    rw [hb]
    clear hb
    go_enter Tryd.func73, Tryd.ntmps73
    go_wp2_with fail
    go_ret
    exact ⟨rfl, rfl⟩
  · have h1 : ((s.size : Int) == 17) = false := by simp; omega
    have hb : beginsB s m = false := by unfold beginsB; simp [h]
    rw [hb]
    clear hb h
    go_enter Tryd.func73, Tryd.ntmps73
    go_wp2_with fail
    go_ret
    exact ⟨rfl, rfl⟩
theorem alike1_any (k s : ByteArray) (z : Int) (B1 B2 : Nat) (hk : k.size ≤ maxLen) (hs : s.size ≤ maxLen) (w : World) (h1 : w.cell? ⟨B1, 0, none⟩ = some (.string s)) (h2 : w.cell? ⟨B2, 0, none⟩ = some (.int .i64 z)) :
    Calls Tryd.prog 72 #[.string k, .pointer (some ⟨B1, 0, none⟩), .pointer (some ⟨B2, 0, none⟩)] w fun e w' => e = .returned (.bool (!belowB k s (capD z))) ∧ w.grownBy w' none := by
  have HB := Lib.hid (below_int k s hk hs z w)
  clear hk hs
  go_enter Tryd.func72, Tryd.ntmps72
  go_wp2_with fail
  refine HB.out.mono ?_
  rintro e w2 ⟨rfl, g2⟩
  have HG := Lib.hid g2
  clear g2
  go_wp2_with fail
  go_ret
  exact ⟨rfl, HG.out⟩
end Go.Proofs.YtheabbknflmnfaaDoor

namespace Go.Proofs.YtheabbknflmnfaaDoor
open Go.RowKit Go.Maps
attribute [local irreducible] shaL

set_option maxRecDepth 100000 in
set_option maxHeartbeats 1600000 in
theorem index_alike (P : ByteArray → Bool) (a : Option Addr) (n c : Nat) (L : List ByteArray) (w : World) (c1 c2 : Value) (hv : StrsAt w (.slice a n c) L) (hn : n ≤ 1000000)
    (hF : ∀ (k : ByteArray) (w' : World), k ∈ L → w.grownBy w' none → Calls Tryd.prog 72 #[.string k, c1, c2] w' fun e w'' => e = .returned (.bool (P k)) ∧ w'.grownBy w'' none) :
    Calls Tryd.prog 67 #[.slice a n c, .func (Fn.func 72) #[] #[c1, c2]] w fun e w' => e = .returned (.int .i64 (firstI L P)) ∧ w.grownBy w' none := by
  have hln : L.length = n := by obtain ⟨_, _, e, _⟩ := hv; injection e with _ e _; exact e.symm
  have HV := Lib.hid hv
  have HF := Lib.hid hF
  have HLN := Lib.hid hln
  clear hv hF hln
  go_enter Tryd.func67, Tryd.ntmps67
  go_wp2_with fail
  go_loopw [5, 8] (fun _ iv wr => ∃ k : Nat, k ≤ n ∧ iv = .int .i64 k ∧ Hid (∀ j, (h : j < L.length) → j < k → P L[j] = false) ∧ Hid (w.grownBy wr none)) (fun _ iv _ => n - (intOf iv).toNat)
  case atStart => exact ⟨0, Nat.zero_le _, rfl, Lib.hid (fun j _ h => absurd h (Nat.not_lt_zero j)), World.grownBy.refl _ _⟩
  case round =>
    obtain ⟨k, hk, rfl, HK, HG⟩ := hrel
    by_cases hlt : k < n
    · have d1 : (k : Int) < (n : Int) := by omega
      have d0 : (0 : Int) ≤ (k : Int) := by omega
      have hkl : k < L.length := by have := HLN.out; omega
      obtain ⟨x, hx⟩ : ∃ x, L[k]? = some x := ⟨_, List.getElem?_eq_getElem hkl⟩
      have hxe : L[k] = x := (List.getElem?_eq_some_iff.1 hx).2
      obtain ⟨g, o, rfl, hcell⟩ := HV.out.at_ k x hx
      have hc : wr.cell? ⟨g, o + k, none⟩ = some (.string x) := HG.out.cell hcell (by simp)
      have hfx := HF.out x wr (List.mem_of_getElem? hx) HG.out
      have HX := Lib.hid hxe
      clear hx hxe hcell
      cases hP : P x
      · rw [hP] at hfx
        have HFX := Lib.hid hfx
        have HPX := Lib.hid hP
        clear hfx hP
        go_wp2_with fail
        refine HFX.out.mono ?_
        rintro e w3 ⟨rfl, g3⟩
        have HG3 := Lib.hid (grownBy_trans HG.out g3)
        clear g3
        go_wp2_with fail
        go_roundw
        case rel =>
          refine ⟨k + 1, by omega, by go_num, Lib.hid (fun j h hj => ?_), HG3.out⟩
          by_cases hjk : j = k
          · subst hjk; rw [HX.out]; exact HPX.out
          · exact HK.out j h (by omega)
        case measure => simp [intOf]; omega
      · rw [hP] at hfx
        have HFX := Lib.hid hfx
        have HPX := Lib.hid hP
        clear hfx hP
        go_wp2_with fail
        refine HFX.out.mono ?_
        rintro e w3 ⟨rfl, g3⟩
        have HG3 := Lib.hid (grownBy_trans HG.out g3)
        clear g3
        go_wp2_with fail
        go_ret
        exact ⟨by rw [firstI_at L P k hkl (by rw [HX.out]; exact HPX.out) HK.out]; rfl, HG3.out⟩
    · have hkn : k = n := by omega
      subst hkn
      have d1 : ¬ (k : Int) < (k : Int) := by omega
      go_wp2_with fail
      go_ret
      exact ⟨by rw [firstI_none L P (fun j h => HK.out j h (by have := HLN.out; omega))]; rfl, HG.out⟩
end Go.Proofs.YtheabbknflmnfaaDoor

namespace Go.Proofs.YtheabbknflmnfaaDoor
open Go.RowKit Go.Maps

/-- j places have been looked at; what is kept of them, i texts, lies at the row's head; from place j on the row is as it was -/
structure KeptL (q : ByteArray → Bool) (L cur : List ByteArray) (i j : Nat) : Prop where
  len : cur.length = L.length
  lt : i < j
  low : cur.take i = (L.take j).filter q
  high : cur.drop j = L.drop j
theorem take_succ_at {L : List ByteArray} {j : Nat} {x : ByteArray} (h : L[j]? = some x) : L.take (j + 1) = L.take j ++ [x] := by
  rw [List.take_add_one, h]
  rfl
theorem KeptL.start (q : ByteArray → Bool) (L : List ByteArray) (k : Nat) (hk : k < L.length) (hp : q L[k] = false) (hn : ∀ j, (h : j < L.length) → j < k → q L[j] = true) : KeptL q L L k (k + 1) := by
  refine ⟨rfl, Nat.lt_succ_self _, ?_, rfl⟩
  rw [take_succ_at (List.getElem?_eq_getElem hk), List.filter_append, List.filter_eq_self.2]
  · simp [hp]
  · intro x hx
    obtain ⟨j, hj, rfl⟩ := List.getElem_of_mem hx
    simp at hj
    simp only [List.getElem_take]
    exact hn j (by omega) (by omega)
theorem KeptL.at_ {q : ByteArray → Bool} {L cur : List ByteArray} {i j : Nat} (h : KeptL q L cur i j) (t : Nat) (ht : j ≤ t) : cur[t]? = L[t]? := by
  have h1 : (cur.drop j)[t - j]? = (L.drop j)[t - j]? := by rw [h.high]
  rw [List.getElem?_drop, List.getElem?_drop, show j + (t - j) = t from by omega] at h1
  exact h1
theorem KeptL.keep {q : ByteArray → Bool} {L cur : List ByteArray} {i j : Nat} (h : KeptL q L cur i j) {x : ByteArray} (hx : L[j]? = some x) (hq : q x = true) : KeptL q L (cur.set i x) (i + 1) (j + 1) := by
  have hj : j < L.length := (List.getElem?_eq_some_iff.1 hx).1
  have hl := h.len
  have hlt := h.lt
  refine ⟨by simpa using hl, by omega, ?_, ?_⟩
  · rw [take_succ_at hx, List.filter_append, ← h.low, List.take_add_one, List.getElem?_set_self (by omega), List.take_set_of_le (Nat.le_refl _)]
    simp [hq]
  · rw [List.drop_set_of_lt (by omega)]
    have h1 := h.high
    have : (cur.drop j).drop 1 = (L.drop j).drop 1 := by rw [h1]
    simpa [List.drop_drop] using this
theorem KeptL.skip {q : ByteArray → Bool} {L cur : List ByteArray} {i j : Nat} (h : KeptL q L cur i j) {x : ByteArray} (hx : L[j]? = some x) (hq : q x = false) : KeptL q L cur i (j + 1) := by
  refine ⟨h.len, by have := h.lt; omega, ?_, ?_⟩
  · rw [take_succ_at hx, List.filter_append, ← h.low]
    simp [hq]
  · have h1 := h.high
    have : (cur.drop j).drop 1 = (L.drop j).drop 1 := by rw [h1]
    simpa [List.drop_drop] using this
theorem KeptL.count {q : ByteArray → Bool} {L cur : List ByteArray} {i : Nat} (h : KeptL q L cur i L.length) : (L.filter q).length = i ∧ cur.take i = L.filter q := by
  have h1 := h.low
  rw [List.take_length] at h1
  refine ⟨?_, h1⟩
  rw [← h1, List.length_take, h.len]
  have := h.lt
  omega
theorem KeptL.few {q : ByteArray → Bool} {L cur : List ByteArray} {i j : Nat} (h : KeptL q L cur i j) (hj : j ≤ L.length) : i < L.length := by have := h.lt; omega

/-- a list whose places from o on are set, one by one -/
def setL : List Value → Nat → List Value → List Value
  | xs, _, [] => xs
  | xs, o, v :: r => setL (xs.set o v) (o + 1) r
theorem setL_take : ∀ (vs xs : List Value) (o : Nat), (setL xs o vs).take o = xs.take o
  | [], _, _ => rfl
  | v :: r, xs, o => by
    have h1 := setL_take r (xs.set o v) (o + 1)
    have h2 : ((setL (xs.set o v) (o + 1) r).take (o + 1)).take o = ((xs.set o v).take (o + 1)).take o := by rw [h1]
    rw [List.take_take, List.take_take, Nat.min_eq_left (by omega)] at h2
    show (setL (xs.set o v) (o + 1) r).take o = xs.take o
    rw [h2, List.take_set_of_le (Nat.le_refl _)]
theorem own_setCells {base : Nat} {e : TypeId} {g n cap : Nat} : ∀ (vs xs : List Value) (o : Nat) (w : World), w.ownsRow base e 1 (.slice (some ⟨g, 0, none⟩) n cap) n xs →
    (w.setCells g o vs).ownsRow base e 1 (.slice (some ⟨g, 0, none⟩) n cap) n (setL xs o vs) ∧ w.grownBy (w.setCells g o vs) (some g)
  | [], xs, o, w, h => ⟨h, World.grownBy.refl _ _⟩
  | v :: r, xs, o, w, h => by
    have h1 := h.stored o v
    have h2 := own_setCells r (xs.set o v) (o + 1) (w.setCell ⟨g, o, none⟩ v) h1.1
    exact ⟨h2.1, h1.2.trans h2.2⟩
theorem own_take {w : World} {base : Nat} {e : TypeId} {g n cap : Nat} {xs : List Value} (h : w.ownsRow base e 1 (.slice (some ⟨g, 0, none⟩) n cap) n xs) (i : Nat) (hi : i ≤ n) : w.ownsRow base e 1 (.slice (some ⟨g, 0, none⟩) i cap) i (xs.take i) := by
  have hl := h.1
  refine ⟨by simp; omega, ?_⟩
  rcases h.2 with ⟨h', _⟩ | ⟨g', cap', cur, h', hb, hg, hnc, hcm, hcs, htake⟩
  · simp at h'
  · simp only [Value.slice.injEq, Option.some.injEq, Addr.mk.injEq, and_true, true_and] at h'
    obtain ⟨rfl, rfl⟩ := h'
    refine .inr ⟨g, cap, cur, rfl, hb, hg, by omega, hcm, hcs, ?_⟩
    rw [← htake, List.take_take, Nat.mul_one, Nat.mul_one, Nat.min_eq_left hi]
end Go.Proofs.YtheabbknflmnfaaDoor

namespace Go.Proofs.YtheabbknflmnfaaDoor
open Go.RowKit Go.Maps
attribute [local irreducible] shaL

theorem zero_str (w : World) : (zeroValue 9).run Tryd.prog w = .ok (.string ⟨#[]⟩) w := by
  obtain ⟨i0, hi, hz0, hz1, hz2⟩ := info_parts infoStrW
  simp [zeroValue, typeInfo, hi, hz0]
theorem clear_strs (w : World) (ty : TypeId) (b o n c : Nat) (hn : 0 < n) (hc : ∀ j, j < n → (w.cell? ⟨b, o + j, none⟩).isSome = true) (hf : ∀ j, j < n → w.frozen? ⟨b, o + j, none⟩ = false) :
    (Builtin.clear_ #[34] ty #[.slice (some ⟨b, o, none⟩) n c]).run Tryd.prog w = .ok (.tuple #[]) (w.setCells b o (List.replicate n (.string ⟨#[]⟩))) :=
  Lib.run_clear_slice w 34 9 ty (.string ⟨#[]⟩) Tryd.underlying34 zero_str rfl rfl b o n c hn hc hf
theorem str_cell {w : World} {B g n c : Nat} {L : List ByteArray} (h : w.ownsRow B 9 1 (.slice (some ⟨g, 0, none⟩) n c) n (strsV L)) {j : Nat} {x : ByteArray} (hx : L[j]? = some x) : w.cell? ⟨g, j, none⟩ = some (.string x) := by
  have hl := h.1
  have hj := (List.getElem?_eq_some_iff.1 hx).1
  rw [strsV_length] at hl
  rw [h.cellAt j (by omega)]
  simp [strsV, hx]
theorem strsV_set (L : List ByteArray) (i : Nat) (x : ByteArray) : (strsV L).set i (.string x) = strsV (L.set i x) := by simp [strsV, List.map_set]
theorem strsV_take (L : List ByteArray) (i : Nat) : (strsV L).take i = strsV (L.take i) := by simp [strsV, List.map_take]
set_option maxRecDepth 100000 in
set_option maxHeartbeats 3200000 in
theorem delete_alike (P : ByteArray → Bool) (B g n c : Nat) (L : List ByteArray) (w : World) (c1 c2 : Value) (hv : w.ownsRow B 9 1 (.slice (some ⟨g, 0, none⟩) n c) n (strsV L)) (hn : n ≤ 1000000) (hnc : n ≤ c)
    (hF : ∀ (k : ByteArray) (w' : World), k ∈ L → w.grownBy w' (some g) → Calls Tryd.prog 72 #[.string k, c1, c2] w' fun e w'' => e = .returned (.bool (P k)) ∧ w'.grownBy w'' none) :
    Calls Tryd.prog 39 #[.slice (some ⟨g, 0, none⟩) n c, .func (Fn.func 72) #[] #[c1, c2]] w fun e w' => ∃ m : Nat, e = .returned (.slice (some ⟨g, 0, none⟩) m c) ∧ w'.ownsRow B 9 1 (.slice (some ⟨g, 0, none⟩) m c) m (strsV (L.filter fun x => !P x)) ∧ w.grownBy w' (some g) := by
  have hln : L.length = n := by have := hv.1; rw [strsV_length] at this; omega
  have HI := Lib.hid (index_alike P (some ⟨g, 0, none⟩) n c L w c1 c2 (strs_own hv) hn (fun k w' hk hg => hF k w' hk (grownBy_any hg _)))
  have HV := Lib.hid hv
  have HF := Lib.hid hF
  have HLN := Lib.hid hln
  rcases hfi : L.findIdx? P with _ | k
  · have hI : firstI L P = -1 := by unfold firstI; rw [hfi]
    rw [hI] at HI
    have hall : (L.filter fun x => !P x) = L := List.filter_eq_self.2 (fun x hx => by have := List.findIdx?_eq_none_iff.1 hfi x hx; simp [this])
    rw [hall]
    clear hv hF hln hI hall hfi
    go_enter Tryd.func39, Tryd.ntmps39
    go_wp2_with fail
    refine HI.out.mono ?_
    rintro e w1 ⟨rfl, g1⟩
    go_wp2_with fail
    go_ret
    exact ⟨n, rfl, own_keep HV.out g1 (fun x _ e => by cases e), grownBy_any g1 _⟩
  · have hI : firstI L P = (k : Int) := by unfold firstI; rw [hfi]
    obtain ⟨hk, hpk, hno⟩ := List.findIdx?_eq_some_iff_getElem.1 hfi
    rw [hI] at HI
    have hne1 : ((k : Int) == -1) = false := beq_eq_false_iff_ne.2 (by omega)
    have HK0 := Lib.hid (KeptL.start (fun x => !P x) L k hk (by simp [hpk]) (fun j hj hjk => by have := hno j hjk; simp at this; simp [this]))
    have hkn : k + 1 ≤ n := by omega
    have HKN := Lib.hid hkn
    have r1 : IntKind.i64.wrap ((k : Int) + 1) = ((k + 1 : Nat) : Int) := by rw [IntWalk.i64_in _ (by omega)]; rfl
    clear hv hF hln hI hfi hk hpk hno hkn
    go_enter Tryd.func39, Tryd.ntmps39
    go_wp2_with fail
    refine HI.out.mono ?_
    rintro e w1 ⟨rfl, g1⟩
    have HV1 := Lib.hid (own_keep HV.out g1 (fun x _ e => by cases e))
    have HG1 := Lib.hid (grownBy_any g1 (some g))
    clear g1 HI
    go_wp2_with fail
    go_loopw [5, 6, 7] (fun s5 s6 _ wr => ∃ (i j : Nat) (cur : List ByteArray), s5 = .int .i64 i ∧ s6 = .int .i64 j ∧ Hid (j ≤ n ∧ KeptL (fun x => !P x) L cur i j) ∧ Hid (wr.ownsRow B 9 1 (.slice (some ⟨g, 0, none⟩) n c) n (strsV cur)) ∧ Hid (w.grownBy wr (some g))) (fun _ jv _ _ => n - (intOf jv).toNat)
    case atStart => exact ⟨k, k + 1, L, rfl, by first | rfl | (rw [r1]) | (simp only [r1]) | trace_state, Lib.hid ⟨HKN.out, HK0.out⟩, HV1.out, HG1.out⟩
    case round =>
      obtain ⟨i, j, cur, rfl, rfl, HK, HO, HG⟩ := hrel
      have hjn := HK.out.1
      have hij := HK.out.2.lt
      by_cases hlt : j < n
      · have d1 : (j : Int) < (n : Int) := by omega
        have d0 : (0 : Int) ≤ (j : Int) := by omega
        have d2 : (i : Int) < (n : Int) := by omega
        have d3 : (0 : Int) ≤ (i : Int) := by omega
        obtain ⟨x, hx⟩ : ∃ x, L[j]? = some x := ⟨_, List.getElem?_eq_getElem (by have := HLN.out; omega)⟩
        have hxc : cur[j]? = some x := by rw [HK.out.2.at_ j (Nat.le_refl _)]; exact hx
        have hc := str_cell HO.out hxc
        obtain ⟨y, hy⟩ : ∃ y, cur[i]? = some y := ⟨_, List.getElem?_eq_getElem (by have := HK.out.2.len; have := HLN.out; omega)⟩
        have hci := str_cell HO.out hy
        have hfi := HO.out.frozenAt i
        have hfx := HF.out x wr (List.mem_of_getElem? hx) HG.out
        have HX := Lib.hid hx
        clear hx hxc hy
        cases hP : P x
        · rw [hP] at hfx
          have HFX := Lib.hid hfx
          have HPX := Lib.hid hP
          clear hfx hP
          go_wp2_with fail
          refine HFX.out.mono ?_
          rintro e w3 ⟨rfl, g3⟩
          have ho3 := own_keep HO.out g3 (fun x _ e => by cases e)
          have HG3 := Lib.hid (grownBy_trans HG.out (grownBy_any g3 (some g)))
          have hci3 : w3.cell? ⟨g, i, none⟩ = some (.string y) := (g3.cell hci (by simp))
          have hfi3 := ho3.frozenAt i
          have HO3 := Lib.hid ho3
          clear g3 hc hci hfi ho3
          go_wp2_with fail
          go_roundw
          case rel =>
            have hst := HO3.out.stored i (.string x)
            rw [strsV_set] at hst
            exact ⟨i + 1, j + 1, cur.set i x, by go_num, by go_num, Lib.hid ⟨by omega, HK.out.2.keep HX.out (by simp [HPX.out])⟩, hst.1, grownBy_trans HG3.out hst.2⟩
          case measure => simp [intOf]; omega
        · rw [hP] at hfx
          have HFX := Lib.hid hfx
          have HPX := Lib.hid hP
          clear hfx hP
          go_wp2_with fail
          refine HFX.out.mono ?_
          rintro e w3 ⟨rfl, g3⟩
          have ho3 := own_keep HO.out g3 (fun x _ e => by cases e)
          have HG3 := Lib.hid (grownBy_trans HG.out (grownBy_any g3 (some g)))
          have HO3 := Lib.hid ho3
          clear g3 hc hci hfi ho3
          go_wp2_with fail
          go_roundw
          case rel => exact ⟨i, j + 1, cur, rfl, by go_num, Lib.hid ⟨by omega, HK.out.2.skip HX.out (by simp [HPX.out])⟩, HO3.out, HG3.out⟩
          case measure => simp [intOf]; omega
      · have hjn2 : j = n := by omega
        subst hjn2
        have d1 : ¬ (j : Int) < (j : Int) := by omega
        have HIJ := Lib.hid hij
        have hcl : ∀ ty, (Builtin.clear_ #[34] ty #[.slice (some ⟨g, i, none⟩) (j - i) (c - i)]).run Tryd.prog wr = .ok (.tuple #[]) (wr.setCells g i (List.replicate (j - i) (.string ⟨#[]⟩))) :=
          fun ty => clear_strs wr ty g i (j - i) (c - i) (by omega) (fun t ht => by
            rw [HO.out.cellAt (i + t) (by omega), List.getElem?_eq_getElem (by have := HO.out.1; omega)]; rfl) (fun t _ => HO.out.frozenAt (i + t))
        have hset := own_setCells (List.replicate (j - i) (.string ⟨#[]⟩)) (strsV cur) i wr HO.out
        have HSET := Lib.hid hset
        have d4 : (i : Int) ≤ (j : Int) := by omega
        have d5 : (0 : Int) ≤ (i : Int) := by omega
        have d6 : (j : Int) ≤ (c : Int) := by omega
        have d7 : (i : Int) ≤ (c : Int) := by omega
        clear hset
        go_wp2_with fail
        go_ret
        have hcount := (show KeptL (fun x => !P x) L cur i L.length by rw [HLN.out]; exact HK.out.2).count
        refine ⟨i, rfl, ?_, grownBy_trans HG.out HSET.out.2⟩
        have ht := own_take HSET.out.1 i (by have := HIJ.out; omega)
        rw [setL_take, strsV_take, hcount.2] at ht
        exact ht
end Go.Proofs.YtheabbknflmnfaaDoor

namespace Go.Proofs.YtheabbknflmnfaaDoor
open Go.RowKit Go.Maps
attribute [local irreducible] shaL

theorem delete_nil (c1 c2 : Value) (w : World) : Calls Tryd.prog 39 #[.slice none 0 0, .func (Fn.func 72) #[] #[c1, c2]] w fun e w' => e = .returned (.slice none 0 0) ∧ w.grownBy w' none := by
  have HI := Lib.hid (index_alike (fun _ => false) none 0 0 [] w c1 c2 ⟨none, 0, rfl, fun i hi => absurd hi (Nat.not_lt_zero i)⟩ (by omega) (fun k w' hk _ => by cases hk))
  have hI : firstI [] (fun _ => false) = -1 := rfl
  rw [hI] at HI
  clear hI
  go_enter Tryd.func39, Tryd.ntmps39
  go_wp2_with fail
  refine HI.out.mono ?_
  rintro e w1 ⟨rfl, g1⟩
  go_wp2_with fail
  go_ret
  exact ⟨rfl, g1⟩
def likeL (key : ByteArray) (d : Nat) (L : List ByteArray) : List ByteArray := L.filter fun x => belowB x key d
set_option maxRecDepth 100000 in
set_option maxHeartbeats 1600000 in
theorem alike_any (B : Nat) (v : Value) (L : List ByteArray) (key : ByteArray) (z : Int) (w : World) (hv : w.ownsRow B 9 1 v L.length (strsV L)) (hl : L.length ≤ 1000000) (hs : ∀ s ∈ L, s.size ≤ maxLen) (hk : key.size ≤ maxLen) :
    Calls Tryd.prog 45 #[v, .string key, .int .i64 z] w fun e w' => ∃ v', e = .returned v' ∧ v'.ownBlock = v.ownBlock ∧ w'.ownsRow B 9 1 v' (likeL key (capD z) L).length (strsV (likeL key (capD z) L)) ∧ w.grownBy w' v.ownBlock := by
  have hlt := hv.lt
  have hb1 := heap_alloc_at w (.cells #[.string key] 9) _ rfl
  have hg1 : w.grownBy (w.alloc (.cells #[.string key] 9)) none := World.grownBy_alloc _ _ _
  have hb2 := heap_alloc_at (w.alloc (.cells #[.string key] 9)) (.cells #[.int .i64 z] 3) _ rfl
  have hg2 : (w.alloc (.cells #[.string key] 9)).grownBy ((w.alloc (.cells #[.string key] 9)).alloc (.cells #[.int .i64 z] 3)) none := World.grownBy_alloc _ _ _
  have hb3 := hg2.heap hb1 (by simp)
  have hg3 := grownBy_trans hg1 hg2
  have hsz : (w.alloc (.cells #[.string key] 9)).heap.size = w.heap.size + 1 := by simp
  rw [hsz] at hb2
  have h1 : ((w.alloc (.cells #[.string key] 9)).alloc (.cells #[.int .i64 z] 3)).cell? ⟨w.heap.size, 0, none⟩ = some (.string key) := by rw [cell_of hb3 0]; rfl
  have h2 : ((w.alloc (.cells #[.string key] 9)).alloc (.cells #[.int .i64 z] 3)).cell? ⟨w.heap.size + 1, 0, none⟩ = some (.int .i64 z) := by rw [cell_of hb2 0]; rfl
  have HD : Hid (Calls Tryd.prog 39 #[v, .func (Fn.func 72) #[] #[.pointer (some ⟨w.heap.size, 0, none⟩), .pointer (some ⟨w.heap.size + 1, 0, none⟩)]] ((w.alloc (.cells #[.string key] 9)).alloc (.cells #[.int .i64 z] 3)) fun e w' => ∃ v', e = .returned v' ∧ v'.ownBlock = v.ownBlock ∧ w'.ownsRow B 9 1 v' (likeL key (capD z) L).length (strsV (likeL key (capD z) L)) ∧ w.grownBy w' v.ownBlock) := by
    have hv3 := own_keep hv hg3 (fun x _ e => by cases e)
    rcases hv.2 with ⟨rfl, h0⟩ | ⟨g, cap, cur, rfl, hB, hg, hnc, hm, hcs, htake⟩
    · obtain rfl : L = [] := List.length_eq_zero_iff.1 h0
      refine (delete_nil _ _ _).mono ?_
      rintro e w' ⟨rfl, g'⟩
      exact ⟨_, rfl, rfl, World.ownsRow_nil _ _ _ _, grownBy_trans hg3 g'⟩
    · have hgl := (hlt g rfl).2
      refine (delete_alike (fun x => !belowB x key (capD z)) B g L.length cap L _ _ _ hv3 hl hnc (fun k w' hk' g' => ?_)).mono ?_
      · exact alike1_any k key z w.heap.size (w.heap.size + 1) (hs k hk') hk w' (g'.cell h1 (by simp; omega)) (g'.cell h2 (by simp; omega))
      · rintro e w' ⟨m, rfl, ho, g'⟩
        have e1 : (L.filter fun x => !!belowB x key (capD z)) = likeL key (capD z) L := by simp [likeL]
        rw [e1] at ho
        have hm2 : m = (likeL key (capD z) L).length := by have := ho.1; rw [strsV_length] at this; omega
        rw [hm2] at ho ⊢
        exact ⟨_, rfl, rfl, ho, grownBy_trans (grownBy_any hg3 _) g'⟩
  clear hv hl hs hk hlt hb1 hg1 hb2 hg2 hb3 hg3 hsz h1 h2
  go_enter Tryd.func45, Tryd.ntmps45
  go_wp2_with fail
  refine HD.out.mono ?_
  rintro e w' ⟨v', rfl, hx⟩
  have HX := Lib.hid hx
  clear hx
  go_wp2_with fail
  go_ret
  exact ⟨v', rfl, HX.out⟩
end Go.Proofs.YtheabbknflmnfaaDoor

namespace Go.Proofs.YtheabbknflmnfaaDoor
open Go.RowKit Go.Maps
attribute [local irreducible] shaL

/-- a node that may be -/
def okN (n : ByteArray) : Bool := decide (n = emptyS) || (beginsB n 1 || beginsB n 2)
/-- a last one that may be -/
def endN (L : List ByteArray) (t : Bool) : Bool := match L.getLast? with | none => true | some l => beginsB l 2 || (t && !decide (l = emptyS))
def besideB (L : List ByteArray) (t : Bool) : Bool := L.all okN && endN L t
set_option maxRecDepth 100000 in
set_option maxHeartbeats 3200000 in
theorem beside_may (v : Value) (L : List ByteArray) (t : Bool) (k y : ByteArray) (w : World) (hv : StrsAt w v L) (hl : L.length ≤ 1000000) (hs : ∀ s ∈ L, s.size ≤ maxLen) :
    Calls Tryd.prog 47 #[.agg #[v, .bool t, .string k, .string y]] w fun e w' => e = .returned (.bool (besideB L t)) ∧ w.grownBy w' none := by
  obtain ⟨a, cap, rfl, hc⟩ := hv
  have HC := Lib.hid hc
  have HS := Lib.hid hs
  obtain ⟨n, hn⟩ : ∃ n, L.length = n := ⟨_, rfl⟩
  rw [hn] at hl ⊢
  have HN := Lib.hid hn
  have hg1 : w.grownBy (w.alloc (.cells #[.slice a n cap, .bool t, .string k, .string y] 51)) none := World.grownBy_alloc _ _ _
  have hb1 := heap_alloc_at w (.cells #[.slice a n cap, .bool t, .string k, .string y] 51) _ rfl
  have HBG := Lib.hid (fun (s : ByteArray) (q : s.size ≤ maxLen) (m : UInt8) (w0 : World) => begins_any s q m w0)
  clear hc hs hn
  go_enter Tryd.func47, Tryd.ntmps47
  go_wp2_with fail
  generalize w.alloc (.cells #[.slice a n cap, .bool t, .string k, .string y] 51) = w1 at *
  obtain ⟨XB, hXB⟩ : ∃ XB, w.heap.size = XB := ⟨_, rfl⟩
  rw [hXB] at hb1 ⊢
  have HG1 := Lib.hid (And.intro hg1 hb1)
  clear hg1 hb1 hXB
  go_loopw [4, 9, 10, 11, 12, 13, 14, 15, 16, 17, 18, 19, 20, 21, 22, 23, 24, 25] (fun _ iv _ _ _ _ _ _ _ _ _ _ _ _ _ _ _ _ wr => ∃ (i : Nat), i ≤ n ∧ iv = .int .i64 i ∧ Hid ((L.take i).all okN = true) ∧ Hid (w1.grownBy wr none)) (fun _ iv _ _ _ _ _ _ _ _ _ _ _ _ _ _ _ _ _ => n - (intOf iv).toNat)
  case atStart => exact ⟨0, Nat.zero_le _, rfl, rfl, World.grownBy.refl _ _⟩
  case round =>
    obtain ⟨i, hi, rfl, HK, HG⟩ := hrel
    by_cases hlt : i < n
    · have d1 : (i : Int) < (n : Int) := by omega
      have d0 : (0 : Int) ≤ (i : Int) := by omega
      have hil : i < L.length := by have := HN.out; omega
      obtain ⟨g, o, rfl, h1⟩ := HC.out i hil
      have hsz := HS.out L[i] (List.getElem_mem _)
      have htk : (L.take (i + 1)).all okN = ((L.take i).all okN && okN L[i]) := by rw [List.take_succ_eq_append_getElem hil, List.all_append]; simp
      rw [HK.out, Bool.true_and] at htk
      have hno : okN L[i] = false → besideB L t = false := fun h => by
        have : L.all okN = false := by rw [List.all_eq_false]; exact ⟨L[i], List.getElem_mem _, by rw [h]; simp⟩
        unfold besideB
        rw [this, Bool.false_and]
      obtain ⟨x, hx⟩ : ∃ x, L[i] = x := ⟨_, rfl⟩
      rw [hx] at h1 hsz htk hno
      have c1 := HG1.out.1.cell h1 (by simp)
      have c1 := HG.out.cell c1 (by simp)
      have B1 := Lib.hid (HBG.out x hsz 1)
      have B2 := Lib.hid (HBG.out x hsz 2)
      have e0 := is_empty x
      have HTK := Lib.hid (And.intro htk hno)
      have hok : okN x = (decide (x = emptyS) || (beginsB x 1 || beginsB x 2)) := rfl
      have HOK := Lib.hid hok
      clear h1 hsz htk hno hx hok
      by_cases h0 : x = emptyS
      · have e1 : (x.toList == [0]) = true := by rw [e0]; simpa using h0
        have HY : Hid ((L.take (i + 1)).all okN = true) := Lib.hid (by rw [HTK.out.1, HOK.out]; simp [h0])
        clear e0 h0
        go_wp2_with fail
        go_roundw
        case rel => exact ⟨i + 1, by omega, by go_num, HY.out, HG.out⟩
        case measure => simp [intOf]; omega
      · have e1 : (x.toList == [0]) = false := by rw [e0]; simpa using h0
        have h0' : decide (x = emptyS) = false := by simpa using h0
        rw [h0'] at HOK
        clear e0 h0 h0'
        obtain ⟨p1, hp1⟩ : ∃ p, beginsB x 1 = p := ⟨_, rfl⟩
        obtain ⟨p2, hp2⟩ : ∃ p, beginsB x 2 = p := ⟨_, rfl⟩
        rw [hp1] at B1 HOK
        rw [hp2] at B2 HOK
        clear hp1 hp2
        cases p1
        · cases p2
          · have HY : Hid (besideB L t = false) := Lib.hid (HTK.out.2 HOK.out)
            go_wp2_with fail
            refine (B1.out _).mono ?_
            rintro e w3 ⟨rfl, rfl⟩
            go_wp2_with fail
            refine (B2.out _).mono ?_
            rintro e w3 ⟨rfl, rfl⟩
            go_wp2_with fail
            go_ret
            exact ⟨by rw [HY.out]; rfl, grownBy_trans HG1.out.1 HG.out⟩
          · have HY : Hid ((L.take (i + 1)).all okN = true) := Lib.hid (by rw [HTK.out.1, HOK.out]; rfl)
            go_wp2_with fail
            refine (B1.out _).mono ?_
            rintro e w3 ⟨rfl, rfl⟩
            go_wp2_with fail
            refine (B2.out _).mono ?_
            rintro e w3 ⟨rfl, rfl⟩
            go_wp2_with fail
            go_roundw
            case rel => exact ⟨i + 1, by omega, by go_num, HY.out, HG.out⟩
            case measure => simp [intOf]; omega
        · have HY : Hid ((L.take (i + 1)).all okN = true) := Lib.hid (by rw [HTK.out.1, HOK.out]; cases p2 <;> rfl)
          go_wp2_with fail
          refine (B1.out _).mono ?_
          rintro e w3 ⟨rfl, rfl⟩
          go_wp2_with fail
          go_roundw
          case rel => exact ⟨i + 1, by omega, by go_num, HY.out, HG.out⟩
          case measure => simp [intOf]; omega
    · have d1 : ¬ (i : Int) < (n : Int) := by omega
      have hall : L.all okN = true := by
        have h := HK.out
        rwa [List.take_of_length_le (by have := HN.out; omega)] at h
      have hbs : besideB L t = endN L t := by unfold besideB; rw [hall, Bool.true_and]
      have HBS := Lib.hid hbs
      clear hall hbs HK
      have x0 := cell_of (HG.out.heap HG1.out.2 (by simp)) 0
      have x1 := cell_of (HG.out.heap HG1.out.2 (by simp)) 1
      simp at x0 x1
      by_cases hn0 : n = 0
      · have hnil : L = [] := List.length_eq_zero_iff.1 (by have := HN.out; omega)
        have d2 : ((n : Int) == 0) = true := by simp [hn0]
        have HE : Hid (endN L t = true) := Lib.hid (by rw [hnil]; rfl)
        clear hnil
        go_wp2_with fail
        go_ret
        exact ⟨by rw [HBS.out, HE.out]; rfl, grownBy_trans HG1.out.1 HG.out⟩
      · have d2 : ((n : Int) == 0) = false := by simp [hn0]
        obtain ⟨j, hj⟩ : ∃ j, n = j + 1 := ⟨n - 1, by omega⟩
        have hji : (n : Int) - 1 = (j : Int) := by omega
        have j0 : (0 : Int) ≤ (j : Int) := by omega
        have j1 : (j : Int) < (n : Int) := by omega
        have hjl : j < L.length := by have := HN.out; omega
        obtain ⟨g, o, rfl, h1⟩ := HC.out j hjl
        have hsz := HS.out L[j] (List.getElem_mem _)
        have hlast : L.getLast? = some L[j] := by rw [List.getLast?_eq_getElem?, show L.length - 1 = j by have := HN.out; omega, List.getElem?_eq_getElem hjl]
        have hend : endN L t = (beginsB L[j] 2 || (t && !decide (L[j] = emptyS))) := by unfold endN; rw [hlast]
        generalize L[j] = x at h1 hsz hend
        have c1 := HG1.out.1.cell h1 (by simp)
        have c1 := HG.out.cell c1 (by simp)
        have B2 := Lib.hid (HBG.out x hsz 2)
        have e0 := is_empty x
        have HE := Lib.hid hend
        clear h1 hsz hlast hend hj hn0
        obtain ⟨p2, hp2⟩ : ∃ p, beginsB x 2 = p := ⟨_, rfl⟩
        rw [hp2] at B2 HE
        clear hp2
        cases p2
        · cases t
          · clear e0
            go_wp2_with fail
            refine (B2.out _).mono ?_
            rintro e w3 ⟨rfl, rfl⟩
            go_wp2_with fail
            go_ret
            exact ⟨by rw [HBS.out, HE.out]; rfl, grownBy_trans HG1.out.1 HG.out⟩
          · by_cases h0 : x = emptyS
            · have e1 : (x.toList == [0]) = true := by rw [e0]; simpa using h0
              have HF : Hid (decide (x = emptyS) = true) := Lib.hid (by simpa using h0)
              clear e0 h0
              go_wp2_with fail
              refine (B2.out _).mono ?_
              rintro e w3 ⟨rfl, rfl⟩
              go_wp2_with fail
              go_ret
              exact ⟨by rw [HBS.out, HE.out, HF.out]; rfl, grownBy_trans HG1.out.1 HG.out⟩
            · have e1 : (x.toList == [0]) = false := by rw [e0]; simpa using h0
              have HF : Hid (decide (x = emptyS) = false) := Lib.hid (by simpa using h0)
              clear e0 h0
              go_wp2_with fail
              refine (B2.out _).mono ?_
              rintro e w3 ⟨rfl, rfl⟩
              go_wp2_with fail
              go_ret
              exact ⟨by rw [HBS.out, HE.out, HF.out]; rfl, grownBy_trans HG1.out.1 HG.out⟩
        · clear e0
          go_wp2_with fail
          refine (B2.out _).mono ?_
          rintro e w3 ⟨rfl, rfl⟩
          go_wp2_with fail
          go_ret
          exact ⟨by rw [HBS.out, HE.out]; rfl, grownBy_trans HG1.out.1 HG.out⟩
end Go.Proofs.YtheabbknflmnfaaDoor

namespace Go.Proofs.YtheabbknflmnfaaDoor
open Go.RowKit Go.Maps
attribute [local irreducible] shaL

def goodB (L : List ByteArray) (t : Bool) (pk pv key : ByteArray) (d : Nat) : Bool :=
  besideB L t && (if t then decide (pk.size = 16) && belowB pk key (d + L.length) else decide (pk.size = 0) && decide (pv.size = 0))
theorem is_nil (s : ByteArray) : (s.toList == []) = decide (s.size = 0) := by
  rw [ByteArray.toList_eq, Bool.eq_iff_iff, beq_iff_eq, decide_eq_true_iff]
  show s.data.toList = [] ↔ s.data.size = 0
  rw [← Array.length_toList, List.length_eq_zero_iff]
set_option maxRecDepth 100000 in
set_option maxHeartbeats 3200000 in
theorem good_fine (v : Value) (L : List ByteArray) (t : Bool) (pk pv key : ByteArray) (d : Nat) (w : World) (hv : StrsAt w v L) (hs : ∀ s ∈ L, s.size ≤ maxLen) (hk : key.size = 16) (hd : d + L.length ≤ 128) (hpk : pk.size ≤ maxLen) :
    Calls Tryd.prog 28 #[.agg #[v, .bool t, .string pk, .string pv], .string key, .int .i64 d] w fun e w' => e = .returned (.bool (goodB L t pk pv key d)) ∧ w.grownBy w' none := by
  have HMAY := Lib.hid (fun (w' : World) (q : w.grownBy w' none) => beside_may v L t pk pv w' (by
    obtain ⟨a, cap, e, hc⟩ := hv
    refine ⟨a, cap, e, fun i hi => ?_⟩
    obtain ⟨g, o, e2, h1⟩ := hc i hi
    exact ⟨g, o, e2, q.cell h1 (by simp)⟩) (by omega) hs)
  obtain ⟨a, cap, rfl, hc⟩ := hv
  have HBEL := Lib.hid (fun (w' : World) => below_any pk key hpk (by unfold maxLen; omega) (d + L.length) (by omega) w')
  have HGD := Lib.hid (show goodB L t pk pv key d = (besideB L t && (if t then decide (pk.size = 16) && belowB pk key (d + L.length) else decide (pk.size = 0) && decide (pv.size = 0))) from rfl)
  obtain ⟨n, hn⟩ : ∃ n, L.length = n := ⟨_, rfl⟩
  rw [hn] at hd HBEL HGD ⊢
  rw [hn] at HMAY
  generalize goodB L t pk pv key d = G at HGD ⊢
  generalize besideB L t = MB at HGD HMAY
  obtain ⟨bb, hbb⟩ : ∃ b, belowB pk key (d + n) = b := ⟨_, rfl⟩
  rw [hbb] at HBEL HGD
  have k16 : ((key.size : Int) != 16) = false := by simp; omega
  have d0 : ¬ (d : Int) < 0 := by omega
  have n0 : (0 : Int) ≤ (n : Int) := by omega
  have n1 : (n : Int) ≤ 128 := by omega
  have n2 : ¬ (128 : Int) < (n : Int) := by omega
  have e0 : (0 : Int) ≤ (d : Int) := by omega
  have e1 : (d : Int) ≤ 128 := by omega
  have nd : ¬ (128 : Int) - (n : Int) < (d : Int) := by omega
  have wn : IntKind.i64.wrap ((128 : Int) - (n : Int)) = (128 : Int) - (n : Int) := by
    rw [show (128 : Int) - (n : Int) = ((128 - n : Nat) : Int) by omega]
    exact wrap_i64_nat _ (by omega)
  have wd : IntKind.i64.wrap ((d : Int) + (n : Int)) = (d : Int) + (n : Int) := wrap_i64_nat (d + n) (by omega)
  have HBEL2 : Hid (∀ w' : World, Calls Tryd.prog 48 #[.string pk, .string key, .int .i64 ((d : Int) + (n : Int))] w' fun e w'' => e = .returned (.bool bb) ∧ w'.grownBy w'' none) := HBEL
  have hg1 : w.grownBy (w.alloc (.cells #[.slice a n cap, .bool t, .string pk, .string pv] 51)) none := World.grownBy_alloc _ _ _
  have hb1 := heap_alloc_at w (.cells #[.slice a n cap, .bool t, .string pk, .string pv] 51) _ rfl
  have ek := is_nil pk
  have ev := is_nil pv
  have HP := Lib.hid hpk
  clear hc hn hs hbb HBEL hpk hk hd
  go_enter Tryd.func28, Tryd.ntmps28
  go_wp2_with fail
  refine (HMAY.out _ hg1).mono ?_
  rintro e w2 ⟨rfl, g2⟩
  have hb2 := g2.heap hb1 (by simp)
  have hg2 := grownBy_trans hg1 g2
  generalize w.alloc (.cells #[.slice a n cap, .bool t, .string pk, .string pv] 51) = w1 at *
  obtain ⟨XB, hXB⟩ : ∃ XB, w.heap.size = XB := ⟨_, rfl⟩
  rw [hXB] at hb2 ⊢
  have x0 := cell_of hb2 0
  have x1 := cell_of hb2 1
  have x2 := cell_of hb2 2
  have x3 := cell_of hb2 3
  simp at x0 x1 x2 x3
  have HG2 := Lib.hid hg2
  clear hg1 hb1 hXB g2 hg2 hb2 HMAY
  cases MB
  · have HE : Hid (G = false) := Lib.hid (by rw [HGD.out]; rfl)
    clear ek ev
    go_wp2_with fail
    go_ret
    exact ⟨by rw [HE.out]; rfl, HG2.out⟩
  · cases t
    · by_cases h1 : pk.size = 0
      · have q1 : (pk.toList == []) = true := by rw [ek]; simpa using h1
        by_cases h2 : pv.size = 0
        · have q2 : (pv.toList == []) = true := by rw [ev]; simpa using h2
          have HE : Hid (G = true) := Lib.hid (by rw [HGD.out]; simp [h1, h2])
          clear ek ev h1 h2
          go_wp2_with fail
          go_ret
          exact ⟨by rw [HE.out]; rfl, HG2.out⟩
        · have q2 : (pv.toList == []) = false := by rw [ev]; simpa using h2
          have HE : Hid (G = false) := Lib.hid (by rw [HGD.out]; simp [h2])
          clear ek ev h1 h2
          go_wp2_with fail
          go_ret
          exact ⟨by rw [HE.out]; rfl, HG2.out⟩
      · have q1 : (pk.toList == []) = false := by rw [ek]; simpa using h1
        have HE : Hid (G = false) := Lib.hid (by rw [HGD.out]; simp [h1])
        clear ek ev h1
        go_wp2_with fail
        go_ret
        exact ⟨by rw [HE.out]; rfl, HG2.out⟩
    · clear ek ev
      by_cases h1 : pk.size = 16
      · have q1 : ((pk.size : Int) == 16) = true := by simp; omega
        have HE : Hid (G = bb) := Lib.hid (by rw [HGD.out]; simp [h1])
        have hpm : (pk.size : Int) ≤ 9223372036854775807 := by omega
        clear h1
        go_wp2_with fail
        refine (HBEL2.out _).mono ?_
        rintro e w3 ⟨rfl, g3⟩
        have HG3 := Lib.hid (grownBy_trans HG2.out g3)
        clear g3
        go_wp2_with fail
        go_ret
        exact ⟨by rw [HE.out]; rfl, HG3.out⟩
      · have q1 : ((pk.size : Int) == 16) = false := by simp; omega
        have HE : Hid (G = false) := Lib.hid (by rw [HGD.out]; simp [h1])
        clear h1
        go_wp2_with fail
        go_ret
        exact ⟨by rw [HE.out]; rfl, HG2.out⟩
/-- a key that is none: no proof is good for it -/
theorem good_short (v : Value) (t : Bool) (pk pv key : ByteArray) (z : Int) (w : World) (hk : key.size ≠ 16) :
    Calls Tryd.prog 28 #[.agg #[v, .bool t, .string pk, .string pv], .string key, .int .i64 z] w fun e w' => e = .returned (.bool false) ∧ w.grownBy w' none := by
  have k16 : ((key.size : Int) != 16) = true := by simp; omega
  have hg1 : w.grownBy (w.alloc (.cells #[v, .bool t, .string pk, .string pv] 51)) none := World.grownBy_alloc _ _ _
  have HG1 := Lib.hid hg1
  clear hg1 hk
  go_enter Tryd.func28, Tryd.ntmps28
  go_wp2_with fail
  go_ret
  exact ⟨rfl, HG1.out⟩
end Go.Proofs.YtheabbknflmnfaaDoor

namespace Go.Proofs.YtheabbknflmnfaaDoor
attribute [local irreducible] shaL

/-- those on the key's own side, and those on the other one -/
def onS (key : ByteArray) (d : Nat) (l : List PairS) : List PairS := side (bitS key d) d l
def offS (key : ByteArray) (d : Nat) (l : List PairS) : List PairS := side (1 - bitS key d) d l
/-- what stands beside the way to a key -/
def wayB (key : ByteArray) : Nat → List PairS → Nat → List ByteArray
  | 0, _, _ => []
  | f + 1, l, d => if l.length < 2 then [] else nodeN f (offS key d l) (d + 1) :: wayB key f (onS key d l) (d + 1)
/-- who is at its end -/
def restB (key : ByteArray) : Nat → List PairS → Nat → List PairS
  | 0, l, _ => l
  | f + 1, l, d => if l.length < 2 then l else restB key f (onS key d l) (d + 1)
def endS : List PairS → ByteArray
  | [] => emptyS
  | x :: _ => leafS x.1 x.2
/-- up from a node, past what stands beside -/
def climbN (key : ByteArray) : Nat → List ByteArray → ByteArray → ByteArray
  | _, [], x => x
  | d, b :: r, x => if bitS key d = 1 then joinN b (climbN key (d + 1) r x) else joinN (climbN key (d + 1) r x) b
theorem endS_few (f : Nat) (l : List PairS) (d : Nat) (h : l.length ≤ 1) : endS l = nodeN f l d := by
  match l, h with
  | [], _ => rw [nodeN_nil]; rfl
  | [x], _ => rw [nodeN_one]; rfl
theorem way_climb (key : ByteArray) : ∀ (f d : Nat) (l : List PairS), d + f = 128 → Alike d l → climbN key d (wayB key f l d) (endS (restB key f l d)) = nodeN f l d := by
  intro f
  induction f with
  | zero =>
    intro d l hd hA
    exact endS_few 0 l d (hA.few (by omega))
  | succ f ih =>
    intro d l hd hA
    unfold wayB restB
    by_cases h : l.length < 2
    · rw [if_pos h, if_pos h]
      exact endS_few (f + 1) l d (by omega)
    · rw [if_neg h, if_neg h, nodeN_more f d l (by omega)]
      unfold climbN
      rw [ih (d + 1) (onS key d l) (by omega) hA.side]
      have hb := bitS_le key d
      unfold onS offS
      by_cases h1 : bitS key d = 1
      · rw [if_pos h1, h1]
      · have h0 : bitS key d = 0 := by omega
        rw [if_neg h1, h0]
theorem rest_few (key : ByteArray) : ∀ (f d : Nat) (l : List PairS), d + f = 128 → Alike d l → (restB key f l d).length ≤ 1 := by
  intro f
  induction f with
  | zero =>
    intro d l hd hA
    exact hA.few (by omega)
  | succ f ih =>
    intro d l hd hA
    unfold restB
    by_cases h : l.length < 2
    · rw [if_pos h]; omega
    · rw [if_neg h]
      exact ih (d + 1) (onS key d l) (by omega) hA.side
theorem way_len (key : ByteArray) : ∀ (f d : Nat) (l : List PairS), (wayB key f l d).length ≤ f := by
  intro f
  induction f with
  | zero => intro d l; exact Nat.le_refl _
  | succ f ih =>
    intro d l
    unfold wayB
    by_cases h : l.length < 2
    · rw [if_pos h]; exact Nat.zero_le _
    · rw [if_neg h, List.length_cons]
      have := ih (d + 1) (onS key d l)
      omega
theorem start_on (M : List PairS) (key : ByteArray) (d : Nat) : onS key d (startM M key d) = startM M key (d + 1) := (start_half (fun _ _ => rfl) rfl).symm
/-- at its end: those that begin as the key does, by as many bits as the way is long -/
theorem rest_start (M : List PairS) (key : ByteArray) : ∀ (f d : Nat), restB key f (startM M key d) d = startM M key (d + (wayB key f (startM M key d) d).length) := by
  intro f
  induction f with
  | zero => intro d; rfl
  | succ f ih =>
    intro d
    unfold restB wayB
    by_cases h : (startM M key d).length < 2
    · rw [if_pos h, if_pos h]; rfl
    · rw [if_neg h, if_neg h, start_on, ih (d + 1), List.length_cons]
      congr 1
      omega
/-- two keys or more: a node that is no leaf's -/
theorem nodeN_both : ∀ (f d : Nat) (l : List PairS), d + f = 128 → Alike d l → 2 ≤ l.length → ∃ a b, nodeN f l d = bothS a b := by
  intro f
  induction f with
  | zero =>
    intro d l hd hA h
    have := hA.few (by omega)
    omega
  | succ f ih =>
    intro d l hd hA h
    rw [nodeN_more f d l h]
    have hl := side_len d l
    have hne : ∀ b, side b d l ≠ [] → nodeN f (side b d l) (d + 1) ≠ emptyS := fun b hq => nodeN_some f (d + 1) _ (by omega) hA.side hq
    unfold joinN
    by_cases h0 : side 0 d l = []
    · have h1 : 2 ≤ (side 1 d l).length := by rw [h0] at hl; simp at hl; omega
      obtain ⟨a, b, e⟩ := ih (d + 1) (side 1 d l) (by omega) hA.side h1
      rw [h0, nodeN_nil, e, if_neg (by rw [bothS_leaf]; exact fun q => by rcases q.2 with q | q; exact bothS_ne _ _ q; cases q), if_neg (fun q => bothS_ne _ _ q.1)]
      exact ⟨_, _, rfl⟩
    · by_cases h1 : side 1 d l = []
      · have h2 : 2 ≤ (side 0 d l).length := by rw [h1] at hl; simp at hl; omega
        obtain ⟨a, b, e⟩ := ih (d + 1) (side 0 d l) (by omega) hA.side h2
        rw [h1, nodeN_nil, e, if_neg (fun q => bothS_ne _ _ q.1), if_neg (by rw [bothS_leaf]; exact fun q => by cases q.2)]
        exact ⟨_, _, rfl⟩
      · rw [if_neg (fun q => hne 0 h0 q.1), if_neg (fun q => hne 1 h1 q.1)]
        exact ⟨_, _, rfl⟩
theorem node_ok {n : ByteArray} (h : NodeS n) : okN n = true := by
  unfold okN beginsB
  cases h
  · simp
  · rename_i k v
    have e : headB (leafS k v) = 1 := head_app 1 _
    rw [leafS_size, e]
    simp
  · rename_i a b
    have e : headB (bothS a b) = 2 := head_app 2 _
    rw [bothS_size, e]
    simp
theorem way_nodes (key : ByteArray) : ∀ (f d : Nat) (l : List PairS), ∀ n ∈ wayB key f l d, NodeS n := by
  intro f
  induction f with
  | zero => intro d l n h; cases h
  | succ f ih =>
    intro d l n h
    unfold wayB at h
    by_cases h2 : l.length < 2
    · rw [if_pos h2] at h; cases h
    · rw [if_neg h2] at h
      rcases List.mem_cons.1 h with rfl | h
      · exact nodeN_node _ _ _
      · exact ih _ _ n h
theorem off_len (key : ByteArray) (d : Nat) (l : List PairS) : (onS key d l).length + (offS key d l).length = l.length := by
  have h := side_len d l
  have hb := bitS_le key d
  unfold onS offS
  by_cases h1 : bitS key d = 1
  · rw [h1, Nat.sub_self]; omega
  · have h0 : bitS key d = 0 := by omega
    rw [h0]; exact h
theorem way_end (key : ByteArray) : ∀ (f d : Nat) (l : List PairS), d + f = 128 → Alike d l → endN (wayB key f l d) (decide ((restB key f l d) ≠ [])) = true := by
  intro f
  induction f with
  | zero => intro d l _ _; rfl
  | succ f ih =>
    intro d l hd hA
    unfold wayB restB
    by_cases h : l.length < 2
    · rw [if_pos h]; rfl
    · rw [if_neg h, if_neg h]
      have h1 := ih (d + 1) (onS key d l) (by omega) hA.side
      rcases hw : wayB key f (onS key d l) (d + 1) with _ | ⟨b, r⟩
      · have hfew : (onS key d l).length ≤ 1 := by
          match f, hw with
          | 0, _ => exact (Alike.side (b := bitS key d) hA).few (by omega)
          | f + 1, hw =>
            unfold wayB at hw
            by_cases q : (onS key d l).length < 2
            · omega
            · rw [if_neg q] at hw; cases hw
        have hrest : restB key f (onS key d l) (d + 1) = onS key d l := by
          match f with
          | 0 => rfl
          | f + 1 => unfold restB; rw [if_pos (by omega)]
        have hol := off_len key d l
        rw [hrest]
        unfold endN
        show (beginsB _ 2 || (_ && !decide (_ = emptyS))) = true
        by_cases h2 : 2 ≤ (offS key d l).length
        · obtain ⟨a, b, e⟩ := nodeN_both f (d + 1) (offS key d l) (by omega) hA.side h2
          have eh : headB (bothS a b) = 2 := head_app 2 _
          rw [e]
          show ((decide ((bothS a b).size = 17) && (headB (bothS a b) == 2)) || (_ && !decide (bothS a b = emptyS))) = true
          rw [bothS_size, eh]
          simp
        · have hon : onS key d l ≠ [] := fun q => by rw [q] at hol; simp at hol; omega
          have hoff : offS key d l ≠ [] := fun q => by rw [q] at hol; simp at hol; omega
          have hne := nodeN_some f (d + 1) (offS key d l) (by omega) hA.side hoff
          simp [hon, hne]
      · rw [hw] at h1
        unfold endN at h1 ⊢
        rw [List.getLast?_cons_cons]
        exact h1
/-- what stands beside a way may be -/
theorem way_may (key : ByteArray) (f d : Nat) (l : List PairS) (hd : d + f = 128) (hA : Alike d l) : besideB (wayB key f l d) (decide ((restB key f l d) ≠ [])) = true := by
  unfold besideB
  rw [way_end key f d l hd hA, Bool.and_true, List.all_eq_true]
  exact fun n hn => node_ok (way_nodes key f d l n hn)
/-- a way from further down: the same, without what stands beside above -/
theorem way_drop (M : List PairS) (key : ByteArray) : ∀ (k f a : Nat), k ≤ (wayB key f (startM M key a) a).length → wayB key (f - k) (startM M key (a + k)) (a + k) = (wayB key f (startM M key a) a).drop k := by
  intro k
  induction k with
  | zero => intro f a _; rfl
  | succ k ih =>
    intro f a h
    match f with
    | 0 => exact absurd h (Nat.not_succ_le_zero k)
    | f + 1 =>
      unfold wayB at h
      by_cases h2 : (startM M key a).length < 2
      · rw [if_pos h2] at h; exact absurd h (Nat.not_succ_le_zero k)
      · rw [if_neg h2, List.length_cons, start_on] at h
        have e := ih f (a + 1) (by omega)
        have e2 : wayB key (f + 1) (startM M key a) a = nodeN f (offS key a (startM M key a)) (a + 1) :: wayB key f (startM M key (a + 1)) (a + 1) := by
          rw [← start_on]
          show (if (startM M key a).length < 2 then [] else _) = _
          rw [if_neg h2]
        rw [e2, List.drop_succ_cons, ← e, show f + 1 - (k + 1) = f - k by omega, show a + (k + 1) = a + 1 + k by omega]
def keyOf : List PairS → ByteArray
  | [] => ⟨#[]⟩
  | x :: _ => x.1
def valOf : List PairS → ByteArray
  | [] => ⟨#[]⟩
  | x :: _ => x.2
/-- a tree's own proof is good -/
theorem way_good (M : List PairS) (key : ByteArray) (d : Nat) (hd : d ≤ 128) (hone : M.Pairwise (fun p q => p.1 ≠ q.1)) (h16 : ∀ x ∈ M, x.1.size = 16) :
    goodB (wayB key (128 - d) (startM M key d) d) (decide ((restB key (128 - d) (startM M key d) d) ≠ [])) (keyOf (restB key (128 - d) (startM M key d) d)) (valOf (restB key (128 - d) (startM M key d) d)) key d = true := by
  have hA := start_alike hone h16 key d
  have h1 := way_may key (128 - d) d (startM M key d) (by omega) hA
  have h2 := rest_start M key (128 - d) d
  unfold goodB
  rw [h1, Bool.true_and]
  generalize wayB key (128 - d) (startM M key d) d = L at h2
  rw [h2]
  rcases hr : startM M key (d + L.length) with _ | ⟨x, r⟩
  · rfl
  · have hx : x ∈ startM M key (d + L.length) := by rw [hr]; exact List.mem_cons_self
    have hx2 := List.mem_filter.1 hx
    have e1 : belowB x.1 key (d + L.length) = true := hx2.2
    have e2 := h16 x hx2.1
    rw [show decide (x :: r ≠ []) = true from rfl, if_pos rfl]
    show (decide (x.1.size = 16) && belowB x.1 key (d + L.length)) = true
    rw [e1, e2]
    rfl
end Go.Proofs.YtheabbknflmnfaaDoor

namespace Go.Proofs.YtheabbknflmnfaaDoor
attribute [local irreducible] shaL

theorem likeL_like (key : ByteArray) (d : Nat) (L : List ByteArray) : likeL key (d + 1) (likeL key d L) = likeL key (d + 1) L := by
  unfold likeL
  rw [List.filter_filter]
  refine List.filter_congr fun x _ => ?_
  rw [Bool.eq_iff_iff, Bool.and_eq_true]
  refine ⟨fun h => h.1, fun h => ⟨h, ?_⟩⟩
  exact (belowB_iff x key d).2 (fun i hi => (belowB_iff x key (d + 1)).1 h i (by omega))
theorem keysM_perm (M : List PairS) : (keysM M).Perm (M.map Prod.fst) := by
  have h1 : (keysM M).Perm (((M.filter fun _ => true).map fun x => x.1.data.toList).map str) := (List.mergeSort_perm _ _).map str
  rw [List.map_map] at h1
  have e : (M.filter fun _ => true) = M := List.filter_eq_self.2 (fun _ _ => rfl)
  rw [e] at h1
  exact h1
theorem like_perm (M : List PairS) (key : ByteArray) (d : Nat) : (likeL key d (keysM M)).Perm ((startM M key d).map Prod.fst) := by
  have h := (keysM_perm M).filter (fun x => belowB x key d)
  rw [List.filter_map] at h
  exact h
theorem like_len (M : List PairS) (key : ByteArray) (d : Nat) : (likeL key d (keysM M)).length = (startM M key d).length := by
  have := (like_perm M key d).length_eq
  rwa [List.length_map] at this
theorem like_one (M : List PairS) (key : ByteArray) (d : Nat) (h : (startM M key d).length = 1) : likeL key d (keysM M) = [keyOf (startM M key d)] := by
  have hp := like_perm M key d
  match hs : startM M key d, h with
  | [x], _ =>
    rw [hs] at hp
    exact List.perm_singleton.1 hp
theorem like_mem {M : List PairS} {key : ByteArray} {d : Nat} {s : ByteArray} (h16 : ∀ x ∈ M, x.1.size = 16) (h : s ∈ likeL key d (keysM M)) : s.size = 16 := by
  obtain ⟨x, hx, rfl⟩ := List.mem_map.1 ((keysM_perm M).mem_iff.1 (List.mem_filter.1 h).1)
  exact h16 x hx
theorem keys16 {M : List PairS} {s : ByteArray} (h16 : ∀ x ∈ M, x.1.size = 16) (h : s ∈ keysM M) : s.size = 16 := by
  obtain ⟨x, hx, rfl⟩ := List.mem_map.1 ((keysM_perm M).mem_iff.1 h)
  exact h16 x hx
theorem keys_len (M : List PairS) : (keysM M).length = M.length := by rw [(keysM_perm M).length_eq, List.length_map]
theorem val_one {M : List PairS} (hone : M.Pairwise (fun p q => p.1 ≠ q.1)) (key : ByteArray) (d : Nat) (h : (startM M key d).length = 1) : valM M (keyOf (startM M key d)) = valOf (startM M key d) := by
  match hs : startM M key d, h with
  | [x], _ =>
    have hx : x ∈ startM M key d := by rw [hs]; exact List.mem_cons_self
    exact valM_mem hone x (List.mem_filter.1 hx).1
/-- what stands beside the way to a key in a tree, from a depth on; who is at its end -/
def wayT (M : List PairS) (key : ByteArray) (d : Nat) : List ByteArray := wayB key (128 - d) (startM M key d) d
def restT (M : List PairS) (key : ByteArray) (d : Nat) : List PairS := restB key (128 - d) (startM M key d) d
theorem wayT_more {M : List PairS} {key : ByteArray} {d : Nat} (hd : d < 128) (h : 2 ≤ (startM M key d).length) : wayT M key d = nodeN (128 - (d + 1)) (offS key d (startM M key d)) (d + 1) :: wayT M key (d + 1) ∧ restT M key d = restT M key (d + 1) := by
  unfold wayT restT
  have e1 : ∀ (f : Nat) (l : List PairS) (d : Nat), wayB key (f + 1) l d = if l.length < 2 then [] else nodeN f (offS key d l) (d + 1) :: wayB key f (onS key d l) (d + 1) := fun _ _ _ => rfl
  have e2 : ∀ (f : Nat) (l : List PairS) (d : Nat), restB key (f + 1) l d = if l.length < 2 then l else restB key f (onS key d l) (d + 1) := fun _ _ _ => rfl
  rw [show 128 - d = (128 - (d + 1)) + 1 by omega, e1, e2, if_neg (by omega), if_neg (by omega), start_on]
  exact ⟨rfl, rfl⟩
theorem wayT_end {M : List PairS} {key : ByteArray} {d : Nat} (h : (startM M key d).length < 2) : wayT M key d = [] ∧ restT M key d = startM M key d := by
  unfold wayT restT
  match 128 - d with
  | 0 => exact ⟨rfl, rfl⟩
  | f + 1 =>
    unfold wayB restB
    rw [if_pos h, if_pos h]
    exact ⟨rfl, rfl⟩
theorem beside_node {M : List PairS} {key s : ByteArray} {d : Nat} (hd : d < 128) (hs : ∀ i, i < 128 → bitS s i = if i = d then 1 - bitS key i else bitS key i) : nodeAt M s (d + 1) = nodeN (128 - (d + 1)) (offS key d (startM M key d)) (d + 1) := by
  unfold nodeAt offS
  rw [start_half (k := key) (b := 1 - bitS key d) (fun i hi => by rw [hs i (by omega), if_neg (by omega)]) (by rw [hs d hd, if_pos rfl])]
theorem start_two {M : List PairS} (hone : M.Pairwise (fun p q => p.1 ≠ q.1)) (h16 : ∀ x ∈ M, x.1.size = 16) {key : ByteArray} {d : Nat} (hd : d ≤ 128) (h : 2 ≤ (startM M key d).length) : d < 128 := by
  rcases Nat.lt_or_ge d 128 with q | q
  · exact q
  · have := (start_alike hone h16 key d).few q
    omega
theorem capD_at (d : Nat) (h : d ≤ 128) : capD (d : Int) = d := by unfold capD; omega
end Go.Proofs.YtheabbknflmnfaaDoor
