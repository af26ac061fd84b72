/- The walk of IndexFunc, at the closures that are handed to it. · The walk of IndexFunc, at proof's alike's closure (SmtI's text, by program). · What DeleteFunc leaves in its row: plain words, and a row whose cells are set one by one. No walk. · The walk of DeleteFunc, at proof's alike's closure. · The walks of band's Count and Of. · The walk of proof's alike. · Pairs in memory; the walk of the document's Set, Leaf. · The walks of above, Node, Root. · Keys that rise, parted at a bit. No walk. · The walk of layer 15's law's key (by program out of PrfK). · The walk of the document's Count (layer 15). · The walk of proof's turned. · Out of the listed variables: package sha's two tables in memory; and a world for the witness. · Arguments opened: arrays of bytes, slices of integers. No walk. -/
import Derived.Test.YtgaenpbdfelhhaaDoorSmtC
import Derived.Test.YtgaenpbdfelhhaaDoorBandNodesB1
import Derived.Laws.IdiomCopy
import Derived.Lib.SliceRun
import Derived.Test.YtgaenpbdfelhhaaDoorBitsC
import Derived.Test.YtgaenpbdfelhhaaDoorBandNodesB2
import Derived.Test.YtgaenpbdfelhhaaDoorRefTag
import Derived.Maps.AppendAt
import Derived.Deep.RegionWith
import Derived.Deep.RegionHeld3
import Derived.Sort.Walk0
import Derived.Laws.BitsAllLaws
import Derived.Lib.ConvBytes
import Derived.Test.YtgaenpbdfelhhaaDoorCards
import Derived.Test.YtgaenpbdfelhhaaDoorTie
import Derived.Test.YtgaenpbdfelhhaaDoorShaCalls
import Derived.Lib.LaidIn
import Derived.Lib.LaidU8T
import Derived.Deep.DeepHandedRow
import Derived.Deep.DeepWitnessRowRef
import Derived.ProofKit
import Derived.OpenShut
import Derived.ShutString
import Derived.WideKeyArr2
import Derived.ChangeSlices
namespace Go.Proofs.YtgaenpbdfelhhaaDoor
open Go.RowKit Go.Maps
attribute [local irreducible] shaL

/-- the first one that is meant, or -1 -/
def firstI (L : List ByteArray) (P : ByteArray → Bool) : Int := match L.findIdx? P with
  | some i => i
  | none => -1
theorem firstI_at (L : List ByteArray) (P : ByteArray → Bool) (k : Nat) (hk : k < L.length) (hp : P L[k] = true) (hn : ∀ j, (h : j < L.length) → j < k → P L[j] = false) : firstI L P = k := by
  have : L.findIdx? P = some k := by
    rw [List.findIdx?_eq_some_iff_getElem]
    exact ⟨hk, hp, fun j hj => by simp [hn j (by omega) hj]⟩
  unfold firstI
  rw [this]
theorem firstI_none (L : List ByteArray) (P : ByteArray → Bool) (hn : ∀ j, (h : j < L.length) → P L[j] = false) : firstI L P = -1 := by
  have : L.findIdx? P = none := by
    rw [List.findIdx?_eq_none_iff]
    intro x hx
    obtain ⟨j, hj, rfl⟩ := List.getElem_of_mem hx
    exact hn j hj
  unfold firstI
  rw [this]
set_option maxRecDepth 100000 in
set_option maxHeartbeats 1600000 in
theorem index_bit (P : ByteArray → Bool) (a : Option Addr) (n c : Nat) (L : List ByteArray) (w : World) (c1 : Value) (hv : StrsAt w (.slice a n c) L) (hn : n ≤ 1000000)
    (hF : ∀ (k : ByteArray) (w' : World), k ∈ L → w.grownBy w' none → Calls Tryd.prog 80 #[.string k, c1] w' fun e w'' => e = .returned (.bool (P k)) ∧ w'.grownBy w'' none) :
    Calls Tryd.prog 61 #[.slice a n c, .func (Fn.func 80) #[] #[c1]] w fun e w' => e = .returned (.int .i64 (firstI L P)) ∧ w.grownBy w' none := by
  have hln : L.length = n := by obtain ⟨_, _, e, _⟩ := hv; injection e with _ e _; exact e.symm
  have HV := Lib.hid hv
  have HF := Lib.hid hF
  have HLN := Lib.hid hln
  clear hv hF hln
  go_enter Tryd.func61, Tryd.ntmps61
  go_wp2_with fail
  go_loopw [5, 8] (fun _ iv wr => ∃ k : Nat, k ≤ n ∧ iv = .int .i64 k ∧ Hid (∀ j, (h : j < L.length) → j < k → P L[j] = false) ∧ Hid (w.grownBy wr none)) (fun _ iv _ => n - (intOf iv).toNat)
  case atStart => exact ⟨0, Nat.zero_le _, rfl, Lib.hid (fun j _ h => absurd h (Nat.not_lt_zero j)), World.grownBy.refl _ _⟩
  case round =>
    obtain ⟨k, hk, rfl, HK, HG⟩ := hrel
    by_cases hlt : k < n
    · have d1 : (k : Int) < (n : Int) := by omega
      have d0 : (0 : Int) ≤ (k : Int) := by omega
      have hkl : k < L.length := by have := HLN.out; omega
      obtain ⟨x, hx⟩ : ∃ x, L[k]? = some x := ⟨_, List.getElem?_eq_getElem hkl⟩
      have hxe : L[k] = x := (List.getElem?_eq_some_iff.1 hx).2
      obtain ⟨g, o, rfl, hcell⟩ := HV.out.at_ k x hx
      have hc : wr.cell? ⟨g, o + k, none⟩ = some (.string x) := HG.out.cell hcell (by simp)
      have hfx := HF.out x wr (List.mem_of_getElem? hx) HG.out
      have HX := Lib.hid hxe
      clear hx hxe hcell
      cases hP : P x
      · rw [hP] at hfx
        have HFX := Lib.hid hfx
        have HPX := Lib.hid hP
        clear hfx hP
        go_wp2_with fail
        refine HFX.out.mono ?_
        rintro e w3 ⟨rfl, g3⟩
        have HG3 := Lib.hid (grownBy_trans HG.out g3)
        clear g3
        go_wp2_with fail
        go_roundw
        case rel =>
          refine ⟨k + 1, by omega, by go_num, Lib.hid (fun j h hj => ?_), HG3.out⟩
          by_cases hjk : j = k
          · subst hjk; rw [HX.out]; exact HPX.out
          · exact HK.out j h (by omega)
        case measure => simp [intOf]; omega
      · rw [hP] at hfx
        have HFX := Lib.hid hfx
        have HPX := Lib.hid hP
        clear hfx hP
        go_wp2_with fail
        refine HFX.out.mono ?_
        rintro e w3 ⟨rfl, g3⟩
        have HG3 := Lib.hid (grownBy_trans HG.out g3)
        clear g3
        go_wp2_with fail
        go_ret
        exact ⟨by rw [firstI_at L P k hkl (by rw [HX.out]; exact HPX.out) HK.out]; rfl, HG3.out⟩
    · have hkn : k = n := by omega
      subst hkn
      have d1 : ¬ (k : Int) < (k : Int) := by omega
      go_wp2_with fail
      go_ret
      exact ⟨by rw [firstI_none L P (fun j h => HK.out j h (by have := HLN.out; omega))]; rfl, HG.out⟩
end Go.Proofs.YtgaenpbdfelhhaaDoor

namespace Go.Proofs.YtgaenpbdfelhhaaDoor
open Go.RowKit Go.Maps

/-- j places have been looked at; what is kept of them, i texts, lies at the row's head; from place j on the row is as it was -/
structure KeptL (q : ByteArray → Bool) (L cur : List ByteArray) (i j : Nat) : Prop where
  len : cur.length = L.length
  lt : i < j
  low : cur.take i = (L.take j).filter q
  high : cur.drop j = L.drop j
theorem take_succ_at {L : List ByteArray} {j : Nat} {x : ByteArray} (h : L[j]? = some x) : L.take (j + 1) = L.take j ++ [x] := by
  rw [List.take_add_one, h]
  rfl
theorem KeptL.start (q : ByteArray → Bool) (L : List ByteArray) (k : Nat) (hk : k < L.length) (hp : q L[k] = false) (hn : ∀ j, (h : j < L.length) → j < k → q L[j] = true) : KeptL q L L k (k + 1) := by
  refine ⟨rfl, Nat.lt_succ_self _, ?_, rfl⟩
  rw [take_succ_at (List.getElem?_eq_getElem hk), List.filter_append, List.filter_eq_self.2]
  · simp [hp]
  · intro x hx
    obtain ⟨j, hj, rfl⟩ := List.getElem_of_mem hx
    simp at hj
    simp only [List.getElem_take]
    exact hn j (by omega) (by omega)
theorem KeptL.at_ {q : ByteArray → Bool} {L cur : List ByteArray} {i j : Nat} (h : KeptL q L cur i j) (t : Nat) (ht : j ≤ t) : cur[t]? = L[t]? := by
  have h1 : (cur.drop j)[t - j]? = (L.drop j)[t - j]? := by rw [h.high]
  rw [List.getElem?_drop, List.getElem?_drop, show j + (t - j) = t from by omega] at h1
  exact h1
theorem KeptL.keep {q : ByteArray → Bool} {L cur : List ByteArray} {i j : Nat} (h : KeptL q L cur i j) {x : ByteArray} (hx : L[j]? = some x) (hq : q x = true) : KeptL q L (cur.set i x) (i + 1) (j + 1) := by
  have hj : j < L.length := (List.getElem?_eq_some_iff.1 hx).1
  have hl := h.len
  have hlt := h.lt
  refine ⟨by simpa using hl, by omega, ?_, ?_⟩
  · rw [take_succ_at hx, List.filter_append, ← h.low, List.take_add_one, List.getElem?_set_self (by omega), List.take_set_of_le (Nat.le_refl _)]
    simp [hq]
  · rw [List.drop_set_of_lt (by omega)]
    have h1 := h.high
    have : (cur.drop j).drop 1 = (L.drop j).drop 1 := by rw [h1]
    simpa [List.drop_drop] using this
theorem KeptL.skip {q : ByteArray → Bool} {L cur : List ByteArray} {i j : Nat} (h : KeptL q L cur i j) {x : ByteArray} (hx : L[j]? = some x) (hq : q x = false) : KeptL q L cur i (j + 1) := by
  refine ⟨h.len, by have := h.lt; omega, ?_, ?_⟩
  · rw [take_succ_at hx, List.filter_append, ← h.low]
    simp [hq]
  · have h1 := h.high
    have : (cur.drop j).drop 1 = (L.drop j).drop 1 := by rw [h1]
    simpa [List.drop_drop] using this
theorem KeptL.count {q : ByteArray → Bool} {L cur : List ByteArray} {i : Nat} (h : KeptL q L cur i L.length) : (L.filter q).length = i ∧ cur.take i = L.filter q := by
  have h1 := h.low
  rw [List.take_length] at h1
  refine ⟨?_, h1⟩
  rw [← h1, List.length_take, h.len]
  have := h.lt
  omega
theorem KeptL.few {q : ByteArray → Bool} {L cur : List ByteArray} {i j : Nat} (h : KeptL q L cur i j) (hj : j ≤ L.length) : i < L.length := by have := h.lt; omega

/-- a list whose places from o on are set, one by one -/
def setL : List Value → Nat → List Value → List Value
  | xs, _, [] => xs
  | xs, o, v :: r => setL (xs.set o v) (o + 1) r
theorem setL_take : ∀ (vs xs : List Value) (o : Nat), (setL xs o vs).take o = xs.take o
  | [], _, _ => rfl
  | v :: r, xs, o => by
    have h1 := setL_take r (xs.set o v) (o + 1)
    have h2 : ((setL (xs.set o v) (o + 1) r).take (o + 1)).take o = ((xs.set o v).take (o + 1)).take o := by rw [h1]
    rw [List.take_take, List.take_take, Nat.min_eq_left (by omega)] at h2
    show (setL (xs.set o v) (o + 1) r).take o = xs.take o
    rw [h2, List.take_set_of_le (Nat.le_refl _)]
theorem own_setCells {base : Nat} {e : TypeId} {g n cap : Nat} : ∀ (vs xs : List Value) (o : Nat) (w : World), w.ownsRow base e 1 (.slice (some ⟨g, 0, none⟩) n cap) n xs →
    (w.setCells g o vs).ownsRow base e 1 (.slice (some ⟨g, 0, none⟩) n cap) n (setL xs o vs) ∧ w.grownBy (w.setCells g o vs) (some g)
  | [], xs, o, w, h => ⟨h, World.grownBy.refl _ _⟩
  | v :: r, xs, o, w, h => by
    have h1 := h.stored o v
    have h2 := own_setCells r (xs.set o v) (o + 1) (w.setCell ⟨g, o, none⟩ v) h1.1
    exact ⟨h2.1, h1.2.trans h2.2⟩
theorem own_take {w : World} {base : Nat} {e : TypeId} {g n cap : Nat} {xs : List Value} (h : w.ownsRow base e 1 (.slice (some ⟨g, 0, none⟩) n cap) n xs) (i : Nat) (hi : i ≤ n) : w.ownsRow base e 1 (.slice (some ⟨g, 0, none⟩) i cap) i (xs.take i) := by
  have hl := h.1
  refine ⟨by simp; omega, ?_⟩
  rcases h.2 with ⟨h', _⟩ | ⟨g', cap', cur, h', hb, hg, hnc, hcm, hcs, htake⟩
  · simp at h'
  · simp only [Value.slice.injEq, Option.some.injEq, Addr.mk.injEq, and_true, true_and] at h'
    obtain ⟨rfl, rfl⟩ := h'
    refine .inr ⟨g, cap, cur, rfl, hb, hg, by omega, hcm, hcs, ?_⟩
    rw [← htake, List.take_take, Nat.mul_one, Nat.mul_one, Nat.min_eq_left hi]
end Go.Proofs.YtgaenpbdfelhhaaDoor

namespace Go.Proofs.YtgaenpbdfelhhaaDoor
open Go.RowKit Go.Maps
attribute [local irreducible] shaL

theorem zero_str (w : World) : (zeroValue 9).run Tryd.prog w = .ok (.string ⟨#[]⟩) w := by
  obtain ⟨i0, hi, hz0, hz1, hz2⟩ := info_parts infoStrW
  simp [zeroValue, typeInfo, hi, hz0]
theorem clear_strs (w : World) (ty : TypeId) (b o n c : Nat) (hn : 0 < n) (hc : ∀ j, j < n → (w.cell? ⟨b, o + j, none⟩).isSome = true) (hf : ∀ j, j < n → w.frozen? ⟨b, o + j, none⟩ = false) :
    (Builtin.clear_ #[34] ty #[.slice (some ⟨b, o, none⟩) n c]).run Tryd.prog w = .ok (.tuple #[]) (w.setCells b o (List.replicate n (.string ⟨#[]⟩))) :=
  Lib.run_clear_slice w 34 9 ty (.string ⟨#[]⟩) Tryd.underlying34 zero_str rfl rfl b o n c hn hc hf
theorem str_cell {w : World} {B g n c : Nat} {L : List ByteArray} (h : w.ownsRow B 9 1 (.slice (some ⟨g, 0, none⟩) n c) n (strsV L)) {j : Nat} {x : ByteArray} (hx : L[j]? = some x) : w.cell? ⟨g, j, none⟩ = some (.string x) := by
  have hl := h.1
  have hj := (List.getElem?_eq_some_iff.1 hx).1
  rw [strsV_length] at hl
  rw [h.cellAt j (by omega)]
  simp [strsV, hx]
theorem strsV_set (L : List ByteArray) (i : Nat) (x : ByteArray) : (strsV L).set i (.string x) = strsV (L.set i x) := by simp [strsV, List.map_set]
theorem strsV_take (L : List ByteArray) (i : Nat) : (strsV L).take i = strsV (L.take i) := by simp [strsV, List.map_take]
end Go.Proofs.YtgaenpbdfelhhaaDoor

namespace Go.Proofs.YtgaenpbdfelhhaaDoor
open Go.RowKit Go.Maps
attribute [local irreducible] shaL

theorem bcount_in (d : Nat) (hd : d ≤ 4) (w : World) : Calls Tryd.prog 14 #[.int .i64 d] w fun e w' => e = .returned (.int .i64 (2 ^ d : Nat)) ∧ w = w' := by
  have d1 : ¬ (d : Int) < 0 := by omega
  have d2 : ¬ (d : Int) > 4 := by omega
  have d3 : (0 : Int) ≤ (d : Int) := by omega
  match d, hd with
  | 0, _ | 1, _ | 2, _ | 3, _ | 4, _ =>
    clear d1 d2 d3
    go_enter Tryd.func14, Tryd.ntmps14
    go_wp2_with fail
    go_ret
    exact ⟨rfl, rfl⟩
theorem bcount_out (z : Int) (hz : z < 0 ∨ z > 4) (w : World) : Calls Tryd.prog 14 #[.int .i64 z] w fun e w' => e = .returned (.int .i64 0) ∧ w = w' := by
  rcases Int.lt_or_le z 0 with h | h
  · clear hz
    go_enter Tryd.func14, Tryd.ntmps14
    go_wp2_with fail
    go_ret
    exact ⟨rfl, rfl⟩
  · have h2 : ¬ z < 0 := by omega
    have h3 : z > 4 := by omega
    clear hz h
    go_enter Tryd.func14, Tryd.ntmps14
    go_wp2_with fail
    go_ret
    exact ⟨rfl, rfl⟩
end Go.Proofs.YtgaenpbdfelhhaaDoor

namespace Go.Proofs.YtgaenpbdfelhhaaDoor
open Go.RowKit Go.Maps
attribute [local irreducible] shaL

def likeL (key : ByteArray) (d : Nat) (L : List ByteArray) : List ByteArray := L.filter fun x => belowB x key d
end Go.Proofs.YtgaenpbdfelhhaaDoor

namespace Go.Proofs.YtgaenpbdfelhhaaDoor
open Go.RowKit Go.Maps
attribute [local irreducible] shaL

def pv (M : List PairS) : List Value := M.flatMap fun x => [.string x.1, .string x.2]
theorem pv_length : ∀ M : List PairS, (pv M).length = M.length * 2
  | [] => rfl
  | x :: r => by
    have := pv_length r
    simp only [pv, List.flatMap_cons, List.length_append, List.length_cons, List.length_nil] at this ⊢
    omega
theorem pv_append (M N : List PairS) : pv (M ++ N) = pv M ++ pv N := by simp [pv]
theorem pv_at : ∀ (M : List PairS) (i : Nat) (h : i < M.length), (pv M)[i * 2]? = some (.string M[i].1) ∧ (pv M)[i * 2 + 1]? = some (.string M[i].2)
  | x :: r, 0, _ => ⟨rfl, rfl⟩
  | x :: r, i + 1, h => by
    have ih := pv_at r i (by simpa using h)
    have e : pv (x :: r) = .string x.1 :: .string x.2 :: pv r := rfl
    rw [e, show (i + 1) * 2 = i * 2 + 1 + 1 by omega]
    simp only [List.getElem?_cons_succ, List.getElem_cons_succ]
    exact ih
def PairsAt (w : World) (v : Value) (M : List PairS) : Prop :=
  ∃ a cap, v = .slice a M.length cap ∧ M.length ≤ cap ∧ cap ≤ maxLen ∧ ∀ i (h : i < M.length), ∃ g o, a = some ⟨g, o, none⟩ ∧ w.cell? ⟨g, o + i * 2, none⟩ = some (.string M[i].1) ∧ w.cell? ⟨g, o + i * 2 + 1, none⟩ = some (.string M[i].2)
theorem PairsAt.grown {w w' : World} {v : Value} {M : List PairS} (h : PairsAt w v M) (k : w.grownBy w' none) : PairsAt w' v M := by
  obtain ⟨a, cap, e, h1, h2, hc⟩ := h
  refine ⟨a, cap, e, h1, h2, fun i hi => ?_⟩
  obtain ⟨g, o, e2, h3, h4⟩ := hc i hi
  exact ⟨g, o, e2, k.cell h3 (by simp), k.cell h4 (by simp)⟩
theorem pairs_own {w : World} {B : Nat} {v : Value} {M : List PairS} (h : w.ownsRow B 33 2 v M.length (pv M)) : PairsAt w v M := by
  rcases h.2 with ⟨rfl, h0⟩ | ⟨g, cap, cur, rfl, hB, hg, h1, h2, h3, h4⟩
  · exact ⟨none, 0, by rw [h0], by omega, by unfold maxLen; omega, fun i hi => by omega⟩
  · refine ⟨some ⟨g, 0, none⟩, cap, rfl, h1, h2, fun i hi => ⟨g, 0, rfl, ?_, ?_⟩⟩
    · have := (pv_at M i hi).1
      rw [← h4, List.getElem?_take, if_pos (by omega)] at this
      rw [Nat.zero_add, cell_of hg]
      simpa using this
    · have := (pv_at M i hi).2
      rw [← h4, List.getElem?_take, if_pos (by omega)] at this
      rw [Nat.zero_add, cell_of hg]
      simpa using this
theorem own_low2 {w : World} {B B' n s : Nat} {t : TypeId} {v : Value} {xs : List Value} (h : w.ownsRow B t s v n xs) (hb : B' ≤ B) : w.ownsRow B' t s v n xs := by
  refine ⟨h.1, ?_⟩
  rcases h.2 with h' | ⟨g, cap, cur, rfl, hB, r⟩
  · exact .inl h'
  · exact .inr ⟨g, cap, cur, rfl, Nat.le_trans hb hB, r⟩
theorem infoPair : (Tryd.prog.info? 33).map (fun i => (i.zero, i.size, i.bytes)) = some (some (.agg #[.string ⟨#[]⟩, .string ⟨#[]⟩]), 2, 32) := by kernel_rfl
theorem lit_pair (w : World) (x y : Value) : ∀ j u, [x, y][j]? = some u → (w.alloc (.cells #[x, y] 33)).cell? ((⟨w.heap.size, 0, none⟩ : Addr).add j) = some u := by
  intro j u hj
  match j, hj with
  | 0, hj => simp at hj; subst hj; simp [Addr.add]
  | 1, hj => simp at hj; subst hj; simp [Addr.add]
theorem eq_str (a b : ByteArray) : (a.toList == b.toList) = decide (a = b) := by
  rw [ByteArray.toList_eq, ByteArray.toList_eq, Bool.eq_iff_iff, beq_iff_eq, decide_eq_true_iff]
  exact ⟨fun h => ByteArray.ext (Array.toList_inj.1 h), fun h => by rw [h]⟩
theorem filter_step (M : List PairS) (P : PairS → Bool) (i : Nat) (h : i < M.length) : (M.take (i + 1)).filter P = (M.take i).filter P ++ (if P M[i] then [M[i]] else []) := by
  rw [List.take_succ_eq_append_getElem h, List.filter_append]
  congr 1
  by_cases hp : P M[i] = true
  · simp [hp]
  · simp [hp]
set_option maxRecDepth 100000 in
set_option maxHeartbeats 3200000 in
theorem refSet_any (w : World) (v : Value) (M : List PairS) (x : PairS) (hv : PairsAt w v M) (hM : M.length ≤ 1000000) :
    Calls Tryd.prog 11 #[v, .agg #[.string x.1, .string x.2]] w fun e w' => ∃ v', e = .returned v' ∧ w'.ownsRow w.heap.size 33 2 v' (setM M x).length (pv (setM M x)) ∧ w.grownBy w' none := by
  obtain ⟨i0, hti, hz0, hz1, hz2⟩ := info_parts infoPair
  obtain ⟨k, y⟩ := x
  obtain ⟨a, cap, rfl, hcap, _, hc⟩ := hv
  have HC := Lib.hid hc
  have HM := Lib.hid hM
  obtain ⟨n, hn⟩ : ∃ n, M.length = n := ⟨_, rfl⟩
  rw [hn] at hcap ⊢
  have HN := Lib.hid hn
  have hn0 : n ≤ 1000000 := by omega
  clear hc hM hn
  have hg1 : w.grownBy (w.alloc (.cells #[.string k, .string y] 33)) none := World.grownBy_alloc _ _ _
  have hb1 := heap_alloc_at w (.cells #[.string k, .string y] 33) _ rfl
  go_enter Tryd.func11, Tryd.ntmps11
  have hws : (w.alloc (.cells #[.string k, .string y] 33)).heap.size = w.heap.size + 1 := by simp
  go_wp2_with fail
  generalize w.alloc (.cells #[.string k, .string y] 33) = w1 at *
  have HG1 := Lib.hid (And.intro hg1 hb1)
  have hlt : w.heap.size + 1 = w1.heap.size := by simpa using hws.symm
  have HLT := Lib.hid hlt
  obtain ⟨XB, hXB⟩ : ∃ XB, w.heap.size = XB := ⟨_, rfl⟩
  rw [hXB] at HG1 HLT ⊢
  have HXB := Lib.hid hXB
  clear hg1 hb1 hlt hXB hws
  go_loopw [5, 6] (fun v iv wr => ∃ (i : Nat), i ≤ n ∧ iv = .int .i64 i ∧ Hid (wr.ownsRow (XB + 1) 33 2 v ((M.take i).filter fun p => !decide (p.1 = k)).length (pv ((M.take i).filter fun p => !decide (p.1 = k)))) ∧ Hid (w1.grownBy wr none)) (fun _ iv _ => n - (intOf iv).toNat)
  case atStart => exact ⟨0, Nat.zero_le _, rfl, World.ownsRow_nil _ _ _ _, World.grownBy.refl _ _⟩
  case round =>
    obtain ⟨i, hi, rfl, HO, HG⟩ := hrel
    have hb2 := HG.out.heap HG1.out.2 (by simp)
    have x0 := cell_of hb2 0
    have x1 := cell_of hb2 1
    simp at x0 x1
    clear hb2
    by_cases hlt : i < n
    · have d1 : (i : Int) < (n : Int) := by omega
      have d0 : (0 : Int) ≤ (i : Int) := by omega
      have hil : i < M.length := by have := HN.out; omega
      obtain ⟨p, hp⟩ : ∃ p, M[i] = p := ⟨_, rfl⟩
      obtain ⟨pk, py⟩ := p
      obtain ⟨g, o, rfl, h1, h2⟩ := HC.out i hil
      rw [hp] at h1 h2
      have c1 := HG1.out.1.cell h1 (by simp)
      have c2 := HG1.out.1.cell h2 (by simp)
      have c1 := HG.out.cell c1 (by simp)
      have c2 := HG.out.cell c2 (by simp)
      have hst := filter_step M (fun p => !decide (p.1 = k)) i hil
      rw [hp] at hst
      have HST := Lib.hid hst
      clear h1 h2 hp hst
      have heq := eq_str pk k
      by_cases hk : pk = k
      · have e1 : (pk.toList == k.toList) = true := by rw [heq]; simpa using hk
        have HK := Lib.hid hk
        clear heq hk
        go_wp2_with fail
        go_region
        all_goals
          go_wp2_with fail
          go_roundw
          case rel =>
            refine ⟨i + 1, by omega, by go_num, ?_, grownBy_drewN HG.out 1⟩
            have := HST.out
            simp [HK.out] at this
            show World.ownsRow _ _ _ _ _ _ _
            rw [this]
            exact HO.out
          case measure => simp [intOf]; omega
      · have e1 : (pk.toList == k.toList) = false := by rw [heq]; simpa using hk
        have HK := Lib.hid hk
        clear heq hk
        have hfl : ((M.take i).filter fun p => !decide (p.1 = k)).length ≤ 1000000 := by
          have h1 := List.length_filter_le (fun p : PairS => !decide (p.1 = k)) (M.take i)
          have h2 := List.length_take_le i M
          omega
        have HFL := Lib.hid hfl
        have HSZ : Hid (XB + 1 ≤ wr.heap.size) := Lib.hid (by have := HLT.out; have := HG.out.size; omega)
        clear hfl
        go_wp2_with fail
        go_region
        all_goals
          go_wp2_with (at_builtin; refine wpList_append_own _ rfl _ _ 24 rfl (XB + 1) 33 i0 (.agg #[.string ⟨#[]⟩, .string ⟨#[]⟩]) 2 32 Tryd.underlying24 hti hz0 hz1 hz2 rfl (by decide) _ _ _ rfl (HO.out.alloc _) ⟨wr.heap.size, 0, none⟩ 1 1 [.string pk, .string py] rfl rfl (lit_pair _ _ _) ?q2 ?q3 ?q4 ?q5 ?_)
          case q2 => first | rfl | (intro u hu; simp at hu; rcases hu with rfl | rfl <;> rfl) | exact ⟨rfl, rfl⟩
          case q3 => have := HFL.out; unfold maxLen; omega
          case q4 => have := HFL.out; omega
          case q5 => have := HSZ.out; first | (simp; omega) | omega
          intro v' w' ho hg _
          have HO2 := Lib.hid ho
          have HG2 : Hid (w1.grownBy w' none) := by
            refine Lib.hid (grown_row (grownBy_alloc' (grownBy_drew HG.out) (.cells #[.string pk, .string py] 33)) hg (fun x e => ?_))
            have := (HO.out.lt x e).1
            have := HLT.out
            omega
          clear ho hg
          go_wp2_with fail
          go_roundw
          case rel =>
            refine ⟨i + 1, by omega, by go_num, ?_, HG2.out⟩
            have := HST.out
            simp [HK.out] at this
            show World.ownsRow _ _ _ _ _ _ _
            rw [this, pv_append, List.length_append]
            exact HO2.out
          case measure => simp [intOf]; omega
    · have d1 : ¬ (i : Int) < (n : Int) := by omega
      have hin : M.take i = M := List.take_of_length_le (by have := HN.out; omega)
      rw [hin] at HO
      have hfl : (M.filter fun p => !decide (p.1 = k)).length ≤ 1000000 := by
        have h1 := List.length_filter_le (fun p : PairS => !decide (p.1 = k)) M
        have := HM.out
        omega
      have HFL := Lib.hid hfl
      have HSZ : Hid (XB + 1 ≤ wr.heap.size) := Lib.hid (by have := HLT.out; have := HG.out.size; omega)
      clear hfl hin
      go_wp2_with (at_builtin; refine wpList_append_own _ rfl _ _ 24 rfl (XB + 1) 33 i0 (.agg #[.string ⟨#[]⟩, .string ⟨#[]⟩]) 2 32 Tryd.underlying24 hti hz0 hz1 hz2 rfl (by decide) _ _ _ rfl (HO.out.alloc _) ⟨wr.heap.size, 0, none⟩ 1 1 [.string k, .string y] rfl rfl (lit_pair _ _ _) ?r2 ?r3 ?r4 ?r5 ?_)
      case r2 => first | rfl | (intro u hu; simp at hu; rcases hu with rfl | rfl <;> rfl) | exact ⟨rfl, rfl⟩
      case r3 => have := HFL.out; unfold maxLen; omega
      case r4 => have := HFL.out; omega
      case r5 => have := HSZ.out; first | (simp; omega) | omega
      intro v' w' ho hg _
      have HO2 := Lib.hid ho
      have HG2 : Hid (w.grownBy w' none) := Lib.hid (grown_row (grownBy_trans HG1.out.1 (grownBy_alloc' HG.out (.cells #[.string k, .string y] 33))) hg (fun x e => by have := (HO.out.lt x e).1; have := HXB.out; omega))
      clear ho hg
      go_wp2_with fail
      go_ret
      refine ⟨v', rfl, ?_, HG2.out⟩
      rw [HXB.out]
      unfold setM
      rw [pv_append, List.length_append]
      exact own_low2 HO2.out (Nat.le_succ _)
end Go.Proofs.YtgaenpbdfelhhaaDoor

namespace Go.Proofs.YtgaenpbdfelhhaaDoor
open Go.RowKit Go.Maps
attribute [local irreducible] shaL

theorem above1_any (k : ByteArray) (hk : k.size ≤ maxLen) (d db : Nat) (hd : d ≤ 128) (w : World) (hc : w.cell? ⟨db, 0, none⟩ = some (.int .i64 d)) :
    Calls Tryd.prog 80 #[.string k, .pointer (some ⟨db, 0, none⟩)] w fun e w' => e = .returned (.bool (bitS k d == 1)) ∧ w.grownBy w' none := by
  have HB := Lib.hid (bit_any k hk d (by omega) w)
  have hb := bitS_le k d
  have he : ((bitS k d : Int) == 1) = (bitS k d == 1) := by
    rcases Nat.lt_or_ge (bitS k d) 1 with h | h
    · have : bitS k d = 0 := by omega
      rw [this]; decide
    · have : bitS k d = 1 := by omega
      rw [this]; decide
  generalize bitS k d = x at HB he ⊢
  clear hb hk
  go_enter Tryd.func80, Tryd.ntmps80
  go_wp2_with fail
  refine HB.out.mono ?_
  rintro e w2 ⟨rfl, g2⟩
  have HG := Lib.hid g2
  clear g2
  go_wp2_with fail
  go_ret
  exact ⟨rfl, HG.out⟩
/-- the pairs of these keys -/
def pairsM (M : List PairS) (L : List ByteArray) : List PairS := L.map fun k => (k, valM M k)
set_option maxRecDepth 100000 in
/-- a tree's look-up, in whatever world -/
theorem TreeAt.run {n0 : Nat} {X : List Nat} {w : World} {b : Nat} {M : List PairS} {mv : Value} (h : TreeAt n0 X w b M mv) (k : ByteArray) (hk : k.size ≤ maxLen) (hh : hasM M k = true) : (Instr.lookup 69 mv (.string k) false).run Tryd.prog w = .ok (.string (valM M k)) w := by
  rcases h.map with ⟨rfl, rfl⟩ | ⟨mb, D, rfl, h1, h2, h3, h4⟩
  · exact absurd hh (by simp [hasM])
  · obtain ⟨v, ps, hrun, hv⟩ := h3.lookup strK Tryd.underlying69 (zeroStr w) (strR_mk ⟨#[]⟩ (by unfold maxLen; decide)) (keyV k hk)
    obtain ⟨s, rfl, hz, _⟩ := strR_inv hv
    have h5 := h4.val k
    have h6 := (Prod.mk.inj hz).1
    have h7 : (⟨#[]⟩ : ByteArray).data.toList = [] := rfl
    rw [h7, h5] at h6
    injection h6 with h6
    injection h6 with h6
    rw [hrun, ← ByteArray.ext (Array.toList_inj.1 h6)]
theorem TreeK.drew {n0 : Nat} {X : List Nat} {w : World} {b : Nat} {M : List PairS} (h : TreeK n0 X w b M) : TreeK n0 X w.drew b M := h.grown (grownBy_drew (World.grownBy.refl _ _))
theorem TreeAt.grown {n0 : Nat} {X : List Nat} {w w' : World} {b : Nat} {M : List PairS} {mv : Value} (h : TreeAt n0 X w b M mv) (k : w.grownBy w' none) : TreeAt n0 X w' b M mv := by
  refine ⟨k.heap h.blk (by simp), h.own, ?_⟩
  rcases h.map with hm | ⟨mb, D, rfl, h1, h2, h3, h4⟩
  · exact .inl hm
  · exact .inr ⟨mb, D, rfl, h1, h2, h3.kept k (by simp), h4⟩
/-- what a look-up at a key's cell reads, in whatever world behind -/
theorem one_reads {n0 : Nat} {X : List Nat} {w : World} {b g o : Nat} {M : List PairS} {mv : Value} {k v : ByteArray} (h : TreeAt n0 X w b M mv) (hk : k.size ≤ maxLen) (hh : hasM M k = true) (hv : valM M k = v) (hc : w.cell? ⟨g, o, none⟩ = some (.string k)) (w' : World) (q : w.grownBy w' none) :
    w'.cell? ⟨g, o, none⟩ = some (.string k) ∧ w'.cell? ⟨b, 0, none⟩ = some mv ∧ (Instr.lookup 69 mv (.string k) false).run Tryd.prog w' = .ok (.string v) w' := by
  have h1 := h.grown q
  refine ⟨q.cell hc (by simp), by rw [cell_of h1.blk]; rfl, ?_⟩
  rw [h1.run k hk hh, hv]
set_option maxRecDepth 100000 in
set_option maxHeartbeats 1600000 in
theorem above_one (n0 : Nat) (X : List Nat) (b : Nat) (M : List PairS) (a : Option Addr) (c : Nat) (k : ByteArray) (d : Int) (w : World) (hT : TreeK n0 X w b M) (hv : StrsAt w (.slice a 1 c) [k]) (hk : k.size ≤ 1000000) (hvs : (valM M k).size ≤ 1000000) (hh : hasM M k = true) (hr : ShaReady w) :
    Calls Tryd.prog 56 #[.pointer (some ⟨b, 0, none⟩), .slice a 1 c, .int .i64 d] w fun e w' => e = .returned (.string (leafS k (valM M k))) ∧ w.grownBy w' none := by
  have hg : w.grownBy (w.alloc (.cells #[.int .i64 d] 3)) none := World.grownBy_alloc _ _ _
  have hT2 := hT.grown hg
  obtain ⟨mv, hT3⟩ := hT2
  obtain ⟨g, o, rfl, hcell⟩ := hv.at_ 0 k rfl
  have hc1 : (w.alloc (.cells #[.int .i64 d] 3)).cell? ⟨g, o, none⟩ = some (.string k) := hg.cell hcell (by simp)
  have HL : Hid (∀ w' : World, w.grownBy w' none → Calls Tryd.prog 79 #[.string k, .string (valM M k)] w' fun e w'' => e = .returned (.string (leafS k (valM M k))) ∧ w'.grownBy w'' none) := Lib.hid (fun w' q => tleaf_any k (valM M k) (by omega) (by omega) w' (hr.grown q))
  have HG := Lib.hid hg
  obtain ⟨v, hvv⟩ : ∃ v, valM M k = v := ⟨_, rfl⟩
  have HK := Lib.hid (one_reads hT3 (by unfold maxLen; omega) hh hvv hc1)
  rw [hvv] at HL ⊢
  clear hT hT3 hv hh hr hg hk hvs hcell hc1 hvv
  go_enter Tryd.func56, Tryd.ntmps56
  go_wp2_with fail
  generalize w.alloc (.cells #[.int .i64 d] 3) = w1 at *
  go_region_held3 (fun w' => w'.cell? ⟨g, o, none⟩ = some (.string k) ∧ w'.cell? ⟨b, 0, none⟩ = some mv ∧ (Instr.lookup 69 mv (.string k) false).run Tryd.prog w' = .ok (.string v) w') (first | exact HK.out _ ck | exact HK.out _ (grownBy_drew (World.grownBy.refl _ _)))
    ((go_at_call 79; (with_reducible refine (HL.out _ (grownBy_drew HG.out)).mono ?_); rintro e w3 ⟨rfl, g3⟩; have ck := grownBy_trans (grownBy_drew (World.grownBy.refl w1 none)) g3))
  go_wp2_with fail
  go_ret
  exact ⟨rfl, grownBy_trans HG.out ck⟩
end Go.Proofs.YtgaenpbdfelhhaaDoor

namespace Go.Proofs.YtgaenpbdfelhhaaDoor
open Go.RowKit Go.Maps Go.Sort
attribute [local irreducible] shaL

def Rises (L : List ByteArray) : Prop := L.Pairwise fun x y => Op.bytesLess y.data.toList x.data.toList = false
theorem rises_sortK (M : List PairS) (P : ByteArray → Bool) : Rises (sortK M P) := by
  unfold Rises sortK
  rw [List.pairwise_map]
  refine (List.pairwise_mergeSort (fun a b c h1 h2 => ?_) (fun a b => ?_) _).imp fun {a b} h => ?_
  · simp only [decide_eq_true_eq] at h1 h2 ⊢
    exact List.le_trans h1 h2
  · simp only [Bool.or_eq_true, decide_eq_true_eq]
    exact List.le_total a b
  · show Op.bytesLess b a = false
    rw [bytesLess_eq]
    simp only [decide_eq_true_eq] at h
    simp
    exact h
def sideK (b d : Nat) (L : List ByteArray) : List ByteArray := L.filter fun k => bitS k d == b
theorem side_pairs (M : List PairS) (b d : Nat) (L : List ByteArray) : side b d (pairsM M L) = pairsM M (sideK b d L) := by
  unfold side pairsM sideK
  rw [List.filter_map]
  rfl
/-- where the ones begin -/
def cutK (L : List ByteArray) (d : Nat) : Nat := match L.findIdx? (fun k => bitS k d == 1) with
  | some i => i
  | none => L.length
theorem cutK_le (L : List ByteArray) (d : Nat) : cutK L d ≤ L.length := by
  unfold cutK
  split
  · rename_i i h
    have := (List.findIdx?_eq_some_iff_getElem.1 h).1
    omega
  · exact Nat.le_refl _
theorem firstI_cut (L : List ByteArray) (d : Nat) : (cutK L d = L.length ∧ firstI L (fun k => bitS k d == 1) = -1) ∨ (cutK L d < L.length ∧ firstI L (fun k => bitS k d == 1) = (cutK L d : Nat)) := by
  unfold cutK firstI
  cases h : L.findIdx? (fun k => bitS k d == 1) with
  | none => exact .inl ⟨rfl, rfl⟩
  | some i => exact .inr ⟨(List.findIdx?_eq_some_iff_getElem.1 h).1, rfl⟩
theorem cut_sides (L : List ByteArray) (d : Nat) (hd : d < 128) (hR : Rises L) (hl : ∀ k ∈ L, k.size = 16) (ha : ∀ x ∈ L, ∀ y ∈ L, ∀ i, i < d → bitS x i = bitS y i) : L.take (cutK L d) = sideK 0 d L ∧ L.drop (cutK L d) = sideK 1 d L := by
  have hz : ∀ j, (h : j < L.length) → j < cutK L d → bitS L[j] d = 0 := by
    intro j hj hc
    unfold cutK at hc
    have hb := bitS_le L[j] d
    cases h : L.findIdx? (fun k => bitS k d == 1) with
    | none =>
      have := List.findIdx?_eq_none_iff.1 h L[j] (List.getElem_mem _)
      simp at this
      omega
    | some i =>
      rw [h] at hc
      have := (List.findIdx?_eq_some_iff_getElem.1 h).2.2 j hc
      simp at this
      omega
  have ho : ∀ j, (h : j < L.length) → cutK L d ≤ j → bitS L[j] d = 1 := by
    intro j hj hc
    unfold cutK at hc
    have hb := bitS_le L[j] d
    cases h : L.findIdx? (fun k => bitS k d == 1) with
    | none => rw [h] at hc; simp at hc; omega
    | some i =>
      rw [h] at hc
      simp at hc
      obtain ⟨hi, h1, _⟩ := List.findIdx?_eq_some_iff_getElem.1 h
      have h1' : bitS L[i] d = 1 := by simpa using h1
      by_cases e : i = j
      · subst e; exact h1'
      · have hr := List.pairwise_iff_getElem.1 hR i j hi hj (by omega)
        by_cases h0 : bitS L[j] d = 1
        · exact h0
        · exfalso
          have := order_bit L[i].data.toList L[j].data.toList d (by rw [Array.length_toList]; exact hl _ (List.getElem_mem _)) (by rw [Array.length_toList]; exact hl _ (List.getElem_mem _)) hd (fun q hq => ha _ (List.getElem_mem _) _ (List.getElem_mem _) q hq) (fun e => h0 (e.symm.trans h1')) hr
          have h2 : bitS L[i] d = 0 := this.1
          omega
  have h0 : ∀ x ∈ L.take (cutK L d), bitS x d = 0 := by
    intro x hx
    obtain ⟨j, hj, rfl⟩ := List.getElem_of_mem hx
    rw [List.getElem_take]
    rw [List.length_take] at hj
    exact hz j (by omega) (by omega)
  have h1 : ∀ x ∈ L.drop (cutK L d), bitS x d = 1 := by
    intro x hx
    obtain ⟨j, hj, rfl⟩ := List.getElem_of_mem hx
    rw [List.getElem_drop]
    rw [List.length_drop] at hj
    exact ho _ (by omega) (by omega)
  have e : ∀ b, sideK b d L = (L.take (cutK L d)).filter (fun k => bitS k d == b) ++ (L.drop (cutK L d)).filter (fun k => bitS k d == b) := by
    intro b
    unfold sideK
    rw [← List.filter_append, List.take_append_drop]
  constructor
  · rw [e, List.filter_eq_self.2 (fun x hx => by simp [h0 x hx]), List.filter_eq_nil_iff.2 (fun x hx => by simp [h1 x hx]), List.append_nil]
  · rw [e, List.filter_eq_nil_iff.2 (fun x hx => by simp [h0 x hx]), List.filter_eq_self.2 (fun x hx => by simp [h1 x hx]), List.nil_append]
theorem Rises.sub {L N : List ByteArray} (h : Rises L) (hs : N.Sublist L) : Rises N := List.Pairwise.sublist hs h
end Go.Proofs.YtgaenpbdfelhhaaDoor

namespace Go.Proofs.YtgaenpbdfelhhaaDoor
open Go.RowKit Go.Maps

set_option maxRecDepth 100000 in
set_option maxHeartbeats 1600000 in
theorem key15_any (a b : UInt8) (w : World) : Calls Tryd.prog 10 #[.int .u8 a.toNat, .int .u8 b.toNat] w fun e w' => e = .returned (.string (keyS14 a b)) ∧ w.grownBy w' none := by
  obtain ⟨i0, hi, hz0, hz3, hz4⟩ := info_parts infoU8P
  have HK : Hid (keyL14 a b = (((List.replicate 16 (0 : UInt8)).set 0 a).set 2 b)) := Lib.hid rfl
  go_enter Tryd.func10, Tryd.ntmps10
  go_wp2_with (at_make; refine wpList_make_full _ rfl _ _ 72 rfl w.heap.size 5 i0 (.int .u8 0) 1 Tryd.underlying72 hi hz0 hz3 _ _ _ _ 16 rfl rfl rfl rfl ?c1 ?c2 ?c3 ?_)
  case c1 => rw [hz4]; omega
  case c2 => unfold maxLen; omega
  case c3 => omega
  intro w4 hown hg
  have hm : (madeCells #[Value.int .u8 0] 16).toList = bytesV (List.replicate 16 0) := made_bytes 16
  rw [hm] at hown
  have hblk : w4.heap[w.heap.size]? = some (.cells (bytesV (List.replicate 16 0)).toArray 5 (0, 0)) := by
    rcases hown.2 with ⟨h, _⟩ | ⟨g, cap, cur, he, hB, hg4, h1, h2, h3, h4⟩
    · cases h
    · cases he
      have h5 : cur.toList = bytesV (List.replicate 16 0) := by
        rw [← h4, List.take_of_length_le (by rw [Array.length_toList]; omega)]
      rw [hg4, ← h5]
  have HG4 := Lib.hid hg
  have f0 := free_of hblk 0
  have f2 := free_of hblk 2
  have c0 : w4.cell? ⟨w.heap.size, 0, none⟩ = some (.int .u8 0) := by rw [cell_of hblk]; rfl
  have c2 : w4.cell? ⟨w.heap.size, 2, none⟩ = some (.int .u8 0) := by rw [cell_of hblk]; rfl
  have HB := Lib.hid hblk
  obtain ⟨KB, hKB⟩ : ∃ KB, w.heap.size = KB := ⟨_, rfl⟩
  have HKB := Lib.hid hKB
  rw [hKB] at f0 f2 c0 c2 HB ⊢
  clear hown hm hg hblk hKB
  go_upto_region 3 with (fail)
  have hb5 := heap_setCell (heap_setCell HB.out 0 (.int .u8 a.toNat)) 2 (.int .u8 b.toNat)
  have hg5 : w.grownBy ((w4.setCell ⟨KB, 0, none⟩ (.int .u8 a.toNat)).setCell ⟨KB, 2, none⟩ (.int .u8 b.toNat)) none := grownBy_setNew (grownBy_setNew HG4.out (Nat.le_of_eq HKB.out) 0 _) (Nat.le_of_eq HKB.out) 2 _
  rw [bytesV_set, bytesV_set, ← HK.out] at hb5
  have hst := blk_str hb5 16
  have HG5 := Lib.hid hg5
  generalize (w4.setCell ⟨KB, 0, none⟩ (.int .u8 a.toNat)).setCell ⟨KB, 2, none⟩ (.int .u8 b.toNat) = w5 at *
  have h16 : (keyL14 a b).length = 16 := rfl
  rw [h16] at hst
  clear hb5 hg5 h16 c0 c2 f0 f2
  go_wp2_with fail
  go_ret
  exact ⟨rfl, HG5.out⟩
end Go.Proofs.YtgaenpbdfelhhaaDoor

namespace Go.Proofs.YtgaenpbdfelhhaaDoor
open Go.RowKit Go.Maps
attribute [local irreducible] shaL

theorem refCount_out (z : Int) (hz : z < 0 ∨ z > 4) (w : World) : Calls Tryd.prog 13 #[.int .i64 z] w fun e w' => e = .returned (.int .i64 0) ∧ w = w' := by
  rcases Int.lt_or_le z 0 with h | h
  · clear hz
    go_enter Tryd.func13, Tryd.ntmps13
    go_wp2_with fail
    go_ret
    exact ⟨rfl, rfl⟩
  · have h2 : ¬ z < 0 := by omega
    have h3 : z > 4 := by omega
    clear hz h
    go_enter Tryd.func13, Tryd.ntmps13
    go_wp2_with fail
    go_ret
    exact ⟨rfl, rfl⟩
theorem refCount_in (d : Nat) (hd : d ≤ 4) (w : World) : Calls Tryd.prog 13 #[.int .i64 d] w fun e w' => e = .returned (.int .i64 (2 ^ d : Nat)) ∧ w = w' := by
  have d1 : ¬ (d : Int) < 0 := by omega
  have d2 : ¬ (d : Int) > 4 := by omega
  go_enter Tryd.func13, Tryd.ntmps13
  go_wp2_with fail
  go_loopw [3, 4] (fun nv iv wr => ∃ i : Nat, i ≤ d ∧ iv = .int .i64 i ∧ nv = .int .i64 (2 ^ i : Nat) ∧ w = wr) (fun _ iv _ => d - (intOf iv).toNat)
  case atStart => exact ⟨0, Nat.zero_le _, rfl, rfl, rfl⟩
  case round =>
    obtain ⟨i, hi, rfl, rfl, rfl⟩ := hrel
    have hp : 2 ^ i ≤ 2 ^ 4 := Nat.pow_le_pow_right (by decide) (by omega)
    have hps : 2 ^ (i + 1) = 2 * 2 ^ i := by rw [Nat.pow_succ, Nat.mul_comm]
    obtain ⟨N, hN⟩ : ∃ N, 2 ^ i = N := ⟨_, rfl⟩
    rw [hN] at hp hps
    have hN16 : N ≤ 16 := hp
    have hmul : IntKind.i64.wrap ((N : Int) * 2) = ((2 * N : Nat) : Int) := by rw [IntWalk.i64_in _ (by omega)]; omega
    by_cases hlt : i < d
    · have e1 : (i : Int) < (d : Int) := by omega
      rw [hN]
      have HPS := Lib.hid hps
      clear hN hp hps
      go_wp2_with fail
      go_roundw
      case rel => exact ⟨i + 1, by omega, by go_num, by rw [HPS.out]; first | rfl | (congr 1; omega) | go_num, by first | rfl | trivial⟩
      case measure => simp [intOf]; omega
    · have e1 : ¬ (i : Int) < (d : Int) := by omega
      have hid : i = d := by omega
      subst hid
      clear hN hps hmul hp
      go_wp2_with fail
      go_ret
      exact ⟨rfl, rfl⟩
end Go.Proofs.YtgaenpbdfelhhaaDoor

namespace Go.Proofs.YtgaenpbdfelhhaaDoor
open Go.RowKit Go.Maps

theorem conv_bytes (k : ByteArray) (w : World) : (convert 9 72 (.string k)).run Tryd.prog w = .ok (.slice (some ⟨w.heap.size, 0, none⟩) k.size (grownCap w k.size 0 5)) (Lib.bytesWorld w 5 k) :=
  Lib.run_convert_string_bytes w 9 72 5 k (u := .string) Tryd.underlying9 Tryd.underlying72 Tryd.underlying5
theorem grown_bytes (k : ByteArray) (w : World) (e : TypeId) : w.grownBy (Lib.bytesWorld w e k) none := by
  have h := grownBy_alloc' (grownBy_drew (World.grownBy.refl w none)) (.cells (Lib.bytesCells w e k) e)
  refine ⟨h.os, h.tape, h.output, by rw [Lib.bytesWorld_size]; omega, fun i hi _ => Lib.bytesWorld_at_old w e k i hi⟩
theorem bitL_flip (l : List UInt8) (q r c : Nat) (hq : q < l.length) (hr : r < 8) (hc : ((l[q]?).getD 0).toNat = c) (i : Nat) :
    bitL (l.set q (UInt8.ofNat (c ^^^ 2 ^ (7 - r)))) i = if i = 8 * q + r then 1 - bitL l i else bitL l i := by
  have hp : 2 ^ (7 - r) < 256 := Nat.lt_of_le_of_lt (Nat.pow_le_pow_right (by decide) (by omega : 7 - r ≤ 7)) (by decide)
  have hc8 : c < 256 := by rw [← hc]; exact UInt8.toNat_lt _
  have hor : c ^^^ 2 ^ (7 - r) < 256 := Nat.xor_lt_two_pow (n := 8) hc8 hp
  unfold bitL
  by_cases hiq : i / 8 = q
  · rw [hiq, List.getElem?_set_self hq, Option.getD_some, UInt8.toNat_ofNat_of_lt' hor, hc, bit_test, bit_test, Nat.testBit_xor, Nat.testBit_two_pow]
    by_cases hir : i % 8 = r
    · rw [if_pos (by omega), hir]
      cases c.testBit (7 - r) <;> simp
    · rw [if_neg (by omega)]
      have : decide (7 - r = 7 - i % 8) = false := by simp; omega
      rw [this]
      simp
  · rw [List.getElem?_set_ne (fun e => hiq e.symm), if_neg (by omega)]
theorem half_pow (r : Nat) (h : r < 8) : (128 : Int) / 2 ^ r = ((2 ^ (7 - r) : Nat) : Int) := by
  match r, h with
  | 0, _ | 1, _ | 2, _ | 3, _ | 4, _ | 5, _ | 6, _ | 7, _ => rfl
theorem flip_conv (k : ByteArray) (hk : k.size = 16) (w : World) (KB q : Nat) (hKB : w.heap.size = KB) (u : UInt8) (C : Nat) (W3 : World) (hW : W3.heap = ((Lib.bytesWorld w 5 k).setCell ⟨KB, q, none⟩ (.int .u8 u.toNat)).heap) :
    (convert 72 9 (.slice (some ⟨KB, 0, none⟩) 16 C)).run Tryd.prog W3 = .ok (.string (str (k.data.toList.set q u))) W3 := by
  subst hKB
  have h16 : (k.data.toList.set q u).length = 16 := by rw [List.length_set, Array.length_toList]; exact hk
  have h := run_convert_bytes_back (P := Tryd.prog) W3 72 9 5 ⟨w.heap.size, 0, none⟩ C (k.data.toList.set q u) Tryd.underlying72 Tryd.underlying5 Tryd.underlying9 (fun j hj => by
    have hb := Lib.bytesWorld_at_new w 5 k
    have hj2 : j < k.size := by omega
    have hc := Lib.bytesWorld_cell w 5 k j hj2
    rw [cell_of hb] at hc
    have hs := cell_of (heap_setCell hb q (.int .u8 u.toNat)) j
    have hW3 : W3.cell? ⟨w.heap.size, j, none⟩ = ((Lib.bytesWorld w 5 k).setCell ⟨w.heap.size, q, none⟩ (.int .u8 u.toNat)).cell? ⟨w.heap.size, j, none⟩ := by unfold World.cell?; rw [hW]
    rw [show (⟨w.heap.size, 0, none⟩ : Addr).add j = ⟨w.heap.size, j, none⟩ from (by unfold Addr.add; split <;> simp_all), hW3, hs, Array.getElem?_setIfInBounds]
    have hsz : j < (Lib.bytesCells w 5 k).size := by
      rcases Nat.lt_or_ge j (Lib.bytesCells w 5 k).size with h | h
      · exact h
      · rw [Array.getElem?_eq_none h] at hc; cases hc
    by_cases e : q = j
    · subst e
      simp [hsz]
    · have hl : j < k.data.toList.length := by rw [Array.length_toList]; exact hj2
      rw [if_neg e, hc, List.getElem_set_ne e]
      simp [List.getD, List.getElem?_eq_getElem hl])
  rw [h16] at h
  exact h
end Go.Proofs.YtgaenpbdfelhhaaDoor

namespace Go.Proofs.YtgaenpbdfelhhaaDoor
open Go.ChangeShapes Go.WideShapes Go.ChangeAt Go.RowKit Go.Lib Go.Shelf

/-- a listed array of 32-bit numbers, cell by cell -/
theorem u32_of_reads {w : World} {name : String} {g t : Nat} {n : Nat} (L : List Nat) (hL : L.length = n) (hn : Tryd.prog.globalNamed name = some g) (hy : (Tryd.prog.globals[g]?).map (·.type) = some t)
    (hu : Tryd.prog.underlying t = some (.array n 124)) (hc : Tryd.prog.cellsOf 124 = 1)
    (h : VarReads Tryd.prog w name (.agg (L.map fun n : Nat => .lit (.int .u32 (n : Int))))) (i : Nat) (hi : i < n) : w.cell? ⟨g, i, none⟩ = some (.int .u32 (L.getD i 0 : Nat)) := by
  obtain ⟨g', t', cs, fuel, p, hg, hty, hvar, hd⟩ := h
  obtain rfl := Option.some.inj (hn.symm.trans hg)
  obtain rfl := Option.some.inj (hy.symm.trans hty)
  obtain ⟨fuel', d, q, hdi, he⟩ := array_elem hu hd i hi
  rw [hc] at he
  obtain ⟨z, e0, x0, _⟩ := DataW.trod_int Tryd.underlying124 he
  have hd2 : d = .lit (.int .u32 (L.getD i 0 : Nat)) := by
    have hlt : i < L.length := by omega
    rw [List.getElem?_map, List.getElem?_eq_getElem hlt] at hdi
    rw [List.getD_eq_getElem?_getD, List.getElem?_eq_getElem hlt]
    exact (Option.some.inj hdi).symm
  rw [hd2] at x0
  rw [World.var?_cell hn hvar i]
  have := congrArg (fun l : List Value => l[0]?) e0
  simp [List.getElem?_take, List.getElem?_drop] at this
  rw [this]
  simp only [Prod.mk.injEq, DataW.lit.injEq, Lit.int.injEq, true_and] at x0
  rw [x0.1]

theorem start_is : (Rows.laid_plumbob_sha_start : DataW Unit) = .agg (start.list.map fun n : Nat => .lit (.int .u32 (n : Int))) := by kernel_rfl
theorem roots_is : (Rows.laid_plumbob_sha_roots : DataW Unit) = .agg (rootsL.map fun n : Nat => .lit (.int .u32 (n : Int))) := by kernel_rfl
theorem nStart : Tryd.prog.globalNamed "plumbob/sha.start" = some 0 := by kernel_rfl
theorem yStart : (Tryd.prog.globals[0]?).map (·.type) = some 125 := by kernel_rfl
theorem nRoots : Tryd.prog.globalNamed "plumbob/sha.roots" = some 1 := by kernel_rfl
theorem yRoots : (Tryd.prog.globals[1]?).map (·.type) = some 133 := by kernel_rfl
theorem cU32 : Tryd.prog.cellsOf 124 = 1 := by kernel_rfl
theorem shaReady_of_laid {w : World} (h : laidMet Tryd.prog [("plumbob/sha.start", Rows.laid_plumbob_sha_start), ("plumbob/sha.roots", Rows.laid_plumbob_sha_roots)] w) : ShaReady w := by
  have h1 := Lib.laidMet.reads h (.head _)
  have h2 := Lib.laidMet.reads h (.tail _ (.head _))
  rw [start_is] at h1
  rw [roots_is] at h2
  refine ⟨fun j v hv => ?_, fun i hi => u32_of_reads rootsL rfl nRoots yRoots Tryd.underlying133 cU32 h2 i hi⟩
  have hj : j < 8 := by
    have := (List.getElem?_eq_some_iff.1 hv).1
    rwa [u32s_length, St.list_length] at this
  rw [Nat.zero_add, u32_of_reads start.list rfl nStart yStart Tryd.underlying125 cU32 h1 j hj, ← hv, u32s_at _ _ (by rw [St.list_length]; exact hj)]

/-- the settled world, the two variables holding what their texts lay -/
noncomputable def shaWorld (os : Os) : World :=
  let w0 := World.holding Tryd.prog os ⟨#[], #[], []⟩
  let put (h : Array Obj) (g : Nat) (cs : Array Value) : Array Obj := h.modify g fun
    | .cells _ t frozen => .cells cs t frozen
    | o => o
  let h1 := put w0.heap 0 (u32s start.list).toArray
  let h2 := put h1 1 (u32s rootsL).toArray
  { w0 with heap := h2 }
theorem sha_met (os : Os) (args : Array Value) : laidMet Tryd.prog [("plumbob/sha.start", Rows.laid_plumbob_sha_start), ("plumbob/sha.roots", Rows.laid_plumbob_sha_roots)] ((shaWorld os).forCall (fun _ _ => 0) ⟨#[], args, []⟩).memory :=
  (LaidIn.of_run (l := [("plumbob/sha.start", Rows.laid_plumbob_sha_start), ("plumbob/sha.roots", Rows.laid_plumbob_sha_roots)]) [0, 1] 8 (by kernel_rfl) (by kernel_rfl) (by kernel_rfl) (by kernel_rfl)).met
theorem own : ownKnob Tryd.prog.godebug = none := by kernel_rfl
end Go.Proofs.YtgaenpbdfelhhaaDoor

namespace Go.Proofs.YtgaenpbdfelhhaaDoor
open Go.RowKit Go.ChangeShapes Go.WideShapes

theorem cell_plain' {w : World} {a : Addr} {n : Nat} {v : Value} (h : w.cell? (a.add n) = some v) : w.cell? ⟨a.block, a.off + n, none⟩ = some v := by
  have hs := World.cell?_spot h
  obtain ⟨b, o, sp⟩ := a
  by_cases hn : n = 0
  · subst hn
    have : sp = none := by simpa [Addr.add] using hs
    subst this
    simpa [Addr.add] using h
  · simpa [Addr.add, hn] using h

section
variable {H : Type} {enc : TypeId × Value → H} {P : Program} {w : World} {base : Nat} {spare : Nat → Bool} {held : Bool}
def byteOf : Value → UInt8 | .int _ n => UInt8.ofNat n.toNat | _ => 0
/-- an array of bytes -/
theorem open_byte_array {r : Reach} {b0 : Nat} {t e : TypeId} {n : Nat} {v : Value} {d : DataW H} {p : List MemPlace} (hu : P.underlying t = some (.array n e)) (he : P.underlying e = some (.int .u8)) (hce : P.cellsOf e = 1) (hct : P.cellsOf t = n)
    (hval : Value.okWide P w r b0 t v) (h : DataW.Trod enc P w base spare held t v d p) : ∃ l : List UInt8, l.length = n ∧ v = .agg (bytesV l).toArray := by
  simp only [Value.okWide, hu] at hval
  obtain ⟨cs, rfl, hsz, -⟩ := hval
  obtain ⟨fuel, hf⟩ := h
  obtain ⟨xs, m, rfl, hx, hcl, hxl, hat⟩ := DataW.trod_array hu hf
  have hcs : cs.toList.length = n := by rw [← hct]; simpa using hsz
  refine ⟨cs.toList.map byteOf, by simpa using hcs, ?_⟩
  congr 1
  apply Array.toList_inj.1
  apply List.ext_getElem (by simp [bytesV])
  intro i h1 h2
  have hi : i < n := by omega
  have h3 := hat i hi
  have hxi : xs[i]? = some (xs[i]'(by omega)) := List.getElem?_eq_getElem (by omega)
  have h4 : ((Value.agg cs).cells.toList.drop (i * P.cellsOf e)).take (P.cellsOf e) = [cs.toList[i]] := by
    rw [hce, Nat.mul_one]
    show (cs.toList.drop i).take 1 = _
    rw [List.drop_eq_getElem_cons (by omega)]
    rfl
  rw [h4, hxi] at h3
  obtain ⟨a, ea, -, wa⟩ := DataW.trod_int he h3
  simp only [List.cons.injEq, and_true] at ea
  have hb : 0 ≤ a ∧ a ≤ 255 := by simpa [Lit.wf, IntKind.min, IntKind.max, IntKind.signed, IntKind.bits] using wa
  simp only [bytesV, List.getElem_map, List.getElem_toArray, ea, byteOf]
  congr 1
  simp
  omega
/-- a slice of integers: nil, or cells -/
theorem open_int_slice {t e : TypeId} {a0 : Option Addr} {len cap : Nat} {d : DataW H} {p : List MemPlace} (ht : P.underlying t = some (.slice e)) (he : P.underlying e = some (.int .i64)) (hc : P.cellsOf e = 1)
    (h : DataW.Trod enc P w base spare held t (.slice a0 len cap) d p) : ∃ L : List Int, L.length = len ∧ IntsAt w (.slice a0 len cap) L ∧ len ≤ cap ∧ cap ≤ maxLen ∧ ∀ x ∈ L, -9223372036854775808 ≤ x ∧ x ≤ 9223372036854775807 := by
  obtain ⟨fuel, hf⟩ := h
  rcases open_ints ht he hc hf with ⟨hcs, hx⟩ | ⟨a, len', cap', zs, hcs, _, hl, hm, hz, hx, hcell, hws⟩
  · have hv : Value.slice a0 len cap = .slice none 0 0 := by simpa [Value.cells] using hcs
    cases hv
    exact ⟨[], rfl, IntsAt.nil _ _ _, Nat.le_refl _, by unfold maxLen; omega, by simp⟩
  · have hv : Value.slice a0 len cap = .slice (some a) len' cap' := by simpa [Value.cells] using hcs
    cases hv
    have hls : len ≤ zs.length := by rw [hz]; split <;> omega
    have hlen : (zs.take len).length = len := by simp; omega
    refine ⟨zs.take len, hlen, ⟨some a, cap, by rw [hlen], fun i hi => ?_⟩, hl, hm, fun x hx => ?_⟩
    · have hc' := hcell i (by omega)
      have h00 := World.cell?_spot (hcell 0 (by omega))
      obtain ⟨g, o, sp⟩ := a
      obtain rfl : sp = none := by simpa [Addr.add] using h00
      refine ⟨g, o, rfl, ?_⟩
      rw [cell_plain' hc', List.getElem_take, List.getD_eq_getElem?_getD, List.getElem?_eq_getElem (by omega)]
      rfl
    · have := hws x (List.mem_of_mem_take hx)
      simpa [Lit.wf, IntKind.min, IntKind.max, IntKind.signed, IntKind.bits] using this
/-- an array of integers -/
theorem open_int_array {r : Reach} {b0 : Nat} {t e : TypeId} {n : Nat} {k : IntKind} {v : Value} {d : DataW H} {p : List MemPlace} (hu : P.underlying t = some (.array n e)) (he : P.underlying e = some (.int k)) (hce : P.cellsOf e = 1) (hct : P.cellsOf t = n)
    (hval : Value.okWide P w r b0 t v) (h : DataW.Trod enc P w base spare held t v d p) : ∃ l : List Int, l.length = n ∧ (∀ x ∈ l, (Lit.int k x).wf = true) ∧ v = .agg (l.map (Value.int k)).toArray := by
  simp only [Value.okWide, hu] at hval
  obtain ⟨cs, rfl, hsz, -⟩ := hval
  obtain ⟨fuel, hf⟩ := h
  obtain ⟨xs, m, rfl, hx, hcl, hxl, hat⟩ := DataW.trod_array hu hf
  have hcs : cs.toList.length = n := by rw [← hct]; simpa using hsz
  have each : ∀ i (hi : i < n), ∃ a, cs.toList[i]'(by omega) = .int k a ∧ (Lit.int k a).wf = true := by
    intro i hi
    have h3 := hat i hi
    have hxi : xs[i]? = some (xs[i]'(by omega)) := List.getElem?_eq_getElem (by omega)
    have h4 : ((Value.agg cs).cells.toList.drop (i * P.cellsOf e)).take (P.cellsOf e) = [cs.toList[i]'(by omega)] := by
      rw [hce, Nat.mul_one]
      show (cs.toList.drop i).take 1 = _
      rw [List.drop_eq_getElem_cons (by omega)]
      rfl
    rw [h4, hxi] at h3
    obtain ⟨a, ea, -, wa⟩ := DataW.trod_int he h3
    simp only [List.cons.injEq, and_true] at ea
    exact ⟨a, ea, wa⟩
  refine ⟨cs.toList.map intOf, by simpa using hcs, ?_, ?_⟩
  · intro x hx
    obtain ⟨v, hv, rfl⟩ := List.mem_map.1 hx
    obtain ⟨i, hi, rfl⟩ := List.getElem_of_mem hv
    obtain ⟨a, ea, wa⟩ := each i (by omega)
    rw [ea]
    exact wa
  · congr 1
    apply Array.toList_inj.1
    apply List.ext_getElem (by simp)
    intro i h1 h2
    obtain ⟨a, ea, wa⟩ := each i (by omega)
    simp only [List.getElem_map, ea, intOf]
end
end Go.Proofs.YtgaenpbdfelhhaaDoor
