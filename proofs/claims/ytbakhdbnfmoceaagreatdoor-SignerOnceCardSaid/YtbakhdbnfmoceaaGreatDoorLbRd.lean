/- What a half's sectors tell: plain. · The walk of a half's read. · The walk of halfOf. · logbook.Open of any disk. · What was written is read again: records of one part. No walk. -/
import Derived.Test.YtbakhdbnfmoceaaGreatDoorLbAll
import Derived.Test.YtbakhdbnfmoceaaGreatDoorBld
namespace Go.Proofs.YtbakhdbnfmoceaaGreatDoor
open Go.RowKit
attribute [local irreducible] shaL

/-- a byte of a text -/
def byteAt (x : ByteArray) (i : Nat) : Nat := ((x.data.toList[i]?).getD 0).toNat
theorem byteAt_lt (x : ByteArray) (i : Nat) : byteAt x i < 256 := UInt8.toNat_lt _
theorem byteAt_in (x : ByteArray) (i : Nat) (h : i < x.size) : byteAt x i = x[i].toNat := by
  unfold byteAt
  rw [List.getElem?_eq_getElem (by simpa using h)]
  rfl
/-- a part's bytes -/
def partOf (x : ByteArray) : ByteArray := x.extract 17 (17 + byteAt x 8)
def gatherL (L : List ByteArray) : List UInt8 := L.flatMap fun x => (partOf x).data.toList
theorem gatherL_snoc (L : List ByteArray) (x : ByteArray) : gatherL (L ++ [x]) = gatherL L ++ (partOf x).data.toList := by simp [gatherL]
theorem partOf_size (x : ByteArray) (h : x.size = 64) (h2 : byteAt x 8 ≤ 39) : (partOf x).size = byteAt x 8 := by
  unfold partOf
  rw [ByteArray.size_extract]
  omega
/-- the next record, if one stands there -/
def readS (turn num : Nat) (secs : List ByteArray) : Option ByteArray :=
  if secs.length < byteAt (secs.headD ⟨#[]⟩) 7 then none
  else if (secs.take (byteAt (secs.headD ⟨#[]⟩) 7)).any (fun x => decide (39 < byteAt x 8)) then none
  else if 900 < (gatherL (secs.take (byteAt (secs.headD ⟨#[]⟩) 7))).length then none
  else if nextS turn num (str (gatherL (secs.take (byteAt (secs.headD ⟨#[]⟩) 7)))) = secs.take (byteAt (secs.headD ⟨#[]⟩) 7) then some (str (gatherL (secs.take (byteAt (secs.headD ⟨#[]⟩) 7)))) else none
theorem readS_size (turn num : Nat) (secs : List ByteArray) (s : ByteArray) (h : readS turn num secs = some s) : s.size ≤ 900 ∧ partsN s.size ≤ secs.length := by
  unfold readS at h
  split at h
  · cases h
  · split at h
    · cases h
    · split at h
      · cases h
      · split at h
        · rename_i h1 h2 h3 h4
          cases h
          refine ⟨by show (gatherL _).length ≤ _; omega, ?_⟩
          have := congrArg List.length h4
          rw [nextS_length, List.length_take] at this
          rw [this]
          omega
        · cases h
/-- the records from a place on -/
def halfLoop (turn : Nat) (secs : List ByteArray) : Nat → List ByteArray → Nat → List ByteArray × Nat
  | 0, L, u => (L, u)
  | f + 1, L, u => if u < secs.length then match readS turn L.length (secs.drop u) with
    | none => (L, u)
    | some s => halfLoop turn secs f (L ++ [s]) (u + partsN s.size) else (L, u)
theorem halfLoop_ok (turn : Nat) (secs : List ByteArray) : ∀ (f : Nat) (L : List ByteArray) (u : Nat), L.length ≤ u → u ≤ secs.length → (halfLoop turn secs f L u).1.length ≤ (halfLoop turn secs f L u).2 ∧ (halfLoop turn secs f L u).2 ≤ secs.length
  | 0, L, u, h1, h2 => ⟨h1, h2⟩
  | f + 1, L, u, h1, h2 => by
    rw [halfLoop]
    split
    · cases e : readS turn L.length (secs.drop u) with
      | none => exact ⟨h1, h2⟩
      | some s =>
        have := readS_size _ _ _ _ e
        have hp := partsN_pos s.size
        rw [List.length_drop] at this
        exact halfLoop_ok turn secs f (L ++ [s]) (u + partsN s.size) (by simp; omega) (by omega)
    · exact ⟨h1, h2⟩
def halfS (secs : List ByteArray) : HalfT :=
  if turnOf (secs.headD ⟨#[]⟩) = 0 then ⟨0, [], 0⟩
  else if (halfLoop (turnOf (secs.headD ⟨#[]⟩)) secs secs.length [] 0).1 = [] then ⟨0, [], 0⟩
  else ⟨turnOf (secs.headD ⟨#[]⟩), (halfLoop (turnOf (secs.headD ⟨#[]⟩)) secs secs.length [] 0).1, (halfLoop (turnOf (secs.headD ⟨#[]⟩)) secs secs.length [] 0).2⟩
end Go.Proofs.YtbakhdbnfmoceaaGreatDoor

namespace Go.Proofs.YtbakhdbnfmoceaaGreatDoor
open Go.RowKit
attribute [local irreducible] shaL

set_option maxHeartbeats 400000 in
/-- slices.Equal of two lists of texts -/
theorem equal_any (w : World) (v1 v2 : Value) (L1 L2 : List ByteArray) (h1 : StrsAt w v1 L1) (h2 : StrsAt w v2 L2) (hn : L1.length ≤ 1000000) (hm : L2.length ≤ 1000000) :
    Calls Tryz.prog 87 #[v1, v2] w fun e w' => e = .returned (.bool (decide (L1 = L2))) ∧ w.grownBy w' none := by
  obtain ⟨a1, c1, rfl⟩ := h1.form
  obtain ⟨a2, c2, rfl⟩ := h2.form
  by_cases hl : L1.length = L2.length
  · cases L1 with
    | nil =>
      have : L2 = [] := List.eq_nil_of_length_eq_zero hl.symm
      subst this
      refine (Tryz.slices_Equal_string_empty a1 a2 c1 0 c2 w (by decide)).mono ?_
      rintro e w' ⟨rfl, rfl⟩
      exact ⟨rfl, World.grownBy.refl _ _⟩
    | cons x r =>
      obtain ⟨y, s, rfl⟩ : ∃ y s, L2 = y :: s := by
        cases L2 with
        | nil => simp at hl
        | cons y s => exact ⟨y, s, rfl⟩
      obtain ⟨g1, o1, rfl, _⟩ := h1.at_ 0 x rfl
      obtain ⟨g2, o2, rfl, _⟩ := h2.at_ 0 y rfl
      refine (Tryz.slices_Equal_string g1 o1 _ c1 g2 o2 _ c2 (x :: r) (y :: s) w (Nat.le_refl _) (Nat.le_refl _) (by omega) (by omega) (fun j hj => ?_) (fun j hj => ?_)).mono ?_
      · obtain ⟨g', o', he, hc⟩ := h1.at_ j _ (List.getElem?_eq_getElem hj)
        cases he
        rw [hc, List.getD_eq_getElem?_getD, List.getElem?_eq_getElem hj]; rfl
      · obtain ⟨g', o', he, hc⟩ := h2.at_ j _ (List.getElem?_eq_getElem hj)
        cases he
        rw [hc, List.getD_eq_getElem?_getD, List.getElem?_eq_getElem hj]; rfl
      · rintro e w' ⟨rfl, q, rfl⟩
        rw [List.take_of_length_le (Nat.le_refl _), List.take_of_length_le (Nat.le_refl _)]
        exact ⟨rfl, grownBy_drewN (World.grownBy.refl _ _) q⟩
  · refine (Tryz.slices_Equal_string_lens a1 a2 L1.length c1 L2.length c2 w hl).mono ?_
    rintro e w' ⟨rfl, rfl⟩
    have : decide (L1 = L2) = false := decide_eq_false (fun h => hl (by rw [h]))
    rw [this]
    exact ⟨rfl, World.grownBy.refl _ _⟩
theorem byteCells_str (s : ByteArray) : Lib.strCells s = Lib.byteCells s.data.toList := rfl
theorem strsAt_take {w : World} {g o n cap : Nat} {L : List ByteArray} (h : StrsAt w (.slice (some ⟨g, o, none⟩) n cap) L) (k : Nat) (hk : k ≤ L.length) : StrsAt w (.slice (some ⟨g, o, none⟩) k cap) (L.take k) := by
  refine ⟨some ⟨g, o, none⟩, cap, by rw [List.length_take, Nat.min_eq_left hk], fun i hi => ?_⟩
  rw [List.length_take] at hi
  obtain ⟨g', o', he, hc⟩ := h.at_ i _ (List.getElem?_eq_getElem (by omega))
  cases he
  exact ⟨g, o, rfl, by rw [hc, List.getElem_take]⟩
theorem gather_le (secs : List ByteArray) : ∀ k, (∀ y ∈ secs.take k, y.size = 64 ∧ byteAt y 8 ≤ 39) → (gatherL (secs.take k)).length ≤ 39 * k
  | 0, _ => by simp [gatherL]
  | k + 1, h => by
    rcases Nat.lt_or_ge k secs.length with hk | hk
    · have e : secs.take (k + 1) = secs.take k ++ [secs[k]] := by rw [List.take_add_one, List.getElem?_eq_getElem hk]; rfl
      rw [e] at h ⊢
      rw [gatherL_snoc, List.length_append]
      have h1 := gather_le secs k (fun y hy => h y (List.mem_append.2 (.inl hy)))
      have h2 := h secs[k] (List.mem_append.2 (.inr (List.mem_singleton.2 rfl)))
      have h3 := partOf_size secs[k] h2.1 h2.2
      have h4 : (partOf secs[k]).data.toList.length = (partOf secs[k]).size := rfl
      omega
    · rw [List.take_of_length_le (by omega)] at h ⊢
      have h1 := gather_le secs k (by rw [List.take_of_length_le hk]; exact h)
      rw [List.take_of_length_le hk] at h1
      omega
def optV (r : Option ByteArray) : Array Value := #[.string (r.getD ⟨#[]⟩), .bool r.isSome]

set_option maxRecDepth 100000 in
set_option maxHeartbeats 6400000 in
theorem hread_any (turn num : Nat) (ht : turn ≤ 4294967295) (hn : num ≤ 65535) (ra : Option Addr) (rc : Nat) (u : Value) (w : World) (v : Value) (secs : List ByteArray) (hv : StrsAt w v secs) (h0 : 0 < secs.length) (hl : secs.length ≤ 1024) (h64 : ∀ x ∈ secs, x.size = 64) (hcap : ∀ a n c, v = .slice a n c → n ≤ c ∧ c ≤ maxLen) (hr : ShaReady w) :
    Calls Tryz.prog 60 #[.agg #[.int .u32 turn, .slice ra num rc, u], v] w fun e w' => e = .returned (.tuple (optV (readS turn num secs))) ∧ w.grownBy w' none := by
  obtain ⟨va, vc, rfl⟩ := hv.form
  obtain ⟨hcap1, hcap2⟩ := hcap _ _ _ rfl
  unfold maxLen at hcap2
  obtain ⟨s0, rest0, hs0⟩ : ∃ s0 rest0, secs = s0 :: rest0 := by
    cases secs with
    | nil => simp at h0
    | cons a b => exact ⟨a, b, rfl⟩
  obtain ⟨vg, vo, rfl, hc0⟩ := hv.at_ 0 s0 (by rw [hs0]; rfl)
  rw [Nat.add_zero] at hc0
  have hvg : vg < w.heap.size := cell_lt hc0
  have hhd : secs.headD ⟨#[]⟩ = s0 := by rw [hs0]; rfl
  have hz0 : s0.size = 64 := h64 s0 (by rw [hs0]; simp)
  have HRS : Hid (readS turn num secs = if secs.length < byteAt s0 7 then none
      else if (secs.take (byteAt s0 7)).any (fun x => decide (39 < byteAt x 8)) then none
      else if 900 < (gatherL (secs.take (byteAt s0 7))).length then none
      else if nextS turn num (str (gatherL (secs.take (byteAt s0 7)))) = secs.take (byteAt s0 7) then some (str (gatherL (secs.take (byteAt s0 7)))) else none) := by show _ = _; rw [← hhd]; rfl
  have hb7 := byteAt_in s0 7 (by omega)
  have hb7l := byteAt_lt s0 7
  obtain ⟨P, hP⟩ : ∃ P, byteAt s0 7 = P := ⟨_, rfl⟩
  rw [hP] at HRS hb7 hb7l
  obtain ⟨N, hN⟩ : ∃ N, secs.length = N := ⟨_, rfl⟩
  rw [hN] at HRS hl h0 hv hcap1 ⊢
  have i7 : (7 : Int) < (s0.size : Int) := by omega
  have i7b : (s0[7]'(by omega)).toNat = P := hb7.symm
  have hpos : (0 : Int) < (N : Int) := by omega
  have HV := Lib.hid hv
  have H64 := Lib.hid h64
  have HN := Lib.hid hN
  have HR := Lib.hid hr
  have HT := Lib.hid (And.intro ht hn)
  have HS0 := Lib.hid (And.intro hs0 hP)
  have hPi : (P : Int) < 256 := by omega
  have hNi : (N : Int) ≤ 1024 := by omega
  clear hv h64 hhd hb7 hP hN hr hs0 ht hn hcap
  go_enter Tryz.func60, Tryz.ntmps60
  obtain ⟨w1, hW1⟩ : ∃ w1, w.alloc (.cells #[.int .u32 turn, .slice ra num rc, u] 78) = w1 := ⟨_, rfl⟩
  have hh1 : w1.heap[w.heap.size]? = some (.cells #[.int .u32 turn, .slice ra num rc, u] 78 (0, 0)) := by rw [← hW1]; exact heap_alloc_at _ _ _ rfl
  have hg1 : w.grownBy w1 none := by rw [← hW1]; exact World.grownBy_alloc _ _ _
  have c0 : w1.cell? ⟨vg, vo, none⟩ = some (.string s0) := hg1.cell hc0 (by simp)
  by_cases hlt : N < P
  · have e1 : (N : Int) < (P : Int) := by omega
    have hrs := HRS.out
    rw [if_pos hlt] at hrs
    have HX := Lib.hid hrs
    clear hrs hlt
    go_wp2_with fail
    go_returns
    exact ⟨by rw [HX.out]; rfl, hg1⟩
  · have e1 : ¬ (N : Int) < (P : Int) := by omega
    have hrs := HRS.out
    rw [if_neg hlt] at hrs
    have HX := Lib.hid hrs
    have hPN : P ≤ N := by omega
    have hPc : (P : Int) ≤ (vc : Int) := by omega
    have hPp : (0 : Int) ≤ (P : Int) := by omega
    have hcc : (vc : Int) ≤ 9223372036854775807 := by omega
    clear hrs hlt HRS
    go_wp2_with fail
    have hB0 := builder_fresh w1
    have hgB : w1.grownBy (w1.alloc (.cells #[.pointer none, .slice none 0 0] 147)) none := World.grownBy_alloc _ _ _
    obtain ⟨bb, hbb⟩ : ∃ bb, w1.heap.size = bb := ⟨_, rfl⟩
    rw [hbb] at hB0 ⊢
    obtain ⟨w2, hW2⟩ : ∃ w2, w1.alloc (.cells #[.pointer none, .slice none 0 0] 147) = w2 := ⟨_, rfl⟩
    rw [hW2] at hB0 hgB ⊢
    have hwb : w.heap.size < bb := by rw [← hbb]; exact (Array.getElem?_eq_some_iff.1 hh1).1
    have HB2 : Hid (BuilderIn 147 [] bb bb (Lib.byteCells (gatherL (secs.take 0))) w2) := hB0
    have HH2 := Lib.hid (hgB.heap hh1 (by simp))
    have HW2 := Lib.hid (below_grownBy (grownBy_trans hg1 hgB))
    have HPN := Lib.hid (And.intro hPN hwb)
    clear hB0 hgB hbb hW2 hW1 hg1 hh1 c0 hPN hwb
    go_loopw [25] (fun iv wr => ∃ k : Nat, k ≤ P ∧ iv = .int .i64 k ∧ Hid (∀ x ∈ secs.take k, byteAt x 8 ≤ 39) ∧ Hid (BuilderIn 147 [] bb bb (Lib.byteCells (gatherL (secs.take k))) wr) ∧ Hid (wr.heap[w.heap.size]? = some (.cells #[.int .u32 turn, .slice ra num rc, u] 78 (0, 0))) ∧ Hid (Below w.heap.size w wr)) (fun iv _ => P - (intOf iv).toNat)
    case atStart => exact ⟨0, Nat.zero_le _, rfl, by intro x hx; simp at hx, HB2.out, HH2.out, HW2.out⟩
    case round =>
      clear HB2 HH2 HW2
      obtain ⟨k, hk, rfl, HOK, HBD, HHB, HBW⟩ := hrel
      by_cases hkP : k < P
      · have d1 : (k : Int) < (P : Int) := by omega
        have d0 : (0 : Int) ≤ (k : Int) := by omega
        have hkN : k < secs.length := by rw [HN.out]; have := HPN.out.1; omega
        obtain ⟨x, hx⟩ : ∃ x, secs[k]? = some x := ⟨_, List.getElem?_eq_getElem hkN⟩
        obtain ⟨vg', vo', he, hcx⟩ := HV.out.at_ k x hx
        cases he
        have cx : wr.cell? ⟨vg, vo + k, none⟩ = some (.string x) := (HBW.out.cell (p := ⟨vg, vo + k, none⟩) hvg).trans hcx
        have hxz := H64.out x (List.mem_of_getElem? hx)
        have hb8 := byteAt_in x 8 (by omega)
        have i8 : (8 : Int) < (x.size : Int) := by omega
        have htk : secs.take (k + 1) = secs.take k ++ [x] := by rw [List.take_add_one, hx]; rfl
        have hl8 := byteAt_lt x 8
        have hpo : partOf x = x.extract 17 (17 + byteAt x 8) := rfl
        have hpz : byteAt x 8 ≤ 39 → (partOf x).size = byteAt x 8 := partOf_size x hxz
        have hmem : x ∈ secs.take P := by
          rw [List.mem_iff_getElem?]
          exact ⟨k, by rw [List.getElem?_take, if_pos hkP]; exact hx⟩
        obtain ⟨z, hz⟩ : ∃ z, byteAt x 8 = z := ⟨_, rfl⟩
        have HZ := Lib.hid hz
        rw [hz] at hb8 hl8 hpo hpz
        have i8b : (x[8]'(by omega)).toNat = z := hb8.symm
        have hzi : (z : Int) < 256 := by omega
        clear hcx hb8 hz
        by_cases h39 : 39 < z
        · have e39 : (39 : Int) < (z : Int) := by omega
          have hrs := HX.out
          rw [if_pos (by
            rw [List.any_eq_true]
            exact ⟨x, hmem, by rw [HZ.out]; simpa using h39⟩)] at hrs
          have HY := Lib.hid hrs
          clear hrs hmem htk hpo hpz
          go_wp2_with fail
          go_returns
          exact ⟨by rw [HY.out]; rfl, grownBy_below HBW.out⟩
        · have e39 : ¬ (39 : Int) < (z : Int) := by omega
          have e1 : (17 : Int) + (z : Int) = ((17 + z : Nat) : Int) := by omega
          have e2 := wrap_i64_nat (17 + z) (by omega)
          have e3 : ((17 + z : Nat) : Int) ≤ (x.size : Int) := by omega
          have e4 : (17 : Int) ≤ ((17 + z : Nat) : Int) := by omega
          have hgl : (gatherL (secs.take k)).length ≤ 39 * k := gather_le secs k (fun y hy => ⟨H64.out y (List.mem_of_mem_take hy), HOK.out y hy⟩)
          have HWS := Lib.hid (writeString_in 147 [] houses_builder bb bb _ (partOf x) wr HBD.out (by
            rw [hpz (by omega)]
            have : (Lib.byteCells (gatherL (secs.take k))).length = (gatherL (secs.take k)).length := by simp [Lib.byteCells]
            omega))
          rw [hpo] at HWS
          have HTK := Lib.hid (And.intro htk hpo)
          have H39 := Lib.hid (show z ≤ 39 by omega)
          obtain ⟨q, hq⟩ : ∃ q, 17 + z = q := ⟨_, rfl⟩
          rw [hq] at e1 e2 e3 e4 HWS
          have HQ := Lib.hid hq
          have hq3 : (q : Int) ≤ 64 := by omega
          clear htk hpo hpz hmem hgl hq hx
          go_wp2_with fail
          refine HWS.out.mono ?_
          rintro e w3 ⟨rfl, hL⟩
          have HL3 := Lib.hid hL
          clear hL HWS
          go_wp2_with fail
          go_roundw
          case rel =>
            refine ⟨k + 1, by omega, by go_num, ?_, ?_, ?_, ?_⟩
            · intro y hy
              rw [HTK.out.1] at hy
              rcases List.mem_append.1 hy with hy | hy
              · exact HOK.out y hy
              · rw [List.mem_singleton.1 hy, HZ.out]; exact H39.out
            · show BuilderIn _ _ _ _ _ _
              have hh := HL3.out.at_
              rw [byteCells_str] at hh
              rw [HTK.out.1, gatherL_snoc, HTK.out.2, HQ.out]
              rw [show Lib.byteCells (gatherL (secs.take k) ++ (x.extract 17 q).data.toList) = Lib.byteCells (gatherL (secs.take k)) ++ Lib.byteCells (x.extract 17 q).data.toList from by simp [Lib.byteCells]]
              exact hh
            · show _ = _
              rw [HL3.out.below.block _ HPN.out.2]
              exact HHB.out
            · exact HBW.out.trans (HL3.out.below.mono (Nat.le_of_lt HPN.out.2))
          case measure => simp [intOf]; omega
      · have hkP2 : k = P := by omega
        subst hkP2
        have d1 : ¬ (k : Int) < (k : Int) := by omega
        have hrs := HX.out
        rw [if_neg (by
          rw [List.any_eq_true]
          rintro ⟨x, hx, h⟩
          have := HOK.out x hx
          simp at h
          omega)] at hrs
        have hgl : (gatherL (secs.take k)).length ≤ 39 * k := gather_le secs k (fun y hy => ⟨H64.out y (List.mem_of_mem_take hy), HOK.out y hy⟩)
        have HST := Lib.hid (string_in 147 [] bb bb _ wr HBD.out)
        have hG : (gatherL (secs.take k)).length = (str (gatherL (secs.take k))).size := rfl
        rw [hG] at hrs hgl
        have HST2 : Hid (Calls Tryz.prog 86 #[.pointer (some ⟨bb, 0, none⟩)] wr fun e w' => e = .returned (.string (str (gatherL (secs.take k)))) ∧ Below bb wr w') := HST.out
        have HTKS : Hid (StrsAt w (.slice (some ⟨vg, vo, none⟩) k vc) (secs.take k)) := strsAt_take HV.out k (by rw [HN.out]; exact HPN.out.1)
        have HTL : Hid ((secs.take k).length = k) := by show _ = _; rw [List.length_take, HN.out]; have := HPN.out.1; omega
        generalize str (gatherL (secs.take k)) = S at hrs hgl HST2
        generalize secs.take k = TK at hrs HTKS HTL
        clear HST hG HOK HBD
        have hSi : (S.size : Int) ≤ 100000 := by omega
        go_wp2_with fail
        refine HST2.out.mono ?_
        rintro e w3 ⟨rfl, hb3⟩
        have HB3 := Lib.hid (HBW.out.trans (hb3.mono (Nat.le_of_lt HPN.out.2)))
        have hh3 : w3.heap[w.heap.size]? = _ := (hb3.block _ HPN.out.2).trans HHB.out
        have k0 := cell_of hh3 0
        have k1 := cell_of hh3 1
        have k2 := cell_of hh3 2
        simp at k0 k1 k2
        clear hb3 hh3 HST2
        by_cases h9 : 900 < S.size
        · have e9 : (900 : Int) < (S.size : Int) := by omega
          rw [if_pos h9] at hrs
          have HY := Lib.hid hrs
          clear hrs h9
          go_wp2_with fail
          first
            | go_region
            | fail
          all_goals
            go_wp2_with fail
            go_returns
            exact ⟨by rw [HY.out]; rfl, grownBy_drew (grownBy_below HB3.out)⟩
        · have e9 : ¬ (900 : Int) < (S.size : Int) := by omega
          have e9b : ((900 : Int) < (S.size : Int)) = False := eq_false e9
          have e9a : decide ((900 : Int) < (S.size : Int)) = false := decide_eq_false e9
          have e9c : decide (900 < S.size) = false := decide_eq_false h9
          have e9d : (900 < S.size) = False := eq_false h9
          rw [if_neg h9] at hrs
          have hnl := nextS_length turn num S
          have hpl := partsN_le S.size (by omega)
          have HNXT : Hid (∀ w', w3.grownBy w' none → Calls Tryz.prog 63 #[.agg #[.int .u32 turn, .slice ra num rc, u], .string S] w' fun e w'' => ∃ v, e = .returned v ∧ StrsAt w'' v (nextS turn num S) ∧ w'.grownBy w'' none) :=
            fun w' hg' => (next_any turn num HT.out.1 HT.out.2 ra rc u S (by omega) w' ((HR.out.grown (grownBy_below HB3.out)).grown hg')).mono fun e w'' ⟨v, q1, q2, q3⟩ => by
              obtain ⟨a, cc, rfl⟩ := slice_own' q2
              have := hnl
              rw [← this] at q2 q1
              exact ⟨_, q1, strs_own q2, q3⟩
          have HEQ : Hid (∀ (w' : World) (v1 : Value), w3.grownBy w' none → StrsAt w' v1 (nextS turn num S) → Calls Tryz.prog 87 #[v1, .slice (some ⟨vg, vo, none⟩) k vc] w' fun e w'' => e = .returned (.bool (decide (nextS turn num S = TK))) ∧ w'.grownBy w'' none) :=
            fun w' v1 hg' h1 => equal_any w' v1 _ (nextS turn num S) TK h1 ((HTKS.out.grown (grownBy_below HB3.out)).grown hg') (by rw [hnl]; omega) (by rw [HTL.out]; omega)
          have HY := Lib.hid hrs
          clear hrs h9 hnl hpl
          generalize nextS turn num S = NX at HNXT HEQ HY
          have hG3 : w3.grownBy w3.drew none := grownBy_drew (World.grownBy.refl _ _)
          go_wp2_with fail
          have HKK : Hid (w3.cell? ⟨w.heap.size, 0, none⟩ = some (.int .u32 turn) ∧ w3.cell? ⟨w.heap.size, 1, none⟩ = some (.slice ra num rc) ∧ w3.cell? ⟨w.heap.size, 2, none⟩ = some u) := ⟨k0, k1, k2⟩
          by_cases hE : NX = TK
          · have hd : decide (NX = TK) = true := decide_eq_true hE
            rw [hd] at HEQ
            have HE := Lib.hid hE
            clear hE hd
            go_region_held3 (fun w' => w'.cell? ⟨w.heap.size, 0, none⟩ = some (.int .u32 turn) ∧ w'.cell? ⟨w.heap.size, 1, none⟩ = some (.slice ra num rc) ∧ w'.cell? ⟨w.heap.size, 2, none⟩ = some u) (first | exact ck | exact HKK.out)
              (first
                | (go_at_call 63; refine (HNXT.out _ hG3).mono ?_; rintro e wn ⟨v, rfl, hsv, gn⟩; have hG3 := grownBy_trans hG3 gn; have ck := held_ck HKK.out hG3)
                | (go_at_call 87; refine (HEQ.out _ _ hG3 hsv).mono ?_; rintro e we ⟨rfl, ge⟩; have hG3 := grownBy_trans hG3 ge; have ck := held_ck HKK.out hG3))
            go_wp2_with fail
            go_returns
            exact ⟨by rw [HY.out, if_pos HE.out]; rfl, grownBy_trans (grownBy_below HB3.out) hG3⟩
          · have hd : decide (NX = TK) = false := decide_eq_false hE
            rw [hd] at HEQ
            have HE := Lib.hid hE
            clear hE hd
            go_region_held3 (fun w' => w'.cell? ⟨w.heap.size, 0, none⟩ = some (.int .u32 turn) ∧ w'.cell? ⟨w.heap.size, 1, none⟩ = some (.slice ra num rc) ∧ w'.cell? ⟨w.heap.size, 2, none⟩ = some u) (first | exact ck | exact HKK.out)
              (first
                | (go_at_call 63; refine (HNXT.out _ hG3).mono ?_; rintro e wn ⟨v, rfl, hsv, gn⟩; have hG3 := grownBy_trans hG3 gn; have ck := held_ck HKK.out hG3)
                | (go_at_call 87; refine (HEQ.out _ _ hG3 hsv).mono ?_; rintro e we ⟨rfl, ge⟩; have hG3 := grownBy_trans hG3 ge; have ck := held_ck HKK.out hG3))
            go_wp2_with fail
            go_returns
            exact ⟨by rw [HY.out, if_neg HE.out]; rfl, grownBy_trans (grownBy_below HB3.out) hG3⟩
end Go.Proofs.YtbakhdbnfmoceaaGreatDoor

namespace Go.Proofs.YtbakhdbnfmoceaaGreatDoor
open Go.RowKit
attribute [local irreducible] shaL

/-- the number in a half's third cell -/
def usedIn (w : World) (B : Nat) : Nat := match w.cell? ⟨B, 2, none⟩ with
  | some (.int .i64 n) => n.toNat
  | _ => 0
theorem usedIn_of {w : World} {B u : Nat} {a b : Value} (h : w.heap[B]? = some (.cells #[a, b, .int .i64 u] 78 (0, 0))) : usedIn w B = u := by
  unfold usedIn
  rw [cell_of h 2]
  simp
theorem own_up {w : World} {B B' n size : Nat} {t : TypeId} {v : Value} {xs : List Value} (h : w.ownsRow B t size v n xs) (hb : ∀ x, v.ownBlock = some x → B' ≤ x) : w.ownsRow B' t size v n xs := by
  refine ⟨h.1, ?_⟩
  rcases h.2 with h' | ⟨g, cap, cur, e, hB, r⟩
  · exact .inl h'
  · exact .inr ⟨g, cap, cur, e, hb g (by rw [e]; rfl), r⟩
theorem strsAt_drop {w : World} {g o n cap : Nat} {L : List ByteArray} (h : StrsAt w (.slice (some ⟨g, o, none⟩) n cap) L) (k : Nat) (hk : k ≤ L.length) {m c : Nat} (hm : (L.drop k).length = m) : StrsAt w (.slice (some ⟨g, o + k, none⟩) m c) (L.drop k) := by
  refine ⟨some ⟨g, o + k, none⟩, c, by rw [hm], fun i hi => ?_⟩
  rw [List.length_drop] at hi
  obtain ⟨g', o', he, hc⟩ := h.at_ (k + i) _ (List.getElem?_eq_getElem (by omega))
  cases he
  exact ⟨g, o + k, rfl, by rw [Nat.add_assoc, hc, List.getElem_drop]⟩
set_option maxRecDepth 100000 in
set_option maxHeartbeats 6400000 in
theorem halfOf_some (w : World) (v : Value) (secs : List ByteArray) (hv : StrsAt w v secs) (h0 : 0 < secs.length) (hl : secs.length ≤ 1024) (h64 : ∀ x ∈ secs, x.size = 64) (hcap : ∀ a n c, v = .slice a n c → n ≤ c ∧ c ≤ maxLen) (hr : ShaReady w) (hT : turnOf (secs.headD ⟨#[]⟩) ≠ 0) :
    Calls Tryz.prog 33 #[v] w fun e w' => ∃ hv, e = .returned (.agg #[.int .u32 (halfS secs).turn, hv, .int .i64 (halfS secs).used]) ∧ w'.ownsRow w.heap.size 9 1 hv (halfS secs).recs.length (strsV (halfS secs).recs) ∧ w.grownBy w' none := by
  have hHS : halfS secs = if (halfLoop (turnOf (secs.headD ⟨#[]⟩)) secs secs.length [] 0).1 = [] then ⟨0, [], 0⟩ else ⟨turnOf (secs.headD ⟨#[]⟩), (halfLoop (turnOf (secs.headD ⟨#[]⟩)) secs secs.length [] 0).1, (halfLoop (turnOf (secs.headD ⟨#[]⟩)) secs secs.length [] 0).2⟩ := by
    unfold halfS
    rw [if_neg hT]
  obtain ⟨va, vc, rfl⟩ := hv.form
  obtain ⟨hcap1, hcap2⟩ := hcap _ _ _ rfl
  unfold maxLen at hcap2
  obtain ⟨s0, rest0, hs0⟩ : ∃ s0 rest0, secs = s0 :: rest0 := by
    cases secs with
    | nil => simp at h0
    | cons a b => exact ⟨a, b, rfl⟩
  obtain ⟨vg, vo, rfl, hc0⟩ := hv.at_ 0 s0 (by rw [hs0]; rfl)
  rw [Nat.add_zero] at hc0
  have hhd : secs.headD ⟨#[]⟩ = s0 := by rw [hs0]; rfl
  have hz0 : s0.size = 64 := h64 s0 (by rw [hs0]; simp)
  rw [hhd] at hT hHS
  have hn4 := num4 s0 hz0
  have htl := turnOf_lt s0 hz0
  obtain ⟨T, hTT⟩ : ∃ T, turnOf s0 = T := ⟨_, rfl⟩
  rw [hTT] at hT hHS hn4 htl
  have hw32 := wrap_u32 T (by omega)
  have hT0 : ((T : Int) == 0) = false := by simp; omega
  have hTi : (T : Int) ≤ 4294967295 := by omega
  obtain ⟨FIN, hFIN⟩ : ∃ FIN, halfLoop T secs secs.length [] 0 = FIN := ⟨_, rfl⟩
  rw [hFIN] at hHS
  obtain ⟨N, hN⟩ : ∃ N, secs.length = N := ⟨_, rfl⟩
  rw [hN] at hl h0 hv hcap1 hFIN ⊢
  have hpos : (0 : Int) < (N : Int) := by omega
  have hNi : (N : Int) ≤ 1024 := by omega
  have hci : (vc : Int) ≤ 9223372036854775807 := by omega
  have hNc : (N : Int) ≤ (vc : Int) := by omega
  have HV := Lib.hid hv
  have H64 := Lib.hid h64
  have HN := Lib.hid hN
  have HR := Lib.hid hr
  have HHS := Lib.hid hHS
  have HFIN := Lib.hid hFIN
  have HN4 := Lib.hid hn4
  have HZ0 := Lib.hid (And.intro hz0 htl)
  have hvg : vg < w.heap.size := cell_lt hc0
  have HCP := Lib.hid (And.intro hcap1 hcap2)
  clear hv h64 hhd hN hr hs0 hcap hT hTT hHS hFIN hn4 hz0 htl
  go_enter Tryz.func33, Tryz.ntmps33
  obtain ⟨w1, hW1⟩ : ∃ w1, w.alloc (.cells #[.int .u32 0, .slice none 0 0, .int .i64 0] 78) = w1 := ⟨_, rfl⟩
  have hc1 : w1.cell? ⟨vg, vo, none⟩ = some (.string s0) := by rw [← hW1]; exact (World.grownBy_alloc w _ none).cell hc0 (by simp)
  have hr1 : w1.heap[w.heap.size]? = some (.cells #[.int .u32 0, .slice none 0 0, .int .i64 0] 78 (0, 0)) := by rw [← hW1]; exact heap_alloc_at _ _ _ rfl
  have hg1 : w.grownBy w1 none := by rw [← hW1]; exact World.grownBy_alloc _ _ _
  go_wp2_with fail
  refine (read_any s0 w1).mono ?_
  rintro e w2 ⟨rfl, hrd, hg2⟩
  have HRS : Hid (RsAt w2 (some ⟨w1.heap.size, 0, none⟩) (some ⟨s0, 0⟩)) := ⟨_, rfl, hrd⟩
  have hr2 := hg2.heap hr1 (by simp)
  have hG2 := grownBy_trans hg1 hg2
  clear hrd hg2 hc1 hc0
  go_wp2_with fail
  refine (rnum_any 4 w2 _ _ HRS.out (by rintro x ⟨⟩; show s0.size ≤ _; rw [HZ0.out.1]; decide)).mono ?_
  rintro e w3 ⟨rfl, hrs, hg3⟩
  have hz : ((Option.map (fun s => (RSt.num s 4).1) (some (⟨s0, 0⟩ : RSt))).getD 0) = T := HN4.out
  rw [hz]
  have hlt1 : w.heap.size < w1.heap.size := (Array.getElem?_eq_some_iff.1 hr1).1
  have hr3 := hg3.heap hr2 (by show some w1.heap.size ≠ some w.heap.size; simp; omega)
  have hG3 := grown_row hG2 hg3 (by intro x e; have : w1.heap.size = x := by simpa [prow] using e
                                    omega)
  have HR3 := Lib.hid hr3
  have HG3 := Lib.hid hG3
  clear hrs hr1 hr2 hr3 hG2 hG3 hg3 hz HRS hW1 hg1 hlt1
  go_upto_block 0 with (fail)
  obtain ⟨w4, hW4⟩ : ∃ w4, w3.alloc (.cells #[.int .u32 T, .slice none 0 0, .int .i64 0] 78) = w4 := ⟨_, rfl⟩
  rw [hW4]
  obtain ⟨HB, hHB⟩ : ∃ HB, w3.heap.size = HB := ⟨_, rfl⟩
  rw [hHB]
  have hh4 : w4.heap[HB]? = some (.cells #[.int .u32 T, .slice none 0 0, .int .i64 0] 78 (0, 0)) := by rw [← hW4]; exact heap_alloc_at _ _ _ hHB
  have hg34 : w3.grownBy w4 none := by rw [← hW4]; exact World.grownBy_alloc _ _ _
  have HR4 := Lib.hid (hg34.heap HR3.out (by simp))
  have HG4 := Lib.hid (grownBy_trans HG3.out hg34)
  have HH4 := Lib.hid hh4
  have hRB : w.heap.size < HB := by rw [← hHB]; exact (Array.getElem?_eq_some_iff.1 HR3.out).1
  have HRB := Lib.hid hRB
  clear hh4 hg34 hW4 hHB HR3 HG3 hRB
  go_cut [4] (fun _ wx => ∃ (L : List ByteArray) (u : Nat) (rv : Value), Hid ((L, u) = FIN ∧ L.length ≤ u ∧ u ≤ N) ∧ Hid (wx.heap[HB]? = some (.cells #[.int .u32 T, rv, .int .i64 u] 78 (0, 0))) ∧ Hid (wx.ownsRow 0 9 1 rv L.length (strsV L) ∧ ∀ x, rv.ownBlock = some x → HB < x) ∧ Hid (wx.heap[w.heap.size]? = some (.cells #[.int .u32 0, .slice none 0 0, .int .i64 0] 78 (0, 0))) ∧ Hid (w.grownBy wx none))
  case first =>
    go_wp2_with fail
    go_loopw [4] (fun _ wx => ∃ (f : Nat) (L : List ByteArray) (u : Nat) (rv : Value), Hid (halfLoop T secs f L u = FIN ∧ N - u ≤ f ∧ L.length ≤ u ∧ u ≤ N) ∧ Hid (wx.heap[HB]? = some (.cells #[.int .u32 T, rv, .int .i64 u] 78 (0, 0))) ∧ Hid (wx.ownsRow 0 9 1 rv L.length (strsV L) ∧ ∀ x, rv.ownBlock = some x → HB < x) ∧ Hid (wx.heap[w.heap.size]? = some (.cells #[.int .u32 0, .slice none 0 0, .int .i64 0] 78 (0, 0))) ∧ Hid (w.grownBy wx none)) (fun _ wx => N - usedIn wx HB)
    case atStart => exact ⟨N, [], 0, .slice none 0 0, ⟨HFIN.out, by omega, Nat.le_refl _, Nat.zero_le _⟩, HH4.out, ⟨World.ownsRow_nil _ _ _ _, by simp [Value.ownBlock]⟩, HR4.out, HG4.out⟩
    case round =>
      clear HH4 HR4 HG4
      obtain ⟨f, L, u, rv, HF, HH, HO, HRR, HG⟩ := hrel
      obtain ⟨ra, rc, rfl⟩ := slice_own' HO.out.1
      have k0 := cell_of HH.out 0
      have k1 := cell_of HH.out 1
      have k2 := cell_of HH.out 2
      simp at k0 k1 k2
      have hun := HF.out.2.2.2
      have hLu := HF.out.2.2.1
      have HUI := Lib.hid (usedIn_of HH.out)
      by_cases huN : u < N
      · have d1 : (u : Int) < (N : Int) := by omega
        have d0 : (0 : Int) ≤ (u : Int) := by omega
        have d2 : (u : Int) ≤ (vc : Int) := by omega
        have d3 : ¬ vc = u := by have := HCP.out.1; omega
        have d4 : ((vc : Int) = (u : Int)) = False := by simp; have := HCP.out.1; omega
        have hsub : ∀ w', w.grownBy w' none → StrsAt w' (.slice (some ⟨vg, vo + u, none⟩) (N - u) (vc - u)) (secs.drop u) := fun w' h => strsAt_drop (HV.out.grown h) u (by have := HN.out; omega) (by rw [List.length_drop, HN.out])
        have hdl : (secs.drop u).length = N - u := by rw [List.length_drop, HN.out]
        have HRD : Hid (∀ w', w.grownBy w' none → Calls Tryz.prog 60 #[.agg #[.int .u32 T, .slice ra L.length rc, .int .i64 u], .slice (some ⟨vg, vo + u, none⟩) (N - u) (vc - u)] w' fun e w'' => e = .returned (.tuple (optV (readS T L.length (secs.drop u)))) ∧ w'.grownBy w'' none) :=
          fun w' h => hread_any T L.length (by have := HZ0.out.2; omega) (by omega) ra rc _ w' _ (secs.drop u) (hsub w' h) (by omega) (by omega) (fun x hx => H64.out x (List.mem_of_mem_drop hx)) (by rintro a n c ⟨⟩; exact ⟨by have := HCP.out.1; omega, by unfold maxLen; have := HCP.out.2; omega⟩) (HR.out.grown h)
        have hrs := readS_size T L.length (secs.drop u)
        rw [hdl] at hrs
        obtain ⟨r, hr'⟩ : ∃ r, readS T L.length (secs.drop u) = r := ⟨_, rfl⟩
        rw [hr'] at HRD hrs
        have HRR' := Lib.hid hr'
        have HKK : Hid (wr.cell? ⟨HB, 0, none⟩ = some (.int .u32 T) ∧ wr.cell? ⟨HB, 1, none⟩ = some (.slice ra L.length rc) ∧ wr.cell? ⟨HB, 2, none⟩ = some (.int .i64 u)) := ⟨k0, k1, k2⟩
        have hG : w.grownBy wr.drew none := grownBy_drew HG.out
        have hG3 : wr.grownBy wr.drew none := grownBy_drew (World.grownBy.refl _ _)
        have HRSZ := Lib.hid hrs
        clear hsub hdl hr' hrs
        cases r with
        | none =>
          have HRE : Hid (∀ w', w.grownBy w' none → Calls Tryz.prog 60 #[.agg #[.int .u32 T, .slice ra L.length rc, .int .i64 u], .slice (some ⟨vg, vo + u, none⟩) (N - u) (vc - u)] w' fun e w'' => e = .returned (.tuple #[.string ⟨#[]⟩, .bool false]) ∧ w'.grownBy w'' none) := HRD.out
          clear HRD
          go_wp2_with fail
          go_region_held3 (fun w' => w'.cell? ⟨HB, 0, none⟩ = some (.int .u32 T) ∧ w'.cell? ⟨HB, 1, none⟩ = some (.slice ra L.length rc) ∧ w'.cell? ⟨HB, 2, none⟩ = some (.int .i64 u)) (first | exact ck | exact HKK.out)
            ((go_at_call 60; refine (HRE.out _ hG).mono ?_; rintro e wn ⟨rfl, gn⟩; have hG := grownBy_trans hG gn; have hG3 := grownBy_trans hG3 gn; have ck := held_ck HKK.out hG3))
          go_wp2_with fail
          go_meet
          case rel =>
            refine ⟨L, u, .slice ra L.length rc, ⟨?_, hLu, hun⟩, hG3.heap HH.out (by simp), ⟨own_turn HO.out.1 (S := fun _ => False) (Turn.of_grown hG3) (fun _ _ q => q), HO.out.2⟩, hG3.heap HRR.out (by simp), hG⟩
            rw [← HF.out.1]
            cases f with
            | zero => rfl
            | succ f => rw [halfLoop, if_pos (by rw [HN.out]; exact huN), HRR'.out]
        | some S =>
          have HRE : Hid (∀ w', w.grownBy w' none → Calls Tryz.prog 60 #[.agg #[.int .u32 T, .slice ra L.length rc, .int .i64 u], .slice (some ⟨vg, vo + u, none⟩) (N - u) (vc - u)] w' fun e w'' => e = .returned (.tuple #[.string S, .bool true]) ∧ w'.grownBy w'' none) := HRD.out
          have HSZ := Lib.hid (HRSZ.out S rfl)
          clear HRD HRSZ
          go_wp2_with fail
          go_region_held3 (fun w' => w'.cell? ⟨HB, 0, none⟩ = some (.int .u32 T) ∧ w'.cell? ⟨HB, 1, none⟩ = some (.slice ra L.length rc) ∧ w'.cell? ⟨HB, 2, none⟩ = some (.int .i64 u)) (first | exact ck | exact HKK.out)
            ((go_at_call 60; refine (HRE.out _ hG).mono ?_; rintro e wn ⟨rfl, gn⟩; have hG := grownBy_trans hG gn; have hG3 := grownBy_trans hG3 gn; have ck := held_ck HKK.out hG3))
          have hown := own_turn HO.out.1 (S := fun _ => False) (Turn.of_grown hG3) (fun _ _ q => q)
          have hh5 := hG3.heap HH.out (by simp)
          have hr5 := hG3.heap HRR.out (by simp)
          have HWI := Lib.hid (with_any T u _ L S (by have := HSZ.out.1; omega) (by omega) (by omega) wn hown)
          have q0 := cell_of hh5 0
          have q1 := cell_of hh5 1
          have q2 := cell_of hh5 2
          simp at q0 q1 q2
          have H5 := Lib.hid (And.intro hh5 (And.intro hr5 hG))
          clear hown hh5 hr5 hG hG3 ck
          go_wp2_with fail
          refine HWI.out.mono ?_
          rintro e w6 ⟨g6, c6, rfl, hrow6, hg6, hat6⟩
          have hHBl : HB < wn.heap.size := (Array.getElem?_eq_some_iff.1 H5.out.1).1
          have hne1 : (Value.slice ra L.length rc).ownBlock ≠ some HB := fun e => by have := HO.out.2 HB e; omega
          have hne2 : (Value.slice ra L.length rc).ownBlock ≠ some w.heap.size := fun e => by have := HO.out.2 _ e; have := HRB.out; omega
          have hh6 := hg6.heap H5.out.1 hne1
          have hr6 := hg6.heap H5.out.2.1 hne2
          have hgB : HB < g6 := by
            rcases hat6 with e | e
            · exact HO.out.2 g6 e
            · omega
          have hg66 := grown_row H5.out.2.2 hg6 (fun x e => by have := HO.out.2 x e; have := HRB.out; omega)
          have p0 := cell_of hh6 0
          have p1 := cell_of hh6 1
          have p2 := cell_of hh6 2
          have f0 := free_of hh6 0
          have f1 := free_of hh6 1
          have f2 := free_of hh6 2
          simp at p0 p1 p2
          have H6 := Lib.hid (And.intro hh6 (And.intro hr6 (And.intro hrow6 (And.intro hgB hg66))))
          clear hh6 hr6 hrow6 hgB hg66 hg6 hat6 hne1 hne2 q0 q1 q2 HWI
          go_wp2_with fail
          obtain ⟨f', rfl⟩ : ∃ f', f = f' + 1 := ⟨f - 1, by have := HF.out.2.1; omega⟩
          have hfl := HF.out.1
          rw [halfLoop, if_pos (by rw [HN.out]; exact huN), HRR'.out] at hfl
          obtain ⟨w7, hW7⟩ : ∃ w7, ((w6.setCell ⟨HB, 0, none⟩ (.int .u32 T)).setCell ⟨HB, 1, none⟩ (.slice (some ⟨g6, 0, none⟩) (L.length + 1) c6)).setCell ⟨HB, 2, none⟩ (.int .i64 (↑u + ↑(partsN S.size))) = w7 := ⟨_, rfl⟩
          rw [hW7]
          have tt : Turn (fun i => i = HB) w6 w7 := by rw [← hW7]; exact (((Turn.refl (fun i => i = HB) w6).setCell (fun _ => rfl) _ _).setCell (fun _ => rfl) _ _).setCell (fun _ => rfl) _ _
          have hh7 : w7.heap[HB]? = some (.cells #[.int .u32 T, .slice (some ⟨g6, 0, none⟩) (L.length + 1) c6, .int .i64 (u + partsN S.size : Nat)] 78 (0, 0)) := by
            rw [← hW7, heap_setCell (heap_setCell (heap_setCell H6.out.1 0 _) 1 _) 2 _, Int.natCast_add]; rfl
          have hpp := partsN_pos S.size
          have hll : (L ++ [S]).length = L.length + 1 := by simp
          refine ⟨⟨f', L ++ [S], u + partsN S.size, .slice (some ⟨g6, 0, none⟩) (L.length + 1) c6, ⟨hfl, by have := HF.out.2.1; omega, by rw [hll]; omega, by have := HSZ.out.2; omega⟩, hh7, ⟨?_, ?_⟩, ?_, ?_⟩, ?_⟩
          · rw [hll]
            have hx6 : ∀ x, (Value.slice (some ⟨g6, 0, none⟩) (L.length + 1) c6).ownBlock = some x → x = g6 := fun x e => by simpa [Value.ownBlock] using e.symm
            exact own_turn H6.out.2.2.1 tt (fun x e q => by have := hx6 x e; have := H6.out.2.2.2.1; omega)
          · intro x e
            have : x = g6 := by simpa [Value.ownBlock] using e.symm
            rw [this]; exact H6.out.2.2.2.1
          · exact tt.heap H6.out.2.1 (by have := HRB.out; omega)
          · show w.grownBy w7 none
            rw [← hW7]
            exact grownBy_setNew (grownBy_setNew (grownBy_setNew H6.out.2.2.2.2 (by have := HRB.out; omega) _ _) (by have := HRB.out; omega) _ _) (by have := HRB.out; omega) _ _
          · rw [usedIn_of hh7, HUI.out]
            omega
      · have huN2 : u = N := by omega
        have d1 : ¬ (u : Int) < (N : Int) := by omega
        go_wp2_with fail
        go_meet
        case rel =>
          refine ⟨L, u, .slice ra L.length rc, ⟨?_, hLu, hun⟩, HH.out, HO.out, HRR.out, HG.out⟩
          rw [← HF.out.1]
          cases f with
          | zero => rfl
          | succ f => rw [halfLoop, if_neg (by rw [HN.out]; omega)]
  case rest =>
    obtain ⟨L, u, rv, HF, HH, HO, HRR, HG⟩ := hcut
    obtain ⟨ra, rc, rfl⟩ := slice_own' HO.out.1
    have k0 := cell_of HH.out 0
    have k1 := cell_of HH.out 1
    have k2 := cell_of HH.out 2
    have r0 := cell_of HRR.out 0
    have r1 := cell_of HRR.out 1
    have r2 := cell_of HRR.out 2
    have q0 := free_of HRR.out 0
    have q1 := free_of HRR.out 1
    have q2 := free_of HRR.out 2
    simp at k0 k1 k2 r0 r1 r2
    have hfin := HF.out.1
    have hhs := HHS.out
    rw [← hfin] at hhs
    by_cases hL : L = []
    · rw [if_pos hL] at hhs
      have HX := Lib.hid hhs
      have hl0 : L.length = 0 := by rw [hL]; rfl
      rw [hl0] at k1
      clear hhs hfin hL hl0
      go_wp2_with fail
      obtain ⟨w5, hW5⟩ : ∃ w5, ((wc.setCell ⟨w.heap.size, 0, none⟩ (.int .u32 0)).setCell ⟨w.heap.size, 1, none⟩ (.slice none 0 0)).setCell ⟨w.heap.size, 2, none⟩ (.int .i64 0) = w5 := ⟨_, rfl⟩
      rw [hW5]
      have hr5 : w5.heap[w.heap.size]? = some (.cells #[.int .u32 0, .slice none 0 0, .int .i64 0] 78 (0, 0)) := by
        rw [← hW5, heap_setCell (heap_setCell (heap_setCell HRR.out 0 _) 1 _) 2 _]; rfl
      have p0 := cell_of hr5 0
      have p1 := cell_of hr5 1
      have p2 := cell_of hr5 2
      simp at p0 p1 p2
      have hg5 : w.grownBy w5 none := by
        rw [← hW5]
        exact grownBy_setNew (grownBy_setNew (grownBy_setNew HG.out (Nat.le_refl _) _ _) (Nat.le_refl _) _ _) (Nat.le_refl _) _ _
      exact bodyPost_ret (v := .agg #[.int .u32 0, .slice none 0 0, .int .i64 0]) (by simp [results, Tryz.results33, go_sem, p0, p1, p2]; try rfl) rfl ⟨.slice none 0 0, by rw [HX.out]; rfl, by rw [HX.out]; exact World.ownsRow_nil _ _ _ _, hg5⟩
    · rw [if_neg hL] at hhs
      have HX := Lib.hid hhs
      have hl1 : 1 ≤ L.length := by
        cases L with
        | nil => exact absurd rfl hL
        | cons a b => simp
      have hl2 : ((L.length : Int) == 0) = false := by simp; omega
      clear hhs hfin hL
      go_wp2_with fail
      obtain ⟨w5, hW5⟩ : ∃ w5, ((wc.setCell ⟨w.heap.size, 0, none⟩ (.int .u32 T)).setCell ⟨w.heap.size, 1, none⟩ (.slice ra L.length rc)).setCell ⟨w.heap.size, 2, none⟩ (.int .i64 u) = w5 := ⟨_, rfl⟩
      rw [hW5]
      have hr5 : w5.heap[w.heap.size]? = some (.cells #[.int .u32 T, .slice ra L.length rc, .int .i64 u] 78 (0, 0)) := by
        rw [← hW5, heap_setCell (heap_setCell (heap_setCell HRR.out 0 _) 1 _) 2 _]; rfl
      have p0 := cell_of hr5 0
      have p1 := cell_of hr5 1
      have p2 := cell_of hr5 2
      simp at p0 p1 p2
      have hg5 : w.grownBy w5 none := by
        rw [← hW5]
        exact grownBy_setNew (grownBy_setNew (grownBy_setNew HG.out (Nat.le_refl _) _ _) (Nat.le_refl _) _ _) (Nat.le_refl _) _ _
      have ho5 : w5.ownsRow 0 9 1 (.slice ra L.length rc) L.length (strsV L) := by
        rw [← hW5]
        exact own_turn HO.out.1 (S := fun i => i = w.heap.size) ((((Turn.refl (fun i => i = w.heap.size) wc).setCell (fun _ => rfl) _ _).setCell (fun _ => rfl) _ _).setCell (fun _ => rfl) _ _) (fun x e q => by have := HO.out.2 x e; have := HRB.out; omega)
      have ho6 := own_up ho5 (B' := w.heap.size) (fun x e => by have := HO.out.2 x e; have := HRB.out; omega)
      exact bodyPost_ret (v := .agg #[.int .u32 T, .slice ra L.length rc, .int .i64 u]) (by simp [results, Tryz.results33, go_sem, p0, p1, p2]; try rfl) rfl ⟨.slice ra L.length rc, by rw [HX.out], by rw [HX.out]; exact ho6, hg5⟩
/-- halfOf of any sectors -/
theorem halfOf_any (w : World) (v : Value) (secs : List ByteArray) (hv : StrsAt w v secs) (h0 : 0 < secs.length) (hl : secs.length ≤ 1024) (h64 : ∀ x ∈ secs, x.size = 64) (hcap : ∀ a n c, v = .slice a n c → n ≤ c ∧ c ≤ maxLen) (hr : ShaReady w) :
    Calls Tryz.prog 33 #[v] w fun e w' => ∃ hv, e = .returned (.agg #[.int .u32 (halfS secs).turn, hv, .int .i64 (halfS secs).used]) ∧ w'.ownsRow w.heap.size 9 1 hv (halfS secs).recs.length (strsV (halfS secs).recs) ∧ w.grownBy w' none := by
  by_cases hT : turnOf (secs.headD ⟨#[]⟩) = 0
  · have e : halfS secs = ⟨0, [], 0⟩ := by unfold halfS; rw [if_pos hT]
    obtain ⟨s0, rest0, hs0⟩ : ∃ s0 rest0, secs = s0 :: rest0 := by
      cases secs with
      | nil => simp at h0
      | cons a b => exact ⟨a, b, rfl⟩
    rw [e]
    subst hs0
    refine (halfOf_none w v s0 rest0 hv (h64 s0 (by simp)) hT (by simp at hl; omega)).mono ?_
    rintro e w' ⟨rfl, h⟩
    exact ⟨.slice none 0 0, rfl, World.ownsRow_nil _ _ _ _, h⟩
  · exact halfOf_some w v secs hv h0 hl h64 hcap hr hT
end Go.Proofs.YtbakhdbnfmoceaaGreatDoor

namespace Go.Proofs.YtbakhdbnfmoceaaGreatDoor
open Go.RowKit
attribute [local irreducible] shaL

/-- the book that stands on a disk -/
def bookOf (D : DiskS) (first size : Nat) : BookS := pickS first size (fun p => halfS (secsK D (first + p * size) size)) 2
theorem halfS_ok (secs : List ByteArray) (h : ∀ x ∈ secs, x.size = 64) (h0 : 0 < secs.length) : (halfS secs).turn ≤ 4294967295 ∧ (halfS secs).recs.length ≤ (halfS secs).used ∧ (halfS secs).used ≤ secs.length := by
  unfold halfS
  have hs : (secs.headD ⟨#[]⟩).size = 64 := by
    cases secs with
    | nil => simp at h0
    | cons a b => exact h a (by simp)
  have ht := turnOf_lt _ hs
  have hl := halfLoop_ok (turnOf (secs.headD ⟨#[]⟩)) secs secs.length [] 0 (Nat.le_refl _) (Nat.zero_le _)
  split
  · exact ⟨Nat.zero_le _, Nat.le_refl _, Nat.zero_le _⟩
  · split
    · exact ⟨Nat.zero_le _, Nat.le_refl _, Nat.zero_le _⟩
    · exact ⟨by show turnOf _ ≤ _; omega, hl.1, hl.2⟩
theorem secsK_64 {F : Nat → Prop} {w : World} {b : Nat} {D : DiskS} (hD : DiskAt F w b D) (A k : Nat) (h : A + k ≤ D.last.length) : ∀ x ∈ secsK D A k, x.size = 64 := by
  intro x hx
  obtain ⟨i, hi, rfl⟩ := List.mem_map.1 hx
  rw [List.mem_range] at hi
  obtain ⟨_, _, _, m, _⟩ := hD
  exact readL_length m.secs rfl m.waits (by omega)
theorem bookOf_ok {F : Nat → Prop} {w : World} {b : Nat} {D : DiskS} (hD : DiskAt F w b D) (n first size : Nat) (hnl : D.last.length = n) (hn : n ≤ 1024) (h4 : 4 ≤ size) (ha : first + 2 * size ≤ n) : BookOK n (bookOf D first size) :=
  pickS_ok n first size _ ha hn h4 2 (Nat.le_refl _) (fun j hj => by
    have := halfS_ok (secsK D (first + j * size) size) (secsK_64 hD _ _ (by rw [hnl]; rcases (by omega : j = 0 ∨ j = 1) with rfl | rfl <;> omega)) (by rw [secsK_length]; omega)
    rwa [secsK_length] at this)
theorem bopen_any (n0 : Nat) (X : List Nat) (n : Nat) (w : World) (b first count size : Nat) (D : DiskS) (hD : KDisk n0 X w b D) (hX : ∀ x ∈ X, x < w.heap.size) (hn0 : n0 ≤ w.heap.size) (hnl : D.last.length = n) (hn : n ≤ 1024) (h8 : 8 ≤ count) (hsz : count / 2 = size) (ha : first + count ≤ n) (hon : D.on = true) (hwl : D.wait.length ≤ 1000000000) (hr : ShaReady w) :
    Calls Tryz.prog 17 #[.pointer (some ⟨b, 0, none⟩), .int .i64 first, .int .i64 count] w fun e w' => ∃ g, e = .returned (.tuple #[.pointer (some ⟨g, 0, none⟩), .int .i64 0]) ∧ KBook n0 X w' g b (bookOf D first size) D ∧ w.grownBy w' none := by
  have hs4 : 4 ≤ size := by omega
  have h64 : ∀ p, p < 2 → ∀ x ∈ secsK D (first + p * size) size, x.size = 64 := fun p hp => secsK_64 hD _ _ (by rw [hnl]; rcases (by omega : p = 0 ∨ p = 1) with rfl | rfl <;> omega)
  refine (open_any _ n w b D first count size hD hnl hn h8 hsz ha hon hwl (fun p => halfS (secsK D (first + p * size) size)) (fun j hj => ?_) ?_).mono ?_
  · have := halfS_ok (secsK D (first + j * size) size) (h64 j hj) (by rw [secsK_length]; omega)
    rwa [secsK_length] at this
  · intro p hp w' v hg hv hcap
    exact halfOf_any w' v _ hv (by rw [secsK_length]; omega) (by rw [secsK_length]; omega) (h64 p hp) hcap (hr.grown hg)
  · rintro e w' ⟨g, rv, rfl, hM, hg, hrr, k⟩
    exact ⟨g, rfl, open_book hD hX hn0 hM hg hrr k, k⟩
end Go.Proofs.YtbakhdbnfmoceaaGreatDoor

namespace Go.Proofs.YtbakhdbnfmoceaaGreatDoor
open Go.RowKit
attribute [local irreducible] shaL

theorem sumS_at (b : ByteArray) (i : Nat) (h : i < b.size) : (sumS b).data.toList[i]? = b.data.toList[i]? := by
  unfold sumS
  rw [ByteArray.data_append, Array.toList_append, List.getElem?_append_left (by simpa using h)]
theorem secS_at (turn num : Nat) (s : ByteArray) (i k : Nat) (h : k < 56) : (secS turn num s i).data.toList[k]? = (bodyL turn num s i)[k]? := by
  unfold secS
  rw [sumS_at _ _ (by rw [str_size, bodyL_length]; exact h)]
  rfl
theorem be1 (n : Nat) (h : n < 256) : be n 1 = [UInt8.ofNat n] := by
  show be (n / 256) 0 ++ [UInt8.ofNat (n % 256)] = _
  rw [Nat.mod_eq_of_lt h]; rfl
theorem val_be (n : Nat) : ∀ k, n < 256 ^ k → val (be n k) = n
  | 0, h => by simp at h; subst h; rfl
  | k + 1, h => by
    rw [be, val_snoc, val_be4 n k h]
    simp
    omega
where
  val_be4 (n k : Nat) (h : n < 256 ^ (k + 1)) : val (be (n / 256) k) = n / 256 := val_be (n / 256) k (by rw [Nat.div_lt_iff_lt_mul (by decide)]; rwa [Nat.pow_succ] at h)
theorem turnOf_secS (turn num : Nat) (s : ByteArray) (i : Nat) (ht : turn < 4294967296) : turnOf (secS turn num s i) = turn := by
  have e : (secS turn num s i).data.toList.take 4 = be turn 4 := by
    apply List.ext_getElem?
    intro k
    by_cases hk : k < 4
    · rw [List.getElem?_take, if_pos hk, secS_at _ _ _ _ _ (by omega)]
      unfold bodyL
      simp only [List.append_assoc]
      rw [List.getElem?_append_left (by rw [be_length]; exact hk)]
    · rw [List.getElem?_take, if_neg hk, List.getElem?_eq_none (by rw [be_length]; omega)]
  unfold turnOf
  rw [e, val_be turn 4 (by simpa using ht)]
theorem byte7 (turn num : Nat) (s : ByteArray) (i : Nat) (hp : partsN s.size < 256) (hi : i < 256) : byteAt (secS turn num s i) 7 = partsN s.size := by
  unfold byteAt
  rw [secS_at _ _ _ _ _ (by decide)]
  unfold bodyL
  rw [be1 _ hi, be1 _ hp]
  simp only [List.append_assoc]
  rw [List.getElem?_append_right (by rw [be_length]; decide), be_length, List.getElem?_append_right (by rw [be_length]; decide), be_length]
  simp
  omega
theorem byte8 (turn num : Nat) (s : ByteArray) (i : Nat) (hp : partsN s.size < 256) (hi : i < 256) : byteAt (secS turn num s i) 8 = (partS s i).size := by
  have hps := partS_size s i
  unfold byteAt
  rw [secS_at _ _ _ _ _ (by decide)]
  unfold bodyL
  rw [be1 _ hi, be1 _ hp, be1 (partS s i).size (by omega)]
  simp only [List.append_assoc]
  rw [List.getElem?_append_right (by rw [be_length]; decide), be_length, List.getElem?_append_right (by rw [be_length]; decide), be_length]
  simp
  omega
theorem body_part (turn num : Nat) (s : ByteArray) (i k : Nat) (hk : k < (partS s i).size) : (bodyL turn num s i)[17 + k]? = (partS s i).data.toList[k]? := by
  have h1 : (nameS turn num s).data.toList.length = 8 := nameS_size turn num s
  have e : bodyL turn num s i = (be turn 4 ++ be num 2 ++ be i 1 ++ be (partsN s.size) 1 ++ be (partS s i).size 1 ++ (nameS turn num s).data.toList) ++ ((partS s i).data.toList ++ List.replicate (39 - (partS s i).size) 0) := by
    unfold bodyL
    simp only [List.append_assoc]
  have hl : (be turn 4 ++ be num 2 ++ be i 1 ++ be (partsN s.size) 1 ++ be (partS s i).size 1 ++ (nameS turn num s).data.toList).length = 17 := by
    simp only [List.length_append, be_length, h1]
  rw [e, List.getElem?_append_right (by omega), hl, Nat.add_sub_cancel_left, List.getElem?_append_left (by simpa using hk)]
theorem partOf_secS (turn num : Nat) (s : ByteArray) (i : Nat) (hp : partsN s.size < 256) (hi : i < 256) : (partOf (secS turn num s i)).data.toList = (partS s i).data.toList := by
  have hps := partS_size s i
  have h64 := secS_size turn num s i
  unfold partOf
  rw [byte8 turn num s i hp hi]
  apply List.ext_getElem?
  intro k
  rw [ByteArray.data_extract, Array.toList_extract]
  by_cases hk : k < (partS s i).size
  · rw [← body_part turn num s i k hk, ← secS_at turn num s i (17 + k) (by omega)]
    simp [List.getElem?_take, List.getElem?_drop, hk]
  · rw [List.getElem?_eq_none (by simp; omega), List.getElem?_eq_none (by simpa using hk)]
theorem str_self (s : ByteArray) : str s.data.toList = s := by cases s; rfl
theorem partS_zero (s : ByteArray) (h : s.size ≤ 39) : partS s 0 = s := by
  unfold partS
  rw [show 39 * 0 = 0 from rfl, show min (39 * (0 + 1)) s.size = s.size from by omega]
  apply ByteArray.ext
  rw [ByteArray.data_extract]
  simp
theorem readS_cons (turn num : Nat) (x : ByteArray) (R : List ByteArray) : readS turn num (x :: R) = if (x :: R).length < byteAt x 7 then none
  else if ((x :: R).take (byteAt x 7)).any (fun x => decide (39 < byteAt x 8)) then none
  else if 900 < (gatherL ((x :: R).take (byteAt x 7))).length then none
  else if nextS turn num (str (gatherL ((x :: R).take (byteAt x 7)))) = (x :: R).take (byteAt x 7) then some (str (gatherL ((x :: R).take (byteAt x 7)))) else none := rfl
theorem halfS_cons (x : ByteArray) (R : List ByteArray) : halfS (x :: R) = if turnOf x = 0 then ⟨0, [], 0⟩
  else if (halfLoop (turnOf x) (x :: R) (x :: R).length [] 0).1 = [] then ⟨0, [], 0⟩
  else ⟨turnOf x, (halfLoop (turnOf x) (x :: R) (x :: R).length [] 0).1, (halfLoop (turnOf x) (x :: R) (x :: R).length [] 0).2⟩ := rfl
theorem loop_some (turn : Nat) (secs : List ByteArray) (f : Nat) (L : List ByteArray) (u : Nat) (s : ByteArray) (hu : u < secs.length) (h : readS turn L.length (secs.drop u) = some s) : halfLoop turn secs (f + 1) L u = halfLoop turn secs f (L ++ [s]) (u + partsN s.size) := by
  rw [halfLoop, if_pos hu, h]
theorem loop_none (turn : Nat) (secs : List ByteArray) (f : Nat) (L : List ByteArray) (u : Nat) (hu : u < secs.length) (h : readS turn L.length (secs.drop u) = none) : halfLoop turn secs (f + 1) L u = (L, u) := by
  rw [halfLoop, if_pos hu, h]
theorem gather_one (x : ByteArray) : gatherL [x] = (partOf x).data.toList := by simp [gatherL]
/-- a record of one part is read as it was written -/
theorem readS_one (turn num : Nat) (s : ByteArray) (R : List ByteArray) (hs : s.size ≤ 39) : readS turn num (secS turn num s 0 :: R) = some s := by
  have hp : partsN s.size = 1 := by unfold partsN; split <;> omega
  have h7 := byte7 turn num s 0 (by omega) (by decide)
  have h8 := byte8 turn num s 0 (by omega) (by decide)
  rw [partS_zero s hs] at h8
  have hg : gatherL [secS turn num s 0] = s.data.toList := by
    rw [gather_one, partOf_secS turn num s 0 (by omega) (by decide), partS_zero s hs]
  have hn : nextS turn num s = [secS turn num s 0] := by unfold nextS nextK; rw [hp]; rfl
  rw [readS_cons]
  generalize secS turn num s 0 = x at h7 h8 hg hn
  have ht : (x :: R).take 1 = [x] := rfl
  have ha : ([x].any fun x => decide (39 < byteAt x 8)) = false := by simp [h8]; omega
  have hl : s.data.toList.length = s.size := rfl
  rw [h7, hp, ht, hg, ha, str_self, hn, if_neg (by simp), if_neg (by simp), if_neg (by omega), if_pos rfl]
/-- nothing stands in a sector of noughts -/
def zsec : ByteArray := str (zeros 64)
theorem readS_zero (turn num : Nat) (R : List ByteArray) : readS turn num (zsec :: R) = none := by
  have h7 : byteAt zsec 7 = 0 := by decide
  rw [readS_cons, h7]
  generalize zsec = x
  have ht : (x :: R).take 0 = [] := rfl
  have hg : gatherL [] = [] := rfl
  rw [ht, hg, if_neg (by simp), if_neg (by simp), if_neg (by simp), if_neg]
  intro h
  have := congrArg List.length h
  rw [nextS_length] at this
  have h1 := partsN_pos (str []).size
  simp at this
  omega
theorem halfS_zero (R : List ByteArray) : halfS (zsec :: R) = ⟨0, [], 0⟩ := by
  have h : turnOf zsec = 0 := by decide
  rw [halfS_cons, if_pos h]
/-- one record -/
theorem halfS_one (turn : Nat) (ht : turn < 4294967296) (h0 : turn ≠ 0) (s : ByteArray) (hs : s.size ≤ 39) (R : List ByteArray) : halfS (secS turn 0 s 0 :: zsec :: R) = ⟨turn, [s], 1⟩ := by
  have hp : partsN s.size = 1 := by unfold partsN; split <;> omega
  have hT : turnOf (secS turn 0 s 0) = turn := turnOf_secS turn 0 s 0 ht
  have h1 : readS turn ([] : List ByteArray).length ((secS turn 0 s 0 :: zsec :: R).drop 0) = some s := readS_one turn 0 s _ hs
  have hl : halfLoop turn (secS turn 0 s 0 :: zsec :: R) (secS turn 0 s 0 :: zsec :: R).length [] 0 = ([s], 1) := by
    generalize secS turn 0 s 0 = x at h1
    have e : (x :: zsec :: R).length = R.length + 1 + 1 := rfl
    rw [e, loop_some turn _ _ [] 0 s (by rw [e]; omega) h1, hp]
    have h2 : readS turn ([] ++ [s]).length ((x :: zsec :: R).drop (0 + 1)) = none := readS_zero turn _ R
    rw [loop_none turn _ _ ([] ++ [s]) (0 + 1) (by rw [e]; omega) h2]
    rfl
  rw [halfS_cons, hT, if_neg h0, hl, if_neg (by simp)]
end Go.Proofs.YtbakhdbnfmoceaaGreatDoor
