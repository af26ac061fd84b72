/- What a book holds in memory; the walks of begin, takes, Left, write. -/
import Derived.Test.YtfpbnfjlabhhoaaDoorLbC
namespace Go.Proofs.YtfpbnfjlabhhoaaDoor
open Go.RowKit
attribute [local irreducible] shaL

structure BookS where
  first : Nat
  size : Nat
  place : Nat
  turn : Nat
  recs : List ByteArray
  used : Nat
  failed : Bool
/-- a book's cells: its disk is block b, its records rv -/
def bookCells (b : Nat) (B : BookS) (rv : Value) : List Value := [.pointer (some ⟨b, 0, none⟩), .int .i64 B.first, .int .i64 B.size, .int .i64 B.place, .int .u32 B.turn, rv, .int .i64 B.used, .bool B.failed]
structure BookMem (w : World) (g b : Nat) (B : BookS) (rv : Value) : Prop where
  blk : w.heap[g]? = some (.cells (bookCells b B rv).toArray 45 (0, 0))
  recs : w.ownsRow 0 9 1 rv B.recs.length (strsV B.recs)
/-- a book that may be, on a disk of n sectors -/
structure BookOK (n : Nat) (B : BookS) : Prop where
  area : B.first + 2 * B.size ≤ n
  few : n ≤ 1024
  four : 4 ≤ B.size
  place : B.place ≤ 1
  turn : B.turn ≤ 4294967295
  recs : B.recs.length ≤ B.used
  used : B.used ≤ B.size
theorem BookMem.turned {S : Nat → Prop} {w w' : World} {g b : Nat} {B : BookS} {rv : Value} (h : BookMem w g b B rv) (k : Turn S w w') (hg : ¬ S g) (hr : ∀ x, rv.ownBlock = some x → ¬ S x) : BookMem w' g b B rv := ⟨k.heap h.blk hg, own_turn h.recs k hr⟩
theorem BookMem.grown {w w' : World} {g b : Nat} {B : BookS} {rv : Value} (h : BookMem w g b B rv) (k : w.grownBy w' none) : BookMem w' g b B rv := h.turned (S := fun _ => False) (Turn.of_grown k) (fun q => q) (fun _ _ q => q)
theorem BookMem.lt {w : World} {g b : Nat} {B : BookS} {rv : Value} (h : BookMem w g b B rv) : g < w.heap.size ∧ ∀ x, rv.ownBlock = some x → x < w.heap.size := ⟨(Array.getElem?_eq_some_iff.1 h.blk).1, fun x e => (h.recs.lt x e).2⟩
theorem BookMem.at_ {w : World} {g b : Nat} {B : BookS} {rv : Value} (h : BookMem w g b B rv) : w.cell? ⟨g, 0, none⟩ = some (.pointer (some ⟨b, 0, none⟩)) ∧ w.cell? ⟨g, 1, none⟩ = some (.int .i64 B.first) ∧ w.cell? ⟨g, 2, none⟩ = some (.int .i64 B.size) ∧ w.cell? ⟨g, 3, none⟩ = some (.int .i64 B.place) ∧
    w.cell? ⟨g, 4, none⟩ = some (.int .u32 B.turn) ∧ w.cell? ⟨g, 5, none⟩ = some rv ∧ w.cell? ⟨g, 6, none⟩ = some (.int .i64 B.used) ∧ w.cell? ⟨g, 7, none⟩ = some (.bool B.failed) :=
  ⟨cell_of h.blk 0, cell_of h.blk 1, cell_of h.blk 2, cell_of h.blk 3, cell_of h.blk 4, cell_of h.blk 5, cell_of h.blk 6, cell_of h.blk 7⟩

set_option maxRecDepth 100000 in
set_option maxHeartbeats 1600000 in
theorem begin_any (w : World) (g b : Nat) (B : BookS) (rv : Value) (h : BookMem w g b B rv) (p n : Nat) (hp : p ≤ 1) (ho : BookOK n B) :
    Calls Tryd.prog 21 #[.pointer (some ⟨g, 0, none⟩), .int .i64 p] w fun e w' => e = .returned (.int .i64 (B.first + p * B.size : Nat)) ∧ w.grownBy w' none := by
  obtain ⟨_, c1, c2, _⟩ := h.at_
  have h1 := ho.area
  have h2 := ho.few
  generalize B.first = f at *
  generalize B.size = z at *
  have e1 : (p : Int) * (z : Int) = ((p * z : Nat) : Int) := by rw [Int.natCast_mul]
  have hpz : p * z ≤ 1 * z := Nat.mul_le_mul_right _ hp
  have e2 : (f : Int) + ((p * z : Nat) : Int) = ((f + p * z : Nat) : Int) := by rw [Int.natCast_add]
  have e3 := wrap_i64_nat (p * z) (by omega)
  have e4 := wrap_i64_nat (f + p * z) (by omega)
  generalize p * z = q at e1 e2 e3 e4 ⊢
  generalize f + q = r at e2 e4 ⊢
  clear h ho
  go_enter Tryd.func21, Tryd.ntmps21
  go_wp2_with fail
  go_region
  all_goals
    go_wp2_with fail
    go_ret
    exact ⟨rfl, grownBy_drew (World.grownBy.refl _ _)⟩
theorem left_nil (w : World) : Calls Tryd.prog 9 #[.pointer none] w fun e w' => e = .returned (.int .i64 0) ∧ w = w' := by
  go_enter Tryd.func9, Tryd.ntmps9
  go_wp2_with fail
  go_ret
  exact ⟨rfl, rfl⟩
set_option maxRecDepth 100000 in
set_option maxHeartbeats 1600000 in
theorem bleft_any (w : World) (g b : Nat) (B : BookS) (rv : Value) (h : BookMem w g b B rv) (n : Nat) (ho : BookOK n B) :
    Calls Tryd.prog 9 #[.pointer (some ⟨g, 0, none⟩)] w fun e w' => e = .returned (.int .i64 (B.size - B.used : Nat)) ∧ w.grownBy w' none := by
  obtain ⟨_, _, c2, _, _, _, c6, _⟩ := h.at_
  have h1 := ho.area
  have h2 := ho.few
  have h3 := ho.used
  generalize B.used = u at *
  generalize B.size = z at *
  have e2 : (z : Int) - (u : Int) = ((z - u : Nat) : Int) := by omega
  have e4 := wrap_i64_nat (z - u) (by omega)
  generalize z - u = r at e2 e4 ⊢
  clear h ho
  go_enter Tryd.func9, Tryd.ntmps9
  go_wp2_with fail
  go_region
  all_goals
    go_wp2_with fail
    go_ret
    exact ⟨rfl, grownBy_drew (World.grownBy.refl _ _)⟩
/-- why a book takes no record -/
def takesI (B : BookS) (s : ByteArray) : Int := if 900 < s.size then 2 else if B.failed then 21 else 0
theorem takes_nil (s : ByteArray) (w : World) : Calls Tryd.prog 15 #[.pointer none, .string s] w fun e w' => e = .returned (.int .i64 1) ∧ w = w' := by
  go_enter Tryd.func15, Tryd.ntmps15
  go_wp2_with fail
  go_ret
  exact ⟨rfl, rfl⟩
theorem takes_any (w : World) (g b : Nat) (B : BookS) (rv : Value) (h : BookMem w g b B rv) (s : ByteArray) (hs : s.size ≤ maxLen) :
    Calls Tryd.prog 15 #[.pointer (some ⟨g, 0, none⟩), .string s] w fun e w' => e = .returned (.int .i64 (takesI B s)) ∧ w = w' := by
  obtain ⟨_, _, _, _, _, _, _, c7⟩ := h.at_
  unfold takesI
  unfold maxLen at hs
  clear h
  by_cases h9 : 900 < s.size
  · have h9' : (900 : Int) < (s.size : Int) := by omega
    rw [if_pos h9]
    go_enter Tryd.func15, Tryd.ntmps15
    go_wp2_with fail
    go_ret
    exact ⟨rfl, rfl⟩
  · have h9' : ¬ (900 : Int) < (s.size : Int) := by omega
    rw [if_neg h9]
    cases hf : B.failed with
    | true =>
      rw [hf] at c7
      go_enter Tryd.func15, Tryd.ntmps15
      go_wp2_with fail
      go_ret
      exact ⟨rfl, rfl⟩
    | false =>
      rw [hf] at c7
      go_enter Tryd.func15, Tryd.ntmps15
      go_wp2_with fail
      go_ret
      exact ⟨rfl, rfl⟩

/-- what a book's writing of sectors tells, and leaves -/
def writesS : DiskS → Nat → List ByteArray → Int × DiskS
  | D, _, [] => if D.fuse = 0 then (8, cutD D D.keep) else (0, syncD { D with fuse := decF D.fuse })
  | D, i, s :: r => if D.fuse = 0 then (8, cutD D D.keep) else writesS (wroteD D i s) (i + 1) r

set_option maxRecDepth 100000 in
set_option maxHeartbeats 1600000 in
theorem write_all (n0 : Nat) (Y : List Nat) (w : World) (g b : Nat) (cs : List Value) (D : DiskS) (hY : ∀ x ∈ Y, x < w.heap.size) (hn : n0 ≤ w.heap.size) (hg : g ∈ Y) (hb : w.heap[g]? = some (.cells (.pointer (some ⟨b, 0, none⟩) :: cs).toArray 45 (0, 0)))
    (at_ vg vo c : Nat) (L : List ByteArray) (hv : StrsAt w (.slice (some ⟨vg, vo, none⟩) L.length c) L) (hvY : vg ∈ Y) (hL : ∀ t ∈ L, t.size ≤ 64) (hD : KDisk n0 Y w b D) (hon : D.on = true)
    (hat : at_ + L.length ≤ D.last.length) (hlast : D.last.length ≤ 1024) (hwl : D.wait.length ≤ 100000000) (hf : D.fuse ≤ 9223372036854775807) (hk : D.keep.length ≤ 9223372036854775807) (h0 : 0 < L.length) :
    Calls Tryd.prog 26 #[.pointer (some ⟨g, 0, none⟩), .int .i64 at_, .slice (some ⟨vg, vo, none⟩) L.length c] w fun e w' => e = .returned (.int .i64 (writesS D at_ L).1) ∧ KDisk n0 Y w' b (writesS D at_ L).2 ∧ Turn (rest n0 Y) w w' := by
  have HY := Lib.hid hY
  have HG := Lib.hid hg
  have HB := Lib.hid hb
  have HV := Lib.hid hv
  have HVY := Lib.hid hvY
  have HL := Lib.hid hL
  have HN := Lib.hid hn
  have HD := Lib.hid (And.intro hD (And.intro hon (And.intro hf hk)))
  have HAT := Lib.hid (And.intro hat hlast)
  have hLl : (L.length : Int) ≤ 1024 := by omega
  have hati : (at_ : Int) ≤ 1024 := by omega
  have HWL := Lib.hid hwl
  clear hY hg hb hv hvY hL hD hon hf hk hwl hn
  go_enter Tryd.func26, Tryd.ntmps26
  go_wp2_with fail
  go_loopw [12] (fun iv wr => ∃ (k : Nat) (E : DiskS), k ≤ L.length ∧ iv = .int .i64 k ∧ Hid (KDisk n0 Y wr b E ∧ E.on = true ∧ E.fuse ≤ 9223372036854775807 ∧ E.keep.length ≤ 9223372036854775807 ∧ E.last.length = D.last.length ∧ E.wait.length = D.wait.length + k) ∧ Hid (writesS E (at_ + k) (L.drop k) = writesS D at_ L) ∧ Hid (Turn (rest n0 Y) w wr)) (fun iv _ => L.length - (intOf iv).toNat)
  case atStart => exact ⟨0, D, Nat.zero_le _, rfl, ⟨HD.out.1, HD.out.2.1, HD.out.2.2.1, HD.out.2.2.2, rfl, rfl⟩, by show _ = _; rw [Nat.add_zero, List.drop_zero], Turn.refl _ _⟩
  case round =>
    obtain ⟨k, E, hkl, rfl, HE, HW, HT⟩ := hrel
    have hY' : ∀ x ∈ Y, x < wr.heap.size := fun x hx => Nat.lt_of_lt_of_le (HY.out x hx) HT.out.size
    have hn' : n0 ≤ wr.heap.size := Nat.le_trans HN.out HT.out.size
    have hb' : wr.heap[g]? = _ := HT.out.inX HG.out HB.out
    have c0 := cell_of hb' 0
    simp at c0
    have HYN := Lib.hid (And.intro hY' hn')
    clear hb' hY' hn'
    by_cases hlt : k < L.length
    · have d1 : (k : Int) < (L.length : Int) := by omega
      have d0 : (0 : Int) ≤ (k : Int) := by omega
      obtain ⟨s, hs⟩ : ∃ s, L[k]? = some s := ⟨_, List.getElem?_eq_getElem hlt⟩
      have hds : L.drop k = s :: L.drop (k + 1) := by rw [List.drop_eq_getElem_cons hlt]; congr 1; exact (List.getElem?_eq_some_iff.1 hs).2
      have hsz := HL.out s (List.mem_of_getElem? hs)
      obtain ⟨vg', vo', he, hcell⟩ := HV.out.at_ k s hs
      cases he
      have cs' : wr.cell? ⟨vg, vo + k, none⟩ = some (.string s) := (HT.out.cell (HY.out _ HVY.out) (fun q => q.2 HVY.out) _).trans hcell
      obtain ⟨q, hq⟩ : ∃ q, at_ + k = q := ⟨_, rfl⟩
      have e1 : (at_ : Int) + (k : Int) = (q : Int) := by omega
      have e5 : (q : Int) ≤ 2048 := by omega
      have HQ := Lib.hid hq
      have hw := HW.out
      rw [hds, hq] at hw
      have HW2 := Lib.hid hw
      clear hs hds hcell hw HW hq
      by_cases hf0 : E.fuse = 0
      · have HP := Lib.hid (write_power_k (X := Y) (n0 := n0) q s HE.out.1 HE.out.2.1 (by rw [HE.out.2.2.2.2.1]; have := HAT.out; have := HQ.out; omega) hsz hf0 HE.out.2.2.2.1 (by have := HE.out.2.2.2.2.2; have := HWL.out; have := HAT.out; omega))
        have hr : writesS E q (s :: L.drop (k + 1)) = (8, cutD E E.keep) := by rw [writesS, if_pos hf0]
        rw [HW2.out] at hr
        have HR := Lib.hid hr
        clear hr hf0
        go_wp2_with fail
        refine HP.out.mono ?_
        rintro e w2 ⟨rfl, k2, t2⟩
        go_wp2_with fail
        go_ret
        exact ⟨by rw [HR.out]; rfl, by rw [HR.out]; exact k2, HT.out.then t2⟩
      · have HP := Lib.hid (write_k (n0 := n0) HYN.out.1 HYN.out.2 q s HE.out.1 HE.out.2.1 (by rw [HE.out.2.2.2.2.1]; have := HAT.out; have := HQ.out; omega) hsz hf0 HE.out.2.2.1 (by have := HE.out.2.2.2.2.2; have := HWL.out; have := HAT.out; omega))
        have hr : writesS E q (s :: L.drop (k + 1)) = writesS (wroteD E q s) (q + 1) (L.drop (k + 1)) := by rw [writesS, if_neg hf0]
        rw [HW2.out] at hr
        have HR := Lib.hid hr
        clear hr hf0
        go_wp2_with fail
        refine HP.out.mono ?_
        rintro e w2 ⟨rfl, k2, t2⟩
        go_wp2_with fail
        go_roundw
        case rel =>
          refine ⟨k + 1, wroteD E q s, by omega, by go_num, ⟨k2, HE.out.2.1, ?_, HE.out.2.2.2.1, HE.out.2.2.2.2.1, ?_⟩, by show _ = _; rw [HR.out, ← HQ.out]; rfl, HT.out.then t2⟩
          · have := HE.out.2.2.1
            show decF E.fuse ≤ _
            unfold decF
            split <;> omega
          · show (E.wait ++ [_]).length = _
            rw [List.length_append, HE.out.2.2.2.2.2]
            show _ + 1 = _
            omega
        case measure => simp [intOf]; omega
    · have hkL : k = L.length := by omega
      have hw := HW.out
      rw [List.drop_of_length_le (by omega)] at hw
      have d1 : ¬ (k : Int) < (L.length : Int) := by omega
      have hEl : 0 < E.last.length := by rw [HE.out.2.2.2.2.1]; have := HAT.out; omega
      by_cases hf0 : E.fuse = 0
      · have HP := Lib.hid (sync_power_k (X := Y) (n0 := n0) HE.out.1 HE.out.2.1 hEl hf0 HE.out.2.2.2.1 (by have := HE.out.2.2.2.2.2; have := HWL.out; have := HAT.out; omega))
        rw [writesS, if_pos hf0] at hw
        have HR := Lib.hid hw.symm
        clear hw hf0
        go_wp2_with fail
        refine HP.out.mono ?_
        rintro e w2 ⟨rfl, k2, t2⟩
        go_wp2_with fail
        go_ret
        exact ⟨by rw [HR.out]; rfl, by rw [HR.out]; exact k2, HT.out.then t2⟩
      · have HP := Lib.hid (sync_k (X := Y) (n0 := n0) HE.out.1 HE.out.2.1 hEl hf0 HE.out.2.2.1 (by have := HE.out.2.2.2.2.2; have := HWL.out; have := HAT.out; omega))
        rw [writesS, if_neg hf0] at hw
        have HR := Lib.hid hw.symm
        clear hw hf0
        go_wp2_with fail
        refine HP.out.mono ?_
        rintro e w2 ⟨rfl, k2, t2⟩
        go_wp2_with fail
        go_ret
        exact ⟨by rw [HR.out]; rfl, by rw [HR.out]; exact k2, HT.out.then t2⟩
end Go.Proofs.YtfpbnfjlabhhoaaDoor
