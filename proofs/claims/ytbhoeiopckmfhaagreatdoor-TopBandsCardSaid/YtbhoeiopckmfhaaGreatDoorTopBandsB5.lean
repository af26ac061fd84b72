/- What a book holds in memory; the walks of begin, takes, Left, write. · The walk of a book's lay. · The walks of a Reader's calls. · The walks of a book's sectors, of halfOf where nothing stands. · What a half's sectors tell: plain. · The walk of a Reader's End. · Arrays of sixteen bytes: sliced, loaded, held against one another. No walk. · A region with no defer statement, in a round: it goes as outside. No program text. -/
import Derived.Test.YtbhoeiopckmfhaaGreatDoorTopBandsB4
import Derived.Deep.RegionHeld3
import Derived.Test.YtbhoeiopckmfhaaGreatDoorTopBandsB1
import Derived.ChangeKeysEq
import Derived.OwnWalkIn
import Derived.RangeFuncCalls
import Derived.OrdersIn
namespace Go.Proofs.YtbhoeiopckmfhaaGreatDoor
open Go.RowKit
attribute [local irreducible] shaL

structure BookS where
  first : Nat
  size : Nat
  place : Nat
  turn : Nat
  recs : List ByteArray
  used : Nat
  failed : Bool
/-- a book's cells: its disk is block b, its records rv -/
def bookCells (b : Nat) (B : BookS) (rv : Value) : List Value := [.pointer (some ⟨b, 0, none⟩), .int .i64 B.first, .int .i64 B.size, .int .i64 B.place, .int .u32 B.turn, rv, .int .i64 B.used, .bool B.failed]
structure BookMem (w : World) (g b : Nat) (B : BookS) (rv : Value) : Prop where
  blk : w.heap[g]? = some (.cells (bookCells b B rv).toArray 165 (0, 0))
  recs : w.ownsRow 0 9 1 rv B.recs.length (strsV B.recs)
/-- a book that may be, on a disk of n sectors -/
structure BookOK (n : Nat) (B : BookS) : Prop where
  area : B.first + 2 * B.size ≤ n
  few : n ≤ 1024
  four : 4 ≤ B.size
  place : B.place ≤ 1
  turn : B.turn ≤ 4294967295
  recs : B.recs.length ≤ B.used
  used : B.used ≤ B.size
theorem BookMem.turned {S : Nat → Prop} {w w' : World} {g b : Nat} {B : BookS} {rv : Value} (h : BookMem w g b B rv) (k : Turn S w w') (hg : ¬ S g) (hr : ∀ x, rv.ownBlock = some x → ¬ S x) : BookMem w' g b B rv := ⟨k.heap h.blk hg, own_turn h.recs k hr⟩
theorem BookMem.grown {w w' : World} {g b : Nat} {B : BookS} {rv : Value} (h : BookMem w g b B rv) (k : w.grownBy w' none) : BookMem w' g b B rv := h.turned (S := fun _ => False) (Turn.of_grown k) (fun q => q) (fun _ _ q => q)
theorem BookMem.lt {w : World} {g b : Nat} {B : BookS} {rv : Value} (h : BookMem w g b B rv) : g < w.heap.size ∧ ∀ x, rv.ownBlock = some x → x < w.heap.size := ⟨(Array.getElem?_eq_some_iff.1 h.blk).1, fun x e => (h.recs.lt x e).2⟩
theorem BookMem.at_ {w : World} {g b : Nat} {B : BookS} {rv : Value} (h : BookMem w g b B rv) : w.cell? ⟨g, 0, none⟩ = some (.pointer (some ⟨b, 0, none⟩)) ∧ w.cell? ⟨g, 1, none⟩ = some (.int .i64 B.first) ∧ w.cell? ⟨g, 2, none⟩ = some (.int .i64 B.size) ∧ w.cell? ⟨g, 3, none⟩ = some (.int .i64 B.place) ∧
    w.cell? ⟨g, 4, none⟩ = some (.int .u32 B.turn) ∧ w.cell? ⟨g, 5, none⟩ = some rv ∧ w.cell? ⟨g, 6, none⟩ = some (.int .i64 B.used) ∧ w.cell? ⟨g, 7, none⟩ = some (.bool B.failed) :=
  ⟨cell_of h.blk 0, cell_of h.blk 1, cell_of h.blk 2, cell_of h.blk 3, cell_of h.blk 4, cell_of h.blk 5, cell_of h.blk 6, cell_of h.blk 7⟩

set_option maxRecDepth 100000 in
set_option maxHeartbeats 1600000 in
theorem begin_any (w : World) (g b : Nat) (B : BookS) (rv : Value) (h : BookMem w g b B rv) (p n : Nat) (hp : p ≤ 1) (ho : BookOK n B) :
    Calls Tryz.prog 129 #[.pointer (some ⟨g, 0, none⟩), .int .i64 p] w fun e w' => e = .returned (.int .i64 (B.first + p * B.size : Nat)) ∧ w.grownBy w' none := by
  obtain ⟨_, c1, c2, _⟩ := h.at_
  have h1 := ho.area
  have h2 := ho.few
  generalize B.first = f at *
  generalize B.size = z at *
  have e1 : (p : Int) * (z : Int) = ((p * z : Nat) : Int) := by rw [Int.natCast_mul]
  have hpz : p * z ≤ 1 * z := Nat.mul_le_mul_right _ hp
  have e2 : (f : Int) + ((p * z : Nat) : Int) = ((f + p * z : Nat) : Int) := by rw [Int.natCast_add]
  have e3 := wrap_i64_nat (p * z) (by omega)
  have e4 := wrap_i64_nat (f + p * z) (by omega)
  generalize p * z = q at e1 e2 e3 e4 ⊢
  generalize f + q = r at e2 e4 ⊢
  clear h ho
  go_enter Tryz.func129, Tryz.ntmps129
  go_wp2_with fail
  go_region
  all_goals
    go_wp2_with fail
    go_ret
    exact ⟨rfl, grownBy_drew (World.grownBy.refl _ _)⟩
theorem left_nil (w : World) : Calls Tryz.prog 135 #[.pointer none] w fun e w' => e = .returned (.int .i64 0) ∧ w = w' := by
  go_enter Tryz.func135, Tryz.ntmps135
  go_wp2_with fail
  go_ret
  exact ⟨rfl, rfl⟩
set_option maxRecDepth 100000 in
set_option maxHeartbeats 1600000 in
theorem bleft_any (w : World) (g b : Nat) (B : BookS) (rv : Value) (h : BookMem w g b B rv) (n : Nat) (ho : BookOK n B) :
    Calls Tryz.prog 135 #[.pointer (some ⟨g, 0, none⟩)] w fun e w' => e = .returned (.int .i64 (B.size - B.used : Nat)) ∧ w.grownBy w' none := by
  obtain ⟨_, _, c2, _, _, _, c6, _⟩ := h.at_
  have h1 := ho.area
  have h2 := ho.few
  have h3 := ho.used
  generalize B.used = u at *
  generalize B.size = z at *
  have e2 : (z : Int) - (u : Int) = ((z - u : Nat) : Int) := by omega
  have e4 := wrap_i64_nat (z - u) (by omega)
  generalize z - u = r at e2 e4 ⊢
  clear h ho
  go_enter Tryz.func135, Tryz.ntmps135
  go_wp2_with fail
  go_region
  all_goals
    go_wp2_with fail
    go_ret
    exact ⟨rfl, grownBy_drew (World.grownBy.refl _ _)⟩
/-- why a book takes no record -/
def takesI (B : BookS) (s : ByteArray) : Int := if 900 < s.size then 2 else if B.failed then 21 else 0
theorem takes_nil (s : ByteArray) (w : World) : Calls Tryz.prog 134 #[.pointer none, .string s] w fun e w' => e = .returned (.int .i64 1) ∧ w = w' := by
  go_enter Tryz.func134, Tryz.ntmps134
  go_wp2_with fail
  go_ret
  exact ⟨rfl, rfl⟩
theorem takes_any (w : World) (g b : Nat) (B : BookS) (rv : Value) (h : BookMem w g b B rv) (s : ByteArray) (hs : s.size ≤ maxLen) :
    Calls Tryz.prog 134 #[.pointer (some ⟨g, 0, none⟩), .string s] w fun e w' => e = .returned (.int .i64 (takesI B s)) ∧ w = w' := by
  obtain ⟨_, _, _, _, _, _, _, c7⟩ := h.at_
  unfold takesI
  unfold maxLen at hs
  clear h
  by_cases h9 : 900 < s.size
  · have h9' : (900 : Int) < (s.size : Int) := by omega
    rw [if_pos h9]
    go_enter Tryz.func134, Tryz.ntmps134
    go_wp2_with fail
    go_ret
    exact ⟨rfl, rfl⟩
  · have h9' : ¬ (900 : Int) < (s.size : Int) := by omega
    rw [if_neg h9]
    cases hf : B.failed with
    | true =>
      rw [hf] at c7
      go_enter Tryz.func134, Tryz.ntmps134
      go_wp2_with fail
      go_ret
      exact ⟨rfl, rfl⟩
    | false =>
      rw [hf] at c7
      go_enter Tryz.func134, Tryz.ntmps134
      go_wp2_with fail
      go_ret
      exact ⟨rfl, rfl⟩

/-- what a book's writing of sectors tells, and leaves -/
def writesS : DiskS → Nat → List ByteArray → Int × DiskS
  | D, _, [] => if D.fuse = 0 then (8, cutD D D.keep) else (0, syncD { D with fuse := decF D.fuse })
  | D, i, s :: r => if D.fuse = 0 then (8, cutD D D.keep) else writesS (wroteD D i s) (i + 1) r

set_option maxRecDepth 100000 in
set_option maxHeartbeats 1600000 in
theorem write_all (n0 : Nat) (Y : List Nat) (w : World) (g b : Nat) (cs : List Value) (D : DiskS) (hY : ∀ x ∈ Y, x < w.heap.size) (hn : n0 ≤ w.heap.size) (hg : g ∈ Y) (hb : w.heap[g]? = some (.cells (.pointer (some ⟨b, 0, none⟩) :: cs).toArray 165 (0, 0)))
    (at_ vg vo c : Nat) (L : List ByteArray) (hv : StrsAt w (.slice (some ⟨vg, vo, none⟩) L.length c) L) (hvY : vg ∈ Y) (hL : ∀ t ∈ L, t.size ≤ 64) (hD : KDisk n0 Y w b D) (hon : D.on = true)
    (hat : at_ + L.length ≤ D.last.length) (hlast : D.last.length ≤ 1024) (hwl : D.wait.length ≤ 100000000) (hf : D.fuse ≤ 9223372036854775807) (hk : D.keep.length ≤ 9223372036854775807) (h0 : 0 < L.length) :
    Calls Tryz.prog 171 #[.pointer (some ⟨g, 0, none⟩), .int .i64 at_, .slice (some ⟨vg, vo, none⟩) L.length c] w fun e w' => e = .returned (.int .i64 (writesS D at_ L).1) ∧ KDisk n0 Y w' b (writesS D at_ L).2 ∧ Turn (rest n0 Y) w w' := by
  have HY := Lib.hid hY
  have HG := Lib.hid hg
  have HB := Lib.hid hb
  have HV := Lib.hid hv
  have HVY := Lib.hid hvY
  have HL := Lib.hid hL
  have HN := Lib.hid hn
  have HD := Lib.hid (And.intro hD (And.intro hon (And.intro hf hk)))
  have HAT := Lib.hid (And.intro hat hlast)
  have hLl : (L.length : Int) ≤ 1024 := by omega
  have hati : (at_ : Int) ≤ 1024 := by omega
  have HWL := Lib.hid hwl
  clear hY hg hb hv hvY hL hD hon hf hk hwl hn
  go_enter Tryz.func171, Tryz.ntmps171
  go_wp2_with fail
  go_loopw [12] (fun iv wr => ∃ (k : Nat) (E : DiskS), k ≤ L.length ∧ iv = .int .i64 k ∧ Hid (KDisk n0 Y wr b E ∧ E.on = true ∧ E.fuse ≤ 9223372036854775807 ∧ E.keep.length ≤ 9223372036854775807 ∧ E.last.length = D.last.length ∧ E.wait.length = D.wait.length + k) ∧ Hid (writesS E (at_ + k) (L.drop k) = writesS D at_ L) ∧ Hid (Turn (rest n0 Y) w wr)) (fun iv _ => L.length - (intOf iv).toNat)
  case atStart => exact ⟨0, D, Nat.zero_le _, rfl, ⟨HD.out.1, HD.out.2.1, HD.out.2.2.1, HD.out.2.2.2, rfl, rfl⟩, by show _ = _; rw [Nat.add_zero, List.drop_zero], Turn.refl _ _⟩
  case round =>
    obtain ⟨k, E, hkl, rfl, HE, HW, HT⟩ := hrel
    have hY' : ∀ x ∈ Y, x < wr.heap.size := fun x hx => Nat.lt_of_lt_of_le (HY.out x hx) HT.out.size
    have hn' : n0 ≤ wr.heap.size := Nat.le_trans HN.out HT.out.size
    have hb' : wr.heap[g]? = _ := HT.out.inX HG.out HB.out
    have c0 := cell_of hb' 0
    simp at c0
    have HYN := Lib.hid (And.intro hY' hn')
    clear hb' hY' hn'
    by_cases hlt : k < L.length
    · have d1 : (k : Int) < (L.length : Int) := by omega
      have d0 : (0 : Int) ≤ (k : Int) := by omega
      obtain ⟨s, hs⟩ : ∃ s, L[k]? = some s := ⟨_, List.getElem?_eq_getElem hlt⟩
      have hds : L.drop k = s :: L.drop (k + 1) := by rw [List.drop_eq_getElem_cons hlt]; congr 1; exact (List.getElem?_eq_some_iff.1 hs).2
      have hsz := HL.out s (List.mem_of_getElem? hs)
      obtain ⟨vg', vo', he, hcell⟩ := HV.out.at_ k s hs
      cases he
      have cs' : wr.cell? ⟨vg, vo + k, none⟩ = some (.string s) := (HT.out.cell (HY.out _ HVY.out) (fun q => q.2 HVY.out) _).trans hcell
      obtain ⟨q, hq⟩ : ∃ q, at_ + k = q := ⟨_, rfl⟩
      have e1 : (at_ : Int) + (k : Int) = (q : Int) := by omega
      have e5 : (q : Int) ≤ 2048 := by omega
      have HQ := Lib.hid hq
      have hw := HW.out
      rw [hds, hq] at hw
      have HW2 := Lib.hid hw
      clear hs hds hcell hw HW hq
      by_cases hf0 : E.fuse = 0
      · have HP := Lib.hid (write_power_k (X := Y) (n0 := n0) q s HE.out.1 HE.out.2.1 (by rw [HE.out.2.2.2.2.1]; have := HAT.out; have := HQ.out; omega) hsz hf0 HE.out.2.2.2.1 (by have := HE.out.2.2.2.2.2; have := HWL.out; have := HAT.out; omega))
        have hr : writesS E q (s :: L.drop (k + 1)) = (8, cutD E E.keep) := by rw [writesS, if_pos hf0]
        rw [HW2.out] at hr
        have HR := Lib.hid hr
        clear hr hf0
        go_wp2_with fail
        refine HP.out.mono ?_
        rintro e w2 ⟨rfl, k2, t2⟩
        go_wp2_with fail
        go_ret
        exact ⟨by rw [HR.out]; rfl, by rw [HR.out]; exact k2, HT.out.then t2⟩
      · have HP := Lib.hid (write_k (n0 := n0) HYN.out.1 HYN.out.2 q s HE.out.1 HE.out.2.1 (by rw [HE.out.2.2.2.2.1]; have := HAT.out; have := HQ.out; omega) hsz hf0 HE.out.2.2.1 (by have := HE.out.2.2.2.2.2; have := HWL.out; have := HAT.out; omega))
        have hr : writesS E q (s :: L.drop (k + 1)) = writesS (wroteD E q s) (q + 1) (L.drop (k + 1)) := by rw [writesS, if_neg hf0]
        rw [HW2.out] at hr
        have HR := Lib.hid hr
        clear hr hf0
        go_wp2_with fail
        refine HP.out.mono ?_
        rintro e w2 ⟨rfl, k2, t2⟩
        go_wp2_with fail
        go_roundw
        case rel =>
          refine ⟨k + 1, wroteD E q s, by omega, by go_num, ⟨k2, HE.out.2.1, ?_, HE.out.2.2.2.1, HE.out.2.2.2.2.1, ?_⟩, by show _ = _; rw [HR.out, ← HQ.out]; rfl, HT.out.then t2⟩
          · have := HE.out.2.2.1
            show decF E.fuse ≤ _
            unfold decF
            split <;> omega
          · show (E.wait ++ [_]).length = _
            rw [List.length_append, HE.out.2.2.2.2.2]
            show _ + 1 = _
            omega
        case measure => simp [intOf]; omega
    · have hkL : k = L.length := by omega
      have hw := HW.out
      rw [List.drop_of_length_le (by omega)] at hw
      have d1 : ¬ (k : Int) < (L.length : Int) := by omega
      have hEl : 0 < E.last.length := by rw [HE.out.2.2.2.2.1]; have := HAT.out; omega
      by_cases hf0 : E.fuse = 0
      · have HP := Lib.hid (sync_power_k (X := Y) (n0 := n0) HE.out.1 HE.out.2.1 hEl hf0 HE.out.2.2.2.1 (by have := HE.out.2.2.2.2.2; have := HWL.out; have := HAT.out; omega))
        rw [writesS, if_pos hf0] at hw
        have HR := Lib.hid hw.symm
        clear hw hf0
        go_wp2_with fail
        refine HP.out.mono ?_
        rintro e w2 ⟨rfl, k2, t2⟩
        go_wp2_with fail
        go_ret
        exact ⟨by rw [HR.out]; rfl, by rw [HR.out]; exact k2, HT.out.then t2⟩
      · have HP := Lib.hid (sync_k (X := Y) (n0 := n0) HE.out.1 HE.out.2.1 hEl hf0 HE.out.2.2.1 (by have := HE.out.2.2.2.2.2; have := HWL.out; have := HAT.out; omega))
        rw [writesS, if_neg hf0] at hw
        have HR := Lib.hid hw.symm
        clear hw hf0
        go_wp2_with fail
        refine HP.out.mono ?_
        rintro e w2 ⟨rfl, k2, t2⟩
        go_wp2_with fail
        go_ret
        exact ⟨by rw [HR.out]; rfl, by rw [HR.out]; exact k2, HT.out.then t2⟩
end Go.Proofs.YtbhoeiopckmfhaaGreatDoor

namespace Go.Proofs.YtbhoeiopckmfhaaGreatDoor
open Go.RowKit
attribute [local irreducible] shaL

/-! what turns, and more blocks of the caller's own -/
theorem KDisk.turnMore {n0 : Nat} {X Y : List Nat} {S : Nat → Prop} {w w' : World} {b : Nat} {D : DiskS} (h : KDisk n0 X w b D) (k : Turn S w w') (hS : ∀ i, i < w.heap.size → S i → i ∈ X) (hY : ∀ i ∈ Y, i ∈ X ∨ w.heap.size ≤ i) : KDisk n0 Y w' b D := by
  have := DiskAt.turn h k (fun i hi q s => q.1.2 (hS i hi s))
  exact KDisk.of this (fun i _ q => ⟨q.1.1, fun hy => by rcases hY i hy with h1 | h1; exact q.1.2 h1; exact absurd q.2 (by omega)⟩)

def ownB (v : Value) : List Nat := v.ownBlock.toList
theorem ownB_mem {v : Value} {x : Nat} : x ∈ ownB v ↔ v.ownBlock = some x := by unfold ownB; simp
/-- block g is a book that holds B on a disk at block b that holds D; all their blocks lie from n0 on, none of them is one of X -/
structure KBookAt (n0 : Nat) (X : List Nat) (w : World) (g b : Nat) (B : BookS) (D : DiskS) (rv : Value) : Prop where
  mem : BookMem w g b B rv
  gn : n0 ≤ g
  gX : g ∉ X
  rn : ∀ x, rv.ownBlock = some x → n0 ≤ x ∧ x ∉ X ∧ x ≠ g
  disk : KDisk n0 (ownB rv ++ g :: X) w b D
def KBook (n0 : Nat) (X : List Nat) (w : World) (g b : Nat) (B : BookS) (D : DiskS) : Prop := ∃ rv, KBookAt n0 X w g b B D rv
theorem own_down {w : World} {B B' n size : Nat} {t : TypeId} {v : Value} {xs : List Value} (h : w.ownsRow B t size v n xs) (hb : B' ≤ B) : w.ownsRow B' t size v n xs := by
  refine ⟨h.1, ?_⟩
  rcases h.2 with h' | ⟨g, cap, cur, e, hB, r⟩
  · exact .inl h'
  · exact .inr ⟨g, cap, cur, e, Nat.le_trans hb hB, r⟩
/-- what laying a record tells, and leaves -/
def layS (B : BookS) (D : DiskS) (p t : Nat) (L : List ByteArray) (used : Nat) (s : ByteArray) : Int × BookS × DiskS :=
  let r := writesS D (B.first + p * B.size + used) (nextS t L.length s)
  if r.1 = 0 then (0, { B with place := p, turn := t, recs := L ++ [s], used := used + partsN s.size }, r.2) else (r.1, { B with failed := true }, r.2)
theorem held_ck {w w' : World} {HB : Nat} {a b c : Value} (h : w.cell? ⟨HB, 0, none⟩ = some a ∧ w.cell? ⟨HB, 1, none⟩ = some b ∧ w.cell? ⟨HB, 2, none⟩ = some c) (k : w.grownBy w' none) : w'.cell? ⟨HB, 0, none⟩ = some a ∧ w'.cell? ⟨HB, 1, none⟩ = some b ∧ w'.cell? ⟨HB, 2, none⟩ = some c := ⟨k.cell h.1 (by simp), k.cell h.2.1 (by simp), k.cell h.2.2 (by simp)⟩
theorem turn_ck {w w' : World} {n0 HB : Nat} {Y : List Nat} {a b c : Value} (h : w.cell? ⟨HB, 0, none⟩ = some a ∧ w.cell? ⟨HB, 1, none⟩ = some b ∧ w.cell? ⟨HB, 2, none⟩ = some c) (k : Turn (rest n0 Y) w w') (hm : HB ∈ Y) (hlt : HB < w.heap.size) : w'.cell? ⟨HB, 0, none⟩ = some a ∧ w'.cell? ⟨HB, 1, none⟩ = some b ∧ w'.cell? ⟨HB, 2, none⟩ = some c :=
  ⟨(k.cell hlt (fun q => q.2 hm) _).trans h.1, (k.cell hlt (fun q => q.2 hm) _).trans h.2.1, (k.cell hlt (fun q => q.2 hm) _).trans h.2.2⟩
theorem form_pos {w : World} {B n m : Nat} {t : TypeId} {size : Nat} {v : Value} {xs : List Value} (h : w.ownsRow B t size v n xs) (e : m = n) (h1 : 1 ≤ n) : ∃ g c, v = .slice (some ⟨g, 0, none⟩) m c := by
  subst e
  rcases own_form h with ⟨_, h0⟩ | ⟨g, c, e⟩
  · omega
  · exact ⟨g, c, e⟩
set_option maxRecDepth 100000 in
set_option maxHeartbeats 6400000 in
theorem lay_any (n0 n : Nat) (X : List Nat) (w : World) (g b : Nat) (B : BookS) (D : DiskS) (rv : Value) (hK : KBookAt n0 X w g b B D rv) (hX : ∀ x ∈ X, x < w.heap.size) (hn0 : n0 ≤ w.heap.size) (ho : BookOK n B) (hnl : D.last.length = n) (hon : D.on = true)
    (hwl : D.wait.length ≤ 100000000) (hf : D.fuse ≤ 9223372036854775807) (hk : D.keep.length ≤ 9223372036854775807)
    (p t used : Nat) (hp : p ≤ 1) (ht : t ≤ 4294967295) (hv : Value) (L : List ByteArray) (hvL : w.ownsRow 0 9 1 hv L.length (strsV L)) (hvr : hv = rv ∨ hv = .slice none 0 0) (hLu : L.length ≤ used) (s : ByteArray) (hs : s.size ≤ 900) (hus : used + partsN s.size ≤ B.size) (hr : ShaReady w) (hsX : n0 ≤ 0 → False) (hrX : n0 ≤ 1 → False) :
    Calls Tryz.prog 137 #[.pointer (some ⟨g, 0, none⟩), .int .i64 p, .agg #[.int .u32 t, hv, .int .i64 used], .string s] w fun e w' =>
      e = .returned (.int .i64 (layS B D p t L used s).1) ∧ KBook n0 X w' g b (layS B D p t L used s).2.1 (layS B D p t L used s).2.2 ∧ Turn (rest n0 X) w w' := by
  obtain ⟨ha, hc, rfl⟩ := slice_own' hvL
  have hgl := hK.mem.lt.1
  obtain ⟨HB, hHB⟩ : ∃ HB, w.heap.size = HB := ⟨_, rfl⟩
  obtain ⟨w1, hW1⟩ : ∃ w1, w.alloc (.cells #[.int .u32 t, .slice ha L.length hc, .int .i64 used] 163) = w1 := ⟨_, rfl⟩
  have hh1 : w1.heap[HB]? = some (.cells #[.int .u32 t, .slice ha L.length hc, .int .i64 used] 163 (0, 0)) := by rw [← hW1]; exact heap_alloc_at _ _ _ hHB
  have hg1 : w.grownBy w1 none := by rw [← hW1]; exact World.grownBy_alloc _ _ _
  have hB1 : w1.heap.size = HB + 1 := by rw [← hW1]; simp; omega
  obtain ⟨Y, hY⟩ : ∃ Y, HB :: (ownB rv ++ g :: X) = Y := ⟨_, rfl⟩
  have HYm : Hid (HB ∈ Y ∧ g ∈ Y ∧ (∀ x, rv.ownBlock = some x → x ∈ Y) ∧ ∀ x ∈ X, x ∈ Y) := by
    rw [← hY]
    refine ⟨by simp, by simp, fun x e => ?_, fun x hx => by simp [hx]⟩
    simp only [List.mem_cons, List.mem_append]
    exact .inr (.inl (ownB_mem.2 e))
  have HYl : Hid (∀ x ∈ Y, x < w1.heap.size) := by
    rw [← hY]
    intro x hx
    simp only [List.mem_cons, List.mem_append] at hx
    rcases hx with rfl | hx | rfl | hx
    · omega
    · have := hK.mem.lt.2 x (ownB_mem.1 hx); omega
    · omega
    · have := hX x hx; omega
  have HD1 : Hid (KDisk n0 Y w1 b D) := hK.disk.more hg1 (by
    rw [← hY]
    intro x hx
    rcases List.mem_cons.1 hx with rfl | hx
    · exact .inr (by omega)
    · exact .inl hx)
  have HM1 := Lib.hid (hK.mem.grown hg1)
  have hgHB : g ≠ HB := by omega
  have HOK := Lib.hid ho
  have hfi := ho.area
  have hfew := ho.few
  have hpz : p * B.size ≤ 1 * B.size := Nat.mul_le_mul_right _ hp
  have hpN := partsN_le s.size hs
  have hp1 := partsN_pos s.size
  have HBEG : Hid (∀ w', w1.grownBy w' none → Calls Tryz.prog 129 #[.pointer (some ⟨g, 0, none⟩), .int .i64 p] w' fun e w'' => e = .returned (.int .i64 (B.first + p * B.size : Nat)) ∧ w'.grownBy w'' none) :=
    fun w' h => begin_any w' g b B rv (HM1.out.grown h) p n hp HOK.out
  have HNXT : Hid (∀ w', w1.grownBy w' none → Calls Tryz.prog 170 #[.agg #[.int .u32 t, .slice ha L.length hc, .int .i64 used], .string s] w' fun e w'' => ∃ v, e = .returned v ∧ w''.ownsRow w'.heap.size 9 1 v (partsN s.size) (strsV (nextS t L.length s)) ∧ w'.grownBy w'' none) :=
    fun w' h => next_any t L.length ht (by omega) ha hc _ s hs w' ((hr.grown hg1).grown h)
  have HNL := Lib.hid (nextS_length t L.length s)
  have HNZ := Lib.hid (nextS_size t L.length s)
  have HLAY : Hid (layS B D p t L used s = if (writesS D (B.first + p * B.size + used) (nextS t L.length s)).1 = 0 then (0, { B with place := p, turn := t, recs := L ++ [s], used := used + partsN s.size }, (writesS D (B.first + p * B.size + used) (nextS t L.length s)).2) else ((writesS D (B.first + p * B.size + used) (nextS t L.length s)).1, { B with failed := true }, (writesS D (B.first + p * B.size + used) (nextS t L.length s)).2)) := rfl
  obtain ⟨A, hA⟩ : ∃ A, B.first + p * B.size = A := ⟨_, rfl⟩
  rw [hA] at HBEG HLAY
  obtain ⟨AT, hAT⟩ : ∃ AT, A + used = AT := ⟨_, rfl⟩
  rw [hAT] at HLAY
  obtain ⟨N, hN⟩ : ∃ N, nextS t L.length s = N := ⟨_, rfl⟩
  rw [hN] at HNXT HNL HNZ HLAY
  have hATn : AT + N.length ≤ D.last.length := by rw [HNL.out, hnl]; have := Nat.le_trans hpz (by omega : 1 * B.size ≤ B.size); rw [← hAT, ← hA]; rcases (by omega : p = 0 ∨ p = 1) with rfl | rfl <;> omega
  have HWRT : Hid (∀ (w' : World) (vg cc : Nat), w1.grownBy w' none → w'.ownsRow w1.heap.size 9 1 (.slice (some ⟨vg, 0, none⟩) N.length cc) N.length (strsV N) → Calls Tryz.prog 171 #[.pointer (some ⟨g, 0, none⟩), .int .i64 AT, .slice (some ⟨vg, 0, none⟩) N.length cc] w' fun e w'' =>
      e = .returned (.int .i64 (writesS D AT N).1) ∧ KDisk n0 Y w'' b (writesS D AT N).2 ∧ Turn (rest n0 Y) w' w'') := by
    intro w' vg cc hg' hrow
    have hvg := hrow.lt vg rfl
    have hsz := hg'.size
    refine (write_all n0 (vg :: Y) w' g b (bookCells b B rv).tail D ?_ (by have := hg1.size; omega) (by simp [HYm.out.2.1]) ?_ AT vg 0 cc N (strs_own hrow) (by simp) (fun t ht => by rw [HNZ.out t ht]; decide) ?_ hon hATn (by omega) hwl hf hk (by rw [HNL.out]; exact hp1)).mono ?_
    · intro x hx
      rcases List.mem_cons.1 hx with rfl | hx
      · exact hvg.2
      · exact Nat.lt_of_lt_of_le (HYl.out x hx) hsz
    · exact (HM1.out.grown hg').blk
    · exact HD1.out.more hg' (by
        intro x hx
        rcases List.mem_cons.1 hx with rfl | hx
        · exact .inr hvg.1
        · exact .inl hx)
    · rintro e w'' ⟨rfl, q1, q2⟩
      exact ⟨rfl, KDisk.of q1 (fun i _ q => ⟨q.1.1, fun hy => q.1.2 (by simp [hy])⟩), rest_mono (fun x hx => by simp [hx]) q2⟩
  have HDIV := Lib.hid (And.intro hp1 (And.intro hpN hus))
  have hA1 : A ≤ 2048 := by rw [← hA]; rcases (by omega : p = 0 ∨ p = 1) with rfl | rfl <;> omega
  have hu1 : used ≤ 1024 := by omega
  have e1 : (A : Int) + (used : Int) = (AT : Int) := by omega
  have e2 : IntKind.i64.wrap (AT : Int) = (AT : Int) := wrap_i64_nat AT (by omega)
  have HS1 : Hid (w1.cell? ⟨HB, 0, none⟩ = some (.int .u32 t) ∧ w1.cell? ⟨HB, 1, none⟩ = some (.slice ha L.length hc) ∧ w1.cell? ⟨HB, 2, none⟩ = some (.int .i64 used)) := ⟨cell_of hh1 0, cell_of hh1 1, cell_of hh1 2⟩
  have HH1 := Lib.hid hh1
  have HKK := Lib.hid (And.intro hK (And.intro hX hn0))
  have HV := Lib.hid (And.intro hvL (And.intro hvr (And.intro hLu hs)))
  have HG1 := Lib.hid hg1
  have HAA := Lib.hid (And.intro hA (And.intro hAT hN))
  have HSR := Lib.hid (And.intro hsX hrX)
  have HB1 := Lib.hid hB1
  have HP := Lib.hid (And.intro hp (And.intro ht hgHB))
  clear hh1 hK hX hn0 hvL hvr hLu hs hg1 hA hAT hN hsX hrX hr ho hgl hATn hnl hwl hf hk hon hpz hfi hfew hpN hp1 hus hY hp ht hgHB
  go_enter Tryz.func137, Tryz.ntmps137
  go_upto_region 1 with (fail)
  go_cut [9] (fun ev wx => ev = .int .i64 (writesS D AT N).1 ∧ Hid (wx.heap[HB]? = some (.cells #[.int .u32 t, .slice ha L.length hc, .int .i64 used] 163 (0, 0))) ∧ Hid (KDisk n0 Y wx b (writesS D AT N).2) ∧ Hid (Turn (rest n0 Y) w1 wx))
  case first =>
    have hG : w1.grownBy w1.drew none := grownBy_drew (World.grownBy.refl _ _)
    go_wp2_with fail
    go_region_held3 (fun w' => w'.cell? ⟨HB, 0, none⟩ = some (.int .u32 t) ∧ w'.cell? ⟨HB, 1, none⟩ = some (.slice ha L.length hc) ∧ w'.cell? ⟨HB, 2, none⟩ = some (.int .i64 used)) (first | exact ck | exact HS1.out)
      (first
        | (go_at_call 129; refine (HBEG.out _ hG).mono ?_; rintro e wb ⟨rfl, hb⟩; (try have hR := own_turn hR (S := fun _ => False) (Turn.of_grown hb) (fun _ _ q => q)); have hG := grownBy_trans hG hb; have ck := held_ck HS1.out hG)
        | (go_at_call 170; refine (HNXT.out _ hG).mono ?_; rintro e wn ⟨v, rfl, hR0, hn⟩; have hR := own_down hR0 hG.size; have hG := grownBy_trans hG hn; have ck := held_ck HS1.out hG)
        | (go_at_call 171; (obtain ⟨vg, vc, rfl⟩ : ∃ vg vc, v = .slice (some ⟨vg, 0, none⟩) N.length vc := form_pos hR HNL.out HDIV.out.1); rw [← HNL.out] at hR; refine (HWRT.out _ vg vc hG hR).mono ?_; rintro e ww ⟨rfl, hd, htt⟩; have ck := turn_ck (held_ck HS1.out hG) htt HYm.out.1 (Nat.lt_of_lt_of_le (by have := HB1.out; omega) hG.size)))
    go_wp2_with fail
    go_meet
    case rel => exact ⟨rfl, htt.inX HYm.out.1 (hG.heap HH1.out (by simp)), hd, (Turn.of_grown hG).then htt⟩
  case rest =>
    obtain ⟨rfl, HHB, HDc, HTc⟩ := hcut
    have hbk : wc.heap[g]? = some (.cells (bookCells b B rv).toArray 165 (0, 0)) := HTc.out.inX HYm.out.2.1 HM1.out.blk
    have HBK := Lib.hid hbk
    have HLT := Lib.hid (Nat.le_trans HG1.out.size HTc.out.size)
    have HROW : Hid (wc.ownsRow 0 9 1 rv B.recs.length (strsV B.recs)) := own_turn HM1.out.recs HTc.out (fun x e q => q.2 (HYm.out.2.2.1 x e))
    have HTW : Hid (Turn (rest n0 X) w wc) := rest_mono HYm.out.2.2.2 ((Turn.of_grown HG1.out).then HTc.out)
    obtain ⟨R, hR⟩ : ∃ R, writesS D AT N = R := ⟨_, rfl⟩
    rw [hR] at HLAY HDc ⊢
    have b0 := cell_of hbk 0
    have b3 := cell_of hbk 3
    have b4 := cell_of hbk 4
    have b5 := cell_of hbk 5
    have b6 := cell_of hbk 6
    have b7 := cell_of hbk 7
    have f7 := free_of hbk 7
    simp [bookCells] at b0 b3 b4 b5 b6 b7
    clear hbk hR
    by_cases h0 : R.1 = 0
    · have hl := HLAY.out
      rw [if_pos h0] at hl
      have HL := Lib.hid hl
      have e3 : (R.1 == 0) = true := by simpa using h0
      have e4 : (R.1 != 0) = false := by simpa using h0
      have k0 := cell_of HHB.out 0
      have k1 := cell_of HHB.out 1
      have k2 := cell_of HHB.out 2
      simp at k0 k1 k2
      have hvb : ∀ x, (Value.slice ha L.length hc).ownBlock = some x → rv.ownBlock = some x := by
        intro x e
        rcases HV.out.2.1 with h | h
        · rw [← h]; exact e
        · injection h with h1 h2 h3; subst h1; simp [Value.ownBlock] at e
      have hvw : wc.ownsRow 0 9 1 (.slice ha L.length hc) L.length (strsV L) :=
        own_turn (own_turn HV.out.1 (S := fun _ => False) (Turn.of_grown HG1.out) (fun _ _ q => q)) HTc.out (fun x e q => q.2 (HYm.out.2.2.1 x (hvb x e)))
      have HWI := Lib.hid (with_any t used _ L s (by have := HV.out.2.2.2; omega) (by omega) (by have := HV.out.2.2.1; omega) wc hvw)
      have HVB := Lib.hid hvb
      clear hl h0 hvb hvw
      go_wp2_with fail
      refine HWI.out.mono ?_
      rintro e w2 ⟨g2, c2, rfl, hrow, hg2, hat⟩
      have hne : (Value.slice ha L.length hc).ownBlock ≠ some g := fun e => (HKK.out.1.rn g (HVB.out g e)).2.2 rfl
      have hbk2 : w2.heap[g]? = some (.cells (bookCells b B rv).toArray 165 (0, 0)) := hg2.heap HBK.out hne
      have hgc : g < wc.heap.size := (Array.getElem?_eq_some_iff.1 HBK.out).1
      have hg2g : g2 ≠ g := by
        rcases hat with e | e
        · intro h; exact hne (by rw [← h]; exact e)
        · omega
      have c3 := cell_of hbk2 3
      have c4 := cell_of hbk2 4
      have c5 := cell_of hbk2 5
      have c6 := cell_of hbk2 6
      have f3 := free_of hbk2 3
      have f4 := free_of hbk2 4
      have f5 := free_of hbk2 5
      have f6 := free_of hbk2 6
      simp [bookCells] at c3 c4 c5 c6
      have HBK2 := Lib.hid hbk2
      have HW2 := Lib.hid (And.intro hrow (And.intro hg2 (And.intro hat hg2g)))
      clear hbk2 hrow hg2 hat hg2g hne b0 b3 b4 b5 b6 b7 f7 k0 k1 k2
      go_wp2_with fail
      go_ret
      rw [HL.out]
      have t2 : Turn (fun i => (Value.slice ha L.length hc).ownBlock = some i) wc w2 := (Turn.refl _ wc).row HW2.out.2.1 (fun i _ e => e)
      have t3 : Turn (fun i => i = g) w2 ((((w2.setCell ⟨g, 3, none⟩ (.int .i64 p)).setCell ⟨g, 4, none⟩ (.int .u32 t)).setCell ⟨g, 5, none⟩ (.slice (some ⟨g2, 0, none⟩) (L.length + 1) c2)).setCell ⟨g, 6, none⟩ (.int .i64 (used + partsN s.size : Nat))) :=
        (((((Turn.refl (fun i => i = g) w2).setCell (fun _ => rfl) _ _).setCell (fun _ => rfl) _ _).setCell (fun _ => rfl) _ _).setCell (fun _ => rfl) _ _)
      have hmem : ∀ x, (Value.slice (some ⟨g2, 0, none⟩) (L.length + 1) c2).ownBlock = some x → x = g2 := fun x e => by simpa [Value.ownBlock] using e.symm
      have hn0 : n0 ≤ wc.heap.size := Nat.le_trans HKK.out.2.2 HLT.out
      refine ⟨rfl, ⟨.slice (some ⟨g2, 0, none⟩) (L.length + 1) c2, ⟨?_, ?_⟩, HKK.out.1.gn, HKK.out.1.gX, ?_, ?_⟩, ?_⟩
      · rw [heap_setCell (heap_setCell (heap_setCell (heap_setCell HBK2.out 3 _) 4 _) 5 _) 6 _]; rfl
      · have : (L ++ [s]).length = L.length + 1 := by simp
        show World.ownsRow _ 0 _ 1 _ (L ++ [s]).length _
        rw [this]
        exact own_turn HW2.out.1 t3 (fun x e q => HW2.out.2.2.2 ((hmem x e).symm.trans q))
      · intro x e
        rw [hmem x e]
        rcases HW2.out.2.2.1 with e2 | e2
        · exact HKK.out.1.rn g2 (HVB.out g2 e2)
        · exact ⟨Nat.le_trans hn0 e2, fun hx => by have := HKK.out.2.1 g2 hx; have := HLT.out; omega, HW2.out.2.2.2⟩
      · refine KDisk.turnMore (KDisk.turnMore HDc.out t2 (fun i _ e => HYm.out.2.2.1 i (HVB.out i e)) (Y := g2 :: g :: X) (fun i hi => ?_)) t3 (fun i _ e => by rw [e]; simp) (fun i hi => .inl ?_)
        · rcases List.mem_cons.1 hi with rfl | hi
          · rcases HW2.out.2.2.1 with e2 | e2
            · exact .inl (HYm.out.2.2.1 _ (HVB.out _ e2))
            · exact .inr e2
          · rcases List.mem_cons.1 hi with rfl | hi
            · exact .inl HYm.out.2.1
            · exact .inl (HYm.out.2.2.2 i hi)
        · simp only [List.mem_append, List.mem_cons] at hi ⊢
          rcases hi with hi | hi
          · exact .inl (hmem i (ownB_mem.1 hi))
          · exact .inr hi
      · refine (HTW.out.trans t2 (fun i _ e => ?_)).trans t3 (fun i _ e => by rw [e]; exact ⟨HKK.out.1.gn, HKK.out.1.gX⟩)
        have := HKK.out.1.rn i (HVB.out i e)
        exact ⟨this.1, this.2.1⟩
    · have e3 : (R.1 == 0) = false := by simpa using h0
      have e4 : (R.1 != 0) = true := by simpa using h0
      have hl := HLAY.out
      rw [if_neg h0] at hl
      have HL := Lib.hid hl
      clear hl h0
      go_wp2_with fail
      go_ret
      rw [HL.out]
      have t7 : Turn (fun i => i = g) wc (wc.setCell ⟨g, 7, none⟩ (.bool true)) := (Turn.refl (fun i => i = g) wc).setCell (fun _ => rfl) _ _
      refine ⟨rfl, ⟨rv, ⟨?_, own_turn HROW.out t7 (fun x e q => (HKK.out.1.rn x e).2.2 q)⟩, HKK.out.1.gn, HKK.out.1.gX, HKK.out.1.rn, ?_⟩, ?_⟩
      · rw [heap_setCell HBK.out]; rfl
      · exact KDisk.turnMore HDc.out t7 (fun i _ e => by rw [e]; exact HYm.out.2.1) (fun i hi => .inl (by
          simp only [List.mem_append, List.mem_cons] at hi
          rcases hi with hi | rfl | hi
          · exact HYm.out.2.2.1 i (ownB_mem.1 hi)
          · exact HYm.out.2.1
          · exact HYm.out.2.2.2 i hi))
      · exact HTW.out.trans t7 (fun i _ e => by rw [e]; exact ⟨HKK.out.1.gn, HKK.out.1.gX⟩)
end Go.Proofs.YtbhoeiopckmfhaaGreatDoor

namespace Go.Proofs.YtbhoeiopckmfhaaGreatDoor
open Go.RowKit

/-- a Reader's state: what wasn't read, and its error -/
structure RSt where
  rest : ByteArray
  err : Int
def RsAt (w : World) (p : Option Addr) : Option RSt → Prop
  | none => p = none
  | some st => ∃ b, p = some ⟨b, 0, none⟩ ∧ RdAt w b st.rest st.err
theorem RsAt.grown {w w' : World} {p : Option Addr} {st : Option RSt} (h : RsAt w p st) (hg : w.grownBy w' none) : RsAt w' p st := by
  cases st with
  | none => exact h
  | some st => obtain ⟨b, hp, hw⟩ := h; exact ⟨b, hp, hw.kept hg (by simp)⟩

def RSt.fail (s : RSt) (e : Int) : RSt := if s.err = 0 then ⟨s.rest, e⟩ else s
def RSt.fixed (s : RSt) (k : Int) : ByteArray × RSt :=
  if s.err ≠ 0 then (ByteArray.empty, s) else if k < 0 then (ByteArray.empty, s.fail 4) else if (s.rest.size : Int) < k then (ByteArray.empty, s.fail 3)
  else (s.rest.extract 0 k.toNat, ⟨s.rest.extract k.toNat s.rest.size, s.err⟩)
/-- the number of some bytes -/
def val (l : List UInt8) : Nat := l.foldl (fun n c => 256 * n + c.toNat) 0
def RSt.num (s : RSt) (k : Int) : Nat × RSt := if 1 ≤ k ∧ k ≤ 8 then (val (s.fixed k).1.data.toList, (s.fixed k).2) else (0, s.fail 4)
def RSt.text (s : RSt) : ByteArray × RSt := if 4096 < (s.num 2).1 then (ByteArray.empty, (s.num 2).2.fail 4) else (s.num 2).2.fixed (s.num 2).1
def RSt.done (s : RSt) : Int := if s.err = 0 ∧ s.rest.size ≠ 0 then 2 else s.err

theorem RdAt.failed {w : World} {b : Nat} {s : ByteArray} {x y : Int} (h : RdAt w b s x) : RdAt (w.setCell ⟨b, 1, none⟩ (.int .i64 y)) b s y := by
  have := heap_setCell h 1 (.int .i64 y)
  simpa [RdAt] using this

set_option maxHeartbeats 400000 in
theorem read_any (s : ByteArray) (w : World) :
    Calls Tryz.prog 86 #[.string s] w fun e w' => e = .returned (.pointer (some ⟨w.heap.size, 0, none⟩)) ∧ RdAt w' w.heap.size s 0 ∧ w.grownBy w' none := by
  go_enter Tryz.func86, Tryz.ntmps86
  go_wp2
  go_ret
  exact ⟨rfl, heap_alloc_at _ _ _ rfl, World.grownBy_alloc _ _ _⟩

set_option maxHeartbeats 400000 in
theorem rfail_any (x : Int) (w : World) (p : Option Addr) (st : Option RSt) (h : RsAt w p st) :
    Calls Tryz.prog 133 #[.pointer p, .int .i64 x] w fun e w' => e = .returned (.tuple #[]) ∧ RsAt w' p (st.map (·.fail x)) ∧ w.grownBy w' (prow p) := by
  cases st with
  | none =>
    obtain rfl := h
    go_enter Tryz.func133, Tryz.ntmps133
    go_wp2
    go_end0
    exact ⟨rfl, rfl, World.grownBy.refl _ _⟩
  | some st =>
    obtain ⟨b, rfl, hb⟩ := h
    have c1 := cell_of hb 1
    have f1 := free_of hb 1
    simp at c1
    have HB := Lib.hid hb
    clear hb
    by_cases he : st.err = 0
    · have ht : (st.err == 0) = true := by simpa using he
      rw [he] at c1
      have HE := Lib.hid he
      clear he ht
      go_enter Tryz.func133, Tryz.ntmps133
      go_wp2
      go_end0
      refine ⟨rfl, ⟨b, rfl, ?_⟩, grownBy_setCell (World.grownBy.refl _ _) _ _⟩
      have := HB.out.failed (y := x)
      simpa [RSt.fail, HE.out] using this
    · have ht : (st.err == 0) = false := by simpa using he
      have HE := Lib.hid he
      clear he
      go_enter Tryz.func133, Tryz.ntmps133
      go_wp2
      go_end0
      refine ⟨rfl, ⟨b, rfl, ?_⟩, World.grownBy.refl _ _⟩
      simpa [RSt.fail, HE.out] using HB.out

set_option maxHeartbeats 400000 in
theorem rfixed_any (k : Int) (w : World) (p : Option Addr) (st : Option RSt) (h : RsAt w p st) (hm : ∀ s, st = some s → s.rest.size ≤ maxLen) :
    Calls Tryz.prog 88 #[.pointer p, .int .i64 k] w fun e w' => e = .returned (.string ((st.map fun s => (s.fixed k).1).getD ByteArray.empty)) ∧ RsAt w' p (st.map fun s => (s.fixed k).2) ∧ w.grownBy w' (prow p) := by
  cases st with
  | none =>
    obtain rfl := h
    go_enter Tryz.func88, Tryz.ntmps88
    go_wp2
    go_ret
    exact ⟨rfl, rfl, World.grownBy.refl _ _⟩
  | some st =>
    have H := Lib.hid h
    obtain ⟨b, rfl, hb⟩ := h
    have hmx := hm st rfl
    unfold maxLen at hmx
    have c0 := cell_of hb 0
    have c1 := cell_of hb 1
    have f0 := free_of hb 0
    simp at c0 c1
    have HB := Lib.hid hb
    clear hb hm
    by_cases he : st.err = 0
    · rw [he] at c1
      have HE := Lib.hid he
      clear he
      by_cases hk : k < 0
      · go_enter Tryz.func88, Tryz.ntmps88
        go_wp2_with fail
        refine (rfail_any 4 _ _ (some st) H.out).mono ?_
        rintro e w' ⟨rfl, h1, h2⟩
        have H1 := Lib.hid h1
        have H2 := Lib.hid h2
        clear h1 h2
        go_wp2
        go_ret
        have hx : st.fixed k = (ByteArray.empty, st.fail 4) := by simp [RSt.fixed, HE.out, hk]
        refine ⟨?_, ?_, H2.out⟩
        · simp [hx]; rfl
        · simpa [hx] using H1.out
      · obtain ⟨k, rfl⟩ := Int.eq_ofNat_of_zero_le (show 0 ≤ k by omega)
        by_cases hl : st.rest.size < k
        · go_enter Tryz.func88, Tryz.ntmps88
          go_wp2_with fail
          refine (rfail_any 3 _ _ (some st) H.out).mono ?_
          rintro e w' ⟨rfl, h1, h2⟩
          have H1 := Lib.hid h1
          have H2 := Lib.hid h2
          clear h1 h2
          go_wp2
          go_ret
          have hx : st.fixed k = (ByteArray.empty, st.fail 3) := by simp [RSt.fixed, HE.out, hl]; intro; omega
          refine ⟨?_, ?_, H2.out⟩
          · simp [hx]; rfl
          · simpa [hx] using H1.out
        · go_enter Tryz.func88, Tryz.ntmps88
          go_wp2
          go_ret
          have hx : st.fixed k = (st.rest.extract 0 k, ⟨st.rest.extract k st.rest.size, st.err⟩) := by simp [RSt.fixed, HE.out, hl]; intro; omega
          refine ⟨?_, ?_, grownBy_setCell (World.grownBy.refl _ _) _ _⟩
          · simp [hx]
          · show RsAt _ _ (some (st.fixed k).2)
            rw [hx]
            refine ⟨b, rfl, ?_⟩
            have := heap_setCell HB.out 0 (.string (st.rest.extract k st.rest.size))
            simpa [RdAt] using this
    · have ht : (st.err != 0) = true := by simpa using he
      have HE := Lib.hid he
      clear he
      go_enter Tryz.func88, Tryz.ntmps88
      go_wp2
      go_ret
      have hx : st.fixed k = (ByteArray.empty, st) := by simp [RSt.fixed, HE.out]
      refine ⟨?_, ?_, World.grownBy.refl _ _⟩
      · simp [hx]; rfl
      · simpa [hx] using H.out

theorem val_snoc (l : List UInt8) (c : UInt8) : val (l ++ [c]) = 256 * val l + c.toNat := by simp [val, List.foldl_append]
theorem val_lt_rev (l : List UInt8) : val l.reverse < 256 ^ l.length := by
  induction l with
  | nil => simp [val]
  | cons c l ih =>
    rw [List.reverse_cons, val_snoc, List.length_cons, Nat.pow_succ]
    have := c.toNat_lt
    omega
theorem val_lt (l : List UInt8) : val l < 256 ^ l.length := by
  have := val_lt_rev l.reverse
  simpa using this
theorem take_snoc' (s : ByteArray) (k : Nat) (h : k < s.size) : s.data.toList.take (k + 1) = s.data.toList.take k ++ [s[k]] := by
  rw [List.take_succ_eq_append_getElem (by simpa using h)]; rfl
theorem or_byte (m c : Nat) (hm : m < 72057594037927936) (hc : c < 256) : bits .or .u64 ((m : Int) * 256) (IntKind.u64.wrap (c : Int)) = ((256 * m + c : Nat) : Int) := by
  have h1 : IntKind.u64.wrap (c : Int) = (c : Int) := by simp only [IntKind.wrap, IntKind.bits, IntKind.signed, IntKind.min, IntKind.max]; simp; omega
  have h2 : ((m : Int) * 256) = ((m * 256 : Nat) : Int) := by simp
  rw [h1, h2, u64_or_nat _ _ (by omega) (by omega)]
  congr 1
  have := Nat.two_pow_add_eq_or_of_lt (i := 8) (b := c) (by omega) m
  rw [Nat.mul_comm m 256]
  exact this.symm

theorem fixed_size (st : RSt) (k : Nat) : (st.fixed k).1.size ≤ k := by
  unfold RSt.fixed
  split
  · exact Nat.zero_le _
  split
  · exact Nat.zero_le _
  split
  · exact Nat.zero_le _
  · simp; omega

set_option maxHeartbeats 400000 in
theorem rnum_any (k : Int) (w : World) (p : Option Addr) (st : Option RSt) (h : RsAt w p st) (hm : ∀ s, st = some s → s.rest.size ≤ maxLen) :
    Calls Tryz.prog 87 #[.pointer p, .int .i64 k] w fun e w' => e = .returned (.int .u64 ((st.map fun s => (s.num k).1).getD 0 : Nat)) ∧ RsAt w' p (st.map fun s => (s.num k).2) ∧ w.grownBy w' (prow p) := by
  have H := Lib.hid h
  have HM := Lib.hid hm
  clear h hm
  by_cases hk : 1 ≤ k ∧ k ≤ 8
  · have hb : (decide (1 ≤ (k : Int)) && decide ((k : Int) ≤ 8)) = true := by simp; omega
    obtain ⟨k, rfl⟩ := Int.eq_ofNat_of_zero_le (show 0 ≤ k by omega)
    obtain ⟨x, hx⟩ : ∃ x, x = (st.map fun s => (s.fixed k).1).getD ByteArray.empty := ⟨_, rfl⟩
    have hxs : x.size ≤ k := by
      subst hx
      cases st with
      | none => exact Nat.zero_le _
      | some s => exact fixed_size s k
    have hx8 : x.size ≤ 8 := by omega
    have hn : (st.map fun s => (s.num k).1).getD 0 = val x.data.toList := by
      subst hx
      cases st with
      | none => rfl
      | some s => simp [RSt.num, hk]
    have hs : (fun s : RSt => (s.num k).2) = (fun s => (s.fixed k).2) := by funext s; simp [RSt.num, hk]
    rw [hn, hs]
    have HX := Lib.hid hx
    clear hn hs hx hk hxs
    go_enter Tryz.func87, Tryz.ntmps87
    go_wp2_with fail
    refine (numMayBe_any k _).mono ?_
    rintro e w' ⟨rfl, rfl⟩
    go_wp2_with fail
    refine (rfixed_any k _ p st H.out HM.out).mono ?_
    rintro e w1 ⟨rfl, h1, h2⟩
    rw [← HX.out]
    have H1 := Lib.hid h1
    have H2 := Lib.hid h2
    clear h1 h2
    go_wp2_with fail
    go_loop [6, 7, 18] (fun n _ i => ∃ j : Nat, ∃ m : Nat, j ≤ x.size ∧ i = .int .i64 j ∧ n = .int .u64 m ∧ Hid (m = val (x.data.toList.take j))) (fun _ _ i => x.size - (intOf i).toNat)
    case atStart => exact ⟨0, 0, Nat.zero_le _, rfl, rfl, rfl⟩
    case round =>
      obtain ⟨j, m, hj, rfl, rfl, HV⟩ := hrel
      by_cases hlt : j < x.size
      · have hm : m < 72057594037927936 := by
          have h1 := val_lt (x.data.toList.take j)
          rw [← HV.out] at h1
          have h2 : (x.data.toList.take j).length ≤ 7 := by simp; omega
          exact Nat.lt_of_lt_of_le h1 (Nat.pow_le_pow_right (by omega) h2)
        go_wp2
        go_round
        case rel =>
          refine ⟨j + 1, 256 * m + x[j].toNat, by omega, by go_num, ?_, ?_⟩
          · rw [or_byte m _ hm x[j].toNat_lt]
          · show _ = _
            rw [take_snoc' x j hlt, val_snoc, ← HV.out]
        case measure => simp [intOf]; omega
      · go_wp2
        go_ret
        refine ⟨?_, H1.out, H2.out⟩
        have := HV.out
        rw [List.take_of_length_le (by simp; omega)] at this
        subst this
        rfl
  · have hb : (decide (1 ≤ (k : Int)) && decide ((k : Int) ≤ 8)) = false := by
      rw [Bool.and_eq_false_iff, decide_eq_false_iff_not, decide_eq_false_iff_not]
      omega
    have hn : (st.map fun s => (s.num k).1).getD 0 = 0 := by
      cases st with
      | none => rfl
      | some s => simp [RSt.num, hk]
    have hs : (fun s : RSt => (s.num k).2) = (fun s => s.fail 4) := by funext s; simp [RSt.num, hk]
    rw [hn, hs]
    clear hn hs hk
    go_enter Tryz.func87, Tryz.ntmps87
    go_wp2_with fail
    refine (numMayBe_any k _).mono ?_
    rintro e w' ⟨rfl, rfl⟩
    go_wp2_with fail
    refine (rfail_any 4 _ p st H.out).mono ?_
    rintro e w1 ⟨rfl, h1, h2⟩
    have H1 := Lib.hid h1
    have H2 := Lib.hid h2
    clear h1 h2
    go_wp2
    go_ret
    exact ⟨rfl, H1.out, H2.out⟩

theorem rest_le (s : RSt) (k : Int) : (s.num k).2.rest.size ≤ s.rest.size ∧ (s.fixed k).2.rest.size ≤ s.rest.size := by
  have hf : ∀ e, (s.fail e).rest.size = s.rest.size := by intro e; unfold RSt.fail; split <;> rfl
  have h2 : (s.fixed k).2.rest.size ≤ s.rest.size := by
    unfold RSt.fixed
    split
    · exact Nat.le_refl _
    split
    · simp [hf]
    split
    · simp [hf]
    · simp
  refine ⟨?_, h2⟩
  unfold RSt.num
  split
  · exact h2
  · simp [hf]

end Go.Proofs.YtbhoeiopckmfhaaGreatDoor

namespace Go.Proofs.YtbhoeiopckmfhaaGreatDoor
open Go.RowKit
attribute [local irreducible] shaL

structure HalfT where
  turn : Nat
  recs : List ByteArray
  used : Nat
/-- what is read of the sectors from A on: the first k -/
def secsK (D : DiskS) (A k : Nat) : List ByteArray := (List.range k).map fun i => str (readL D.last D.wait (A + i))
theorem secsK_length (D : DiskS) (A k : Nat) : (secsK D A k).length = k := by simp [secsK]
theorem secsK_succ (D : DiskS) (A k : Nat) : secsK D A (k + 1) = secsK D A k ++ [str (readL D.last D.wait (A + k))] := by simp [secsK, List.range_succ]

set_option maxRecDepth 100000 in
set_option maxHeartbeats 3200000 in
theorem sectors_any (F : Nat → Prop) (n : Nat) (w : World) (g b : Nat) (B : BookS) (D : DiskS) (rv : Value) (hM : BookMem w g b B rv) (hD : DiskAt F w b D) (ho : BookOK n B) (hnl : D.last.length = n) (hon : D.on = true) (hwl : D.wait.length ≤ 1000000000) (p : Nat) (hp : p ≤ 1) :
    Calls Tryz.prog 83 #[.pointer (some ⟨g, 0, none⟩), .int .i64 p] w fun e w' => ∃ v, e = .returned (.tuple #[v, .int .i64 0]) ∧ w'.ownsRow w.heap.size 9 1 v B.size (strsV (secsK D (B.first + p * B.size) B.size)) ∧ w.grownBy w' none := by
  obtain ⟨i0, hi, hz0, hz1, hz2⟩ := info_parts infoStrW
  have hfi := ho.area
  have hfew := ho.few
  have hpz : p * B.size ≤ 1 * B.size := Nat.mul_le_mul_right _ hp
  have HBEG : Hid (∀ w', w.grownBy w' none → Calls Tryz.prog 129 #[.pointer (some ⟨g, 0, none⟩), .int .i64 p] w' fun e w'' => e = .returned (.int .i64 (B.first + p * B.size : Nat)) ∧ w'.grownBy w'' none) :=
    fun w' h => begin_any w' g b B rv (hM.grown h) p n hp ho
  obtain ⟨A, hA⟩ : ∃ A, B.first + p * B.size = A := ⟨_, rfl⟩
  have hAn : A + B.size ≤ n := by rw [← hA]; rcases (by omega : p = 0 ∨ p = 1) with rfl | rfl <;> omega
  rw [hA] at HBEG ⊢
  have HRD : Hid (∀ (w' : World) (i : Nat), w.grownBy w' none → i < n → Calls Tryz.prog 128 #[.pointer (some ⟨b, 0, none⟩), .int .i64 i] w' fun e w'' => e = .returned (.tuple #[.string (str (readL D.last D.wait i)), .int .i64 0]) ∧ w'.grownBy w'' none) :=
    fun w' i h hi => read_ok _ b i D w' (hD.grown h) hon (by omega) hwl
  obtain ⟨c0, _, c2, _⟩ := hM.at_
  have HC0 := Lib.hid c0
  have HNX : Hid (∀ k, secsK D A (k + 1) = secsK D A k ++ [str (readL D.last D.wait (A + k))]) := secsK_succ D A
  have HNL : Hid (∀ k, (secsK D A k).length = k) := secsK_length D A
  obtain ⟨N, hN⟩ : ∃ N, B.size = N := ⟨_, rfl⟩
  rw [hN] at c2 hAn ⊢
  have hN1 : (N : Int) ≤ 1024 := by omega
  have hN0 : (0 : Int) ≤ (N : Int) := by omega
  clear c0 hM hD ho hpz hA hfi hN
  go_enter Tryz.func83, Tryz.ntmps83
  go_wp2_with (at_make; refine wpList_make_full _ rfl _ _ 33 rfl w.heap.size 9 i0 (.string ⟨#[]⟩) 1 Tryz.underlying33 hi hz0 hz1 _ _ _ _ N rfl rfl rfl rfl ?c1 ?c2 ?c3 ?_)
  case c1 => rw [hz2]; omega
  case c2 => unfold maxLen; omega
  case c3 => exact Nat.le_refl _
  intro w3 hown hg
  have hm : (madeCells #[Value.string ⟨#[]⟩] N).toList = strsV (fillS (secsK D A 0) N) := made_strs N
  rw [hm] at hown
  obtain ⟨vg, hvg⟩ : ∃ vg, w.heap.size = vg := ⟨_, rfl⟩
  rw [hvg] at hown ⊢
  have HO3 := Lib.hid hown
  have HG3 := Lib.hid hg
  have HVG := Lib.hid hvg
  clear hown hg hm hvg c2
  go_wp2_with fail
  go_loopw [17] (fun iv wr => ∃ k : Nat, k ≤ N ∧ iv = .int .i64 k ∧ Hid (wr.ownsRow vg 9 1 (.slice (some ⟨vg, 0, none⟩) N N) N (strsV (fillS (secsK D A k) N))) ∧ Hid (w.grownBy wr none)) (fun iv _ => N - (intOf iv).toNat)
  case atStart => exact ⟨0, Nat.zero_le _, rfl, HO3.out, HG3.out⟩
  case round =>
    clear HO3 HG3
    obtain ⟨k, hk, rfl, HO, HG⟩ := hrel
    by_cases hlt : k < N
    · have d1 : (k : Int) < (N : Int) := by omega
      have d0 : (0 : Int) ≤ (k : Int) := by omega
      obtain ⟨q, hq⟩ : ∃ q, A + k = q := ⟨_, rfl⟩
      have e1 : (A : Int) + (k : Int) = (q : Int) := by omega
      have e2 := wrap_i64_nat q (by omega)
      have hnx := HNX.out k
      have hat := fillS_at (secsK D A k) N (by rw [HNL.out]; exact hlt)
      have hput := fillS_put (secsK D A k) N (str (readL D.last D.wait (A + k))) (by rw [HNL.out]; exact hlt)
      rw [HNL.out] at hat hput
      rw [← hnx, hq] at hput
      have HR := Lib.hid (fun w' (h : w.grownBy w' none) => HRD.out w' q h (by omega))
      generalize str (readL D.last D.wait q) = S at HR hput
      have HP := Lib.hid (And.intro hput hat)
      have hC : wr.cell? ⟨g, 0, none⟩ = some (.pointer (some ⟨b, 0, none⟩)) := HG.out.cell HC0.out (by simp)
      have HCC := Lib.hid hC
      have hG : w.grownBy wr.drew none := grownBy_drew HG.out
      have hRow := World.ownsRow.drew HO.out
      clear hnx hat hput hq hC
      go_wp2_with fail
      go_region_held3 (fun w' => w'.cell? ⟨g, 0, none⟩ = some (.pointer (some ⟨b, 0, none⟩))) (first | exact ck | exact HCC.out)
        (first
          | (go_at_call 129; refine (HBEG.out _ hG).mono ?_; rintro e wb ⟨rfl, hb⟩; have hRow := own_turn hRow (S := fun _ => False) (Turn.of_grown hb) (fun _ _ q => q); have hG := grownBy_trans hG hb; have ck := hG.cell HC0.out (by simp))
          | (go_at_call 128; refine (HR.out _ hG).mono ?_; rintro e wd ⟨rfl, hd⟩; have hRow := own_turn hRow (S := fun _ => False) (Turn.of_grown hd) (fun _ _ q => q); have hG := grownBy_trans hG hd; have ck := hG.cell HC0.out (by simp)))
      have hf := hRow.frozenAt k
      have hc : wd.cell? ⟨vg, k, none⟩ = some (.string ⟨#[]⟩) := (hRow.cellAt k (by omega)).trans HP.out.2
      have HRow := Lib.hid hRow
      have HGd := Lib.hid hG
      clear hRow hG ck
      go_wp2_with fail
      go_roundw
      case rel =>
        refine ⟨k + 1, by omega, by go_num, ?_, grownBy_setNew HGd.out (by rw [HVG.out]; exact Nat.le_refl _) _ _⟩
        show World.ownsRow _ _ _ _ _ _ _
        rw [← HP.out.1]
        exact (HRow.out.stored _ _).1
      case measure => simp [intOf]; omega
    · have hkN : k = N := by omega
      subst hkN
      have d1 : ¬ (k : Int) < (k : Int) := by omega
      have hrow := HO.out
      rw [fillS_full _ _ (HNL.out k)] at hrow
      have HRW := Lib.hid hrow
      clear hrow HO
      go_wp2_with fail
      go_returns
      exact ⟨_, rfl, by rw [HVG.out]; exact HRW.out, HG.out⟩

/-- a half's turn, as its first sector tells it -/
def turnOf (s : ByteArray) : Nat := val (s.data.toList.take 4)
theorem num4 (s : ByteArray) (h : s.size = 64) : ((⟨s, 0⟩ : RSt).num 4).1 = turnOf s := by
  unfold RSt.num
  rw [if_pos ⟨by decide, by decide⟩]
  unfold RSt.fixed turnOf
  rw [if_neg (by simp), if_neg (by decide), if_neg (by show ¬ ((s.size : Nat) : Int) < 4; omega)]
  show val (s.extract 0 4).data.toList = val (s.data.toList.take 4)
  rw [ByteArray.data_extract]
  simp
theorem turnOf_lt (s : ByteArray) (h : s.size = 64) : turnOf s < 4294967296 := by
  have := val_lt (s.data.toList.take 4)
  have h2 : (s.data.toList.take 4).length = 4 := by rw [List.length_take]; show min 4 s.size = 4; omega
  rw [h2] at this
  exact this
set_option maxRecDepth 100000 in
set_option maxHeartbeats 1600000 in
/-- nothing stands there -/
theorem halfOf_none (w : World) (v : Value) (s : ByteArray) (r : List ByteArray) (hv : StrsAt w v (s :: r)) (hs : s.size = 64) (h0 : turnOf s = 0) (hr : r.length ≤ 1024) :
    Calls Tryz.prog 84 #[v] w fun e w' => e = .returned (.agg #[.int .u32 0, .slice none 0 0, .int .i64 0]) ∧ w.grownBy w' none := by
  obtain ⟨a, c, rfl⟩ := hv.form
  obtain ⟨vg, vo, rfl, hc⟩ := hv.at_ 0 s rfl
  rw [Nat.add_zero] at hc
  have hn4 := num4 s hs
  rw [h0] at hn4
  have hlen : (s :: r).length = r.length + 1 := rfl
  rw [hlen]
  have hpos : (0 : Int) < ((r.length + 1 : Nat) : Int) := by omega
  have HC := Lib.hid hc
  have HN := Lib.hid hn4
  have HSZ := Lib.hid hs
  clear hv h0 hn4 hlen hs
  go_enter Tryz.func84, Tryz.ntmps84
  obtain ⟨w1, hW1⟩ : ∃ w1, w.alloc (.cells #[.int .u32 0, .slice none 0 0, .int .i64 0] 163) = w1 := ⟨_, rfl⟩
  have hc1 : w1.cell? ⟨vg, vo, none⟩ = some (.string s) := by rw [← hW1]; exact (World.grownBy_alloc w _ none).cell HC.out (by simp)
  have hr1 : w1.heap[w.heap.size]? = some (.cells #[.int .u32 0, .slice none 0 0, .int .i64 0] 163 (0, 0)) := by rw [← hW1]; exact heap_alloc_at _ _ _ rfl
  have hg1 : w.grownBy w1 none := by rw [← hW1]; exact World.grownBy_alloc _ _ _
  go_wp2_with fail
  refine (read_any s w1).mono ?_
  rintro e w2 ⟨rfl, hrd, hg2⟩
  have HRD := Lib.hid hrd
  have HRS : Hid (RsAt w2 (some ⟨w1.heap.size, 0, none⟩) (some ⟨s, 0⟩)) := ⟨_, rfl, hrd⟩
  have hr2 := hg2.heap hr1 (by simp)
  have hG2 := grownBy_trans hg1 hg2
  clear hrd hg2 hr1 hc1
  go_wp2_with fail
  refine (rnum_any 4 w2 _ _ HRS.out (by rintro x ⟨⟩; show s.size ≤ _; rw [HSZ.out]; decide)).mono ?_
  rintro e w3 ⟨rfl, hrs, hg3⟩
  have hz : ((Option.map (fun s => (RSt.num s 4).1) (some (⟨s, 0⟩ : RSt))).getD 0) = 0 := HN.out
  rw [hz]
  have hlt1 : w.heap.size < w1.heap.size := by rw [← hW1]; simp
  have hr3 := hg3.heap hr2 (by show some w1.heap.size ≠ some w.heap.size; simp; omega)
  have hG3 := grown_row hG2 hg3 (by intro x e; have : w1.heap.size = x := by simpa [prow] using e
                                    omega)
  have HR3 := Lib.hid hr3
  have HG3 := Lib.hid hG3
  clear hrs hr2 hr3 hG2 hG3 hg3 hz HRS HRD
  obtain ⟨w3b, hW3b⟩ : ∃ w3b, w3.alloc (.cells #[.int .u32 0, .slice none 0 0, .int .i64 0] 163) = w3b := ⟨_, rfl⟩
  have hz3 : w3b.heap[w3.heap.size]? = some (.cells #[.int .u32 0, .slice none 0 0, .int .i64 0] 163 (0, 0)) := by rw [← hW3b]; exact heap_alloc_at _ _ _ rfl
  have hg3b : w3.grownBy w3b none := by rw [← hW3b]; exact World.grownBy_alloc _ _ _
  have x0 := cell_of hz3 0
  have x1 := cell_of hz3 1
  have x2 := cell_of hz3 2
  have y0 := free_of hz3 0
  have y1 := free_of hz3 1
  have y2 := free_of hz3 2
  simp at x0 x1 x2
  obtain ⟨w4, hW4⟩ : ∃ w4, ((w3b.setCell ⟨w3.heap.size, 0, none⟩ (.int .u32 0)).setCell ⟨w3.heap.size, 1, none⟩ (.slice none 0 0)).setCell ⟨w3.heap.size, 2, none⟩ (.int .i64 0) = w4 := ⟨_, rfl⟩
  have hz4 : w4.heap[w3.heap.size]? = some (.cells #[.int .u32 0, .slice none 0 0, .int .i64 0] 163 (0, 0)) := by
    rw [← hW4, heap_setCell (heap_setCell (heap_setCell hz3 0 _) 1 _) 2 _]; rfl
  have hlt3 : w.heap.size ≤ w3.heap.size := HG3.out.size
  have hne3 : w3.heap.size ≠ w.heap.size := by have := (Array.getElem?_eq_some_iff.1 HR3.out).1; omega
  have hg4 : w.grownBy w4 none := by
    rw [← hW4]
    exact grownBy_setNew (grownBy_setNew (grownBy_setNew (grownBy_trans HG3.out hg3b) hlt3 _ _) hlt3 _ _) hlt3 _ _
  have hr4 : w4.heap[w.heap.size]? = some (.cells #[.int .u32 0, .slice none 0 0, .int .i64 0] 163 (0, 0)) := by
    rw [← hW4, heap_setCell_ne _ _ _ _ hne3, heap_setCell_ne _ _ _ _ hne3, heap_setCell_ne _ _ _ _ hne3]
    exact hg3b.heap HR3.out (by simp)
  have r0 := cell_of hr4 0
  have r1 := cell_of hr4 1
  have r2 := cell_of hr4 2
  have q0 := free_of hr4 0
  have q1 := free_of hr4 1
  have q2 := free_of hr4 2
  simp at r0 r1 r2
  have z0 := cell_of hz4 0
  simp at z0
  have HG4 := Lib.hid (And.intro hg4 hr4)
  clear hg4 hr4 hz4 hz3 hg3b
  go_wp2_with fail
  obtain ⟨w5, hW5⟩ : ∃ w5, ((w4.setCell ⟨w.heap.size, 0, none⟩ (.int .u32 0)).setCell ⟨w.heap.size, 1, none⟩ (.slice none 0 0)).setCell ⟨w.heap.size, 2, none⟩ (.int .i64 0) = w5 := ⟨_, rfl⟩
  rw [hW5]
  have hr5 : w5.heap[w.heap.size]? = some (.cells #[.int .u32 0, .slice none 0 0, .int .i64 0] 163 (0, 0)) := by
    rw [← hW5, heap_setCell (heap_setCell (heap_setCell HG4.out.2 0 _) 1 _) 2 _]; rfl
  have p0 := cell_of hr5 0
  have p1 := cell_of hr5 1
  have p2 := cell_of hr5 2
  simp at p0 p1 p2
  have hg5 : w.grownBy w5 none := by
    rw [← hW5]
    exact grownBy_setNew (grownBy_setNew (grownBy_setNew HG4.out.1 (Nat.le_refl _) _ _) (Nat.le_refl _) _ _) (Nat.le_refl _) _ _
  exact bodyPost_ret (v := .agg #[.int .u32 0, .slice none 0 0, .int .i64 0]) (by simp [results, Tryz.results84, go_sem, p0, p1, p2]; try rfl) rfl ⟨rfl, hg5⟩
end Go.Proofs.YtbhoeiopckmfhaaGreatDoor

namespace Go.Proofs.YtbhoeiopckmfhaaGreatDoor
open Go.RowKit
attribute [local irreducible] shaL

/-- a byte of a text -/
def byteAt (x : ByteArray) (i : Nat) : Nat := ((x.data.toList[i]?).getD 0).toNat
theorem byteAt_lt (x : ByteArray) (i : Nat) : byteAt x i < 256 := UInt8.toNat_lt _
theorem byteAt_in (x : ByteArray) (i : Nat) (h : i < x.size) : byteAt x i = x[i].toNat := by
  unfold byteAt
  rw [List.getElem?_eq_getElem (by simpa using h)]
  rfl
/-- a part's bytes -/
def partOf (x : ByteArray) : ByteArray := x.extract 17 (17 + byteAt x 8)
def gatherL (L : List ByteArray) : List UInt8 := L.flatMap fun x => (partOf x).data.toList
theorem gatherL_snoc (L : List ByteArray) (x : ByteArray) : gatherL (L ++ [x]) = gatherL L ++ (partOf x).data.toList := by simp [gatherL]
theorem partOf_size (x : ByteArray) (h : x.size = 64) (h2 : byteAt x 8 ≤ 39) : (partOf x).size = byteAt x 8 := by
  unfold partOf
  rw [ByteArray.size_extract]
  omega
/-- the next record, if one stands there -/
def readS (turn num : Nat) (secs : List ByteArray) : Option ByteArray :=
  if secs.length < byteAt (secs.headD ⟨#[]⟩) 7 then none
  else if (secs.take (byteAt (secs.headD ⟨#[]⟩) 7)).any (fun x => decide (39 < byteAt x 8)) then none
  else if 900 < (gatherL (secs.take (byteAt (secs.headD ⟨#[]⟩) 7))).length then none
  else if nextS turn num (str (gatherL (secs.take (byteAt (secs.headD ⟨#[]⟩) 7)))) = secs.take (byteAt (secs.headD ⟨#[]⟩) 7) then some (str (gatherL (secs.take (byteAt (secs.headD ⟨#[]⟩) 7)))) else none
theorem readS_size (turn num : Nat) (secs : List ByteArray) (s : ByteArray) (h : readS turn num secs = some s) : s.size ≤ 900 ∧ partsN s.size ≤ secs.length := by
  unfold readS at h
  split at h
  · cases h
  · split at h
    · cases h
    · split at h
      · cases h
      · split at h
        · rename_i h1 h2 h3 h4
          cases h
          refine ⟨by show (gatherL _).length ≤ _; omega, ?_⟩
          have := congrArg List.length h4
          rw [nextS_length, List.length_take] at this
          rw [this]
          omega
        · cases h
/-- the records from a place on -/
def halfLoop (turn : Nat) (secs : List ByteArray) : Nat → List ByteArray → Nat → List ByteArray × Nat
  | 0, L, u => (L, u)
  | f + 1, L, u => if u < secs.length then match readS turn L.length (secs.drop u) with
    | none => (L, u)
    | some s => halfLoop turn secs f (L ++ [s]) (u + partsN s.size) else (L, u)
theorem halfLoop_ok (turn : Nat) (secs : List ByteArray) : ∀ (f : Nat) (L : List ByteArray) (u : Nat), L.length ≤ u → u ≤ secs.length → (halfLoop turn secs f L u).1.length ≤ (halfLoop turn secs f L u).2 ∧ (halfLoop turn secs f L u).2 ≤ secs.length
  | 0, L, u, h1, h2 => ⟨h1, h2⟩
  | f + 1, L, u, h1, h2 => by
    rw [halfLoop]
    split
    · cases e : readS turn L.length (secs.drop u) with
      | none => exact ⟨h1, h2⟩
      | some s =>
        have := readS_size _ _ _ _ e
        have hp := partsN_pos s.size
        rw [List.length_drop] at this
        exact halfLoop_ok turn secs f (L ++ [s]) (u + partsN s.size) (by simp; omega) (by omega)
    · exact ⟨h1, h2⟩
def halfS (secs : List ByteArray) : HalfT :=
  if turnOf (secs.headD ⟨#[]⟩) = 0 then ⟨0, [], 0⟩
  else if (halfLoop (turnOf (secs.headD ⟨#[]⟩)) secs secs.length [] 0).1 = [] then ⟨0, [], 0⟩
  else ⟨turnOf (secs.headD ⟨#[]⟩), (halfLoop (turnOf (secs.headD ⟨#[]⟩)) secs secs.length [] 0).1, (halfLoop (turnOf (secs.headD ⟨#[]⟩)) secs secs.length [] 0).2⟩
end Go.Proofs.YtbhoeiopckmfhaaGreatDoor

namespace Go.Proofs.YtbhoeiopckmfhaaGreatDoor
open Go.RowKit

set_option maxHeartbeats 400000 in
theorem end_any (w : World) (p : Option Addr) (st : Option RSt) (h : RsAt w p st) :
    Calls Tryz.prog 89 #[.pointer p] w fun e w' => e = .returned (.int .i64 ((st.map fun s => s.done).getD 1)) ∧ w = w' := by
  cases st with
  | none =>
    obtain rfl := h
    go_enter Tryz.func89, Tryz.ntmps89
    go_wp2
    go_ret
    exact ⟨rfl, rfl⟩
  | some st =>
    obtain ⟨b, rfl, hb⟩ := h
    have c0 := cell_of hb 0
    have c1 := cell_of hb 1
    simp at c0 c1
    clear hb
    go_enter Tryz.func89, Tryz.ntmps89
    go_wp2
    · go_ret
      have h1 : st.err = 0 := by assumption
      have h2 : (!st.rest.toList.isEmpty) = true := by assumption
      refine ⟨?_, rfl⟩
      rw [emp] at h2
      simp at h2
      simp [RSt.done, h1, h2]
    · go_ret
      have h1 : st.err = 0 := by assumption
      have h2 : (!st.rest.toList.isEmpty) = false := by assumption
      refine ⟨?_, rfl⟩
      rw [emp] at h2
      simp at h2
      simp [RSt.done, h1, h2]
    · go_ret
      have h1 : ¬ st.err = 0 := by assumption
      refine ⟨?_, rfl⟩
      simp [RSt.done, h1]

/-- what a call leaves of a Reader -/
def RsLeft (st : Option RSt) (f : RSt → RSt) (w : World) (p : Option Addr) (w' : World) : Prop := RsAt w' p (st.map f) ∧ w.grownBy w' (prow p)

end Go.Proofs.YtbhoeiopckmfhaaGreatDoor

namespace Go.Proofs.YtbhoeiopckmfhaaGreatDoor
open Go.RowKit

theorem sixteen_size (l : List UInt8) (h : l.length = 16) : (bytesV l).toArray.size = 16 := by simp [bytesV, h]
theorem sixteen_info (l : List UInt8) (h : l.length = 16) : (Tryz.prog.info? 196).map (·.size) = some (bytesV l).toArray.size := by
  have e : (Tryz.prog.info? 196).map (·.size) = some 16 := by kernel_rfl
  rw [e, sixteen_size l h]
theorem slice_sixteen (B : Nat) (w : World) : (Instr.sliceAt 196 (.pointer (some ⟨B, 0, none⟩)) none none none).run Tryz.prog w = .ok (.slice (some ⟨B, 0, none⟩) 16 16) w := by
  have hl : Tryz.prog.arrayLen 196 = 16 := by kernel_rfl
  have he : Tryz.prog.elem 196 = 5 := by kernel_rfl
  obtain ⟨i0, h0⟩ : ∃ i0, Tryz.prog.info? 5 = some i0 := Option.isSome_iff_exists.1 (by kernel_rfl)
  have hc : Tryz.prog.cellsOf 5 = 1 := by kernel_rfl
  rw [run_sliceAt_array_all w 196 ⟨B, 0, none⟩ (by rw [hl, he]; exact Tryz.underlying196), hl, he, run_sizeOf w h0, hc]
  simp [Result.andThen, slicedAt, Addr.add]
theorem eqItems_bytes (d : Nat) (la lb : List UInt8) (w : World) : ∀ is : List Nat, (∀ i ∈ is, i < la.length ∧ i < lb.length) →
    (Op.eqItems (d + 1) 5 1 (bytesV la).toArray (bytesV lb).toArray is).run Tryz.prog w = .ok (is.all fun i => la.getD i 0 == lb.getD i 0) w
  | [], _ => by simp [Op.eqItems]
  | i :: is, h => by
    have hp : Tryz.prog.plainKey 5 = true := by kernel_rfl
    obtain ⟨ha, hb⟩ := h i (by simp)
    have xa : (bytesV la).toArray[i * 1]? = some (.int .u8 (la.getD i 0).toNat) := by
      simp [bytesV, List.getElem?_eq_getElem ha, List.getD_eq_getElem?_getD]
    have xb : (bytesV lb).toArray[i * 1]? = some (.int .u8 (lb.getD i 0).toNat) := by
      simp [bytesV, List.getElem?_eq_getElem hb, List.getD_eq_getElem?_getD]
    have ih := eqItems_bytes d la lb w is (fun j hj => h j (by simp [hj]))
    have e : (((la.getD i 0).toNat : Int) == ((lb.getD i 0).toNat : Int)) = (la.getD i 0 == lb.getD i 0) := by
      rw [Bool.eq_iff_iff, beq_iff_eq, beq_iff_eq, ← UInt8.toNat_inj]
      omega
    simp only [Op.eqItems, Sem.run_bind, run_part_plain w hp xa, run_part_plain w hp xb, Result.andThen_ok, run_equalIn_int w d _ _ _ _ _ Tryz.underlying5, e, List.all_cons]
    cases la.getD i 0 == lb.getD i 0
    · simp
    · simpa using ih
set_option maxRecDepth 100000 in
theorem sixteen_eq (la lb : List UInt8) (ha : la.length = 16) (hb : lb.length = 16) (w : World) :
    (Op.equalIn 10000 196 (.agg (bytesV la).toArray) (.agg (bytesV lb).toArray)).run Tryz.prog w = .ok (la == lb) w := by
  obtain ⟨i0, h0⟩ : ∃ i0, Tryz.prog.info? 5 = some i0 := Option.isSome_iff_exists.1 (by kernel_rfl)
  have hc : Tryz.prog.cellsOf 5 = 1 := by kernel_rfl
  rw [run_equalIn_array w 9999 _ _ Tryz.underlying196 h0, hc, eqItems_bytes 9998 la lb w _ (fun i hi => by have := List.mem_range.1 hi; omega)]
  congr 1
  rw [Bool.eq_iff_iff, List.all_eq_true, beq_iff_eq]
  constructor
  · intro h
    apply List.ext_getElem (by omega)
    intro i h1 h2
    have := h i (List.mem_range.2 (by omega))
    simpa [List.getD_eq_getElem?_getD, List.getElem?_eq_getElem h1, List.getElem?_eq_getElem h2] using this
  · rintro rfl
    simp
end Go.Proofs.YtbhoeiopckmfhaaGreatDoor

namespace Go.Proofs.YtbhoeiopckmfhaaGreatDoor

theorem uponIn_round {F : Fence} {n : Nat} {P : Program} {o : Oper} {a : Act} {K : Act → World → Prop} {Q : Exit → Act → World → Prop} (l : Nat) (r) (h : o.uponIn F n P a K Q r) : o.uponIn (F.inRound l) n P a K Q r := h
theorem wpAnyIn_round {F : Fence} {n : Nat} {P : Program} {md : Region.Mode} {ops : Array Oper} {Q : Exit → Act → World → Prop} {l : Nat} (hro : F.round = none) (hd : ∀ (i : Nat) (o : Oper), ops[i]? = some o → ∀ c, o.op ≠ .defer c) :
    ∀ (fuel : Nat) (listed : Array Bool) (a : Act) (w : World), wpAnyIn F n P md ops Q fuel listed a w → wpAnyIn (F.inRound l) n P md ops Q fuel listed a w := by
  intro fuel
  induction fuel with
  | zero => exact fun _ _ _ h => h
  | succ fuel ih =>
    intro listed a w h
    refine ⟨h.1, fun i hi => ?_⟩
    have h2 := h.2 i hi
    unfold wpOpIn at h2 ⊢
    cases ho : ops[i]? with
    | none => rw [ho] at h2; exact ih _ _ _ h2
    | some o =>
      rw [ho] at h2
      dsimp only at h2 ⊢
      split
      · rename_i hw
        rw [if_pos hw] at h2
        have h3 := Oper.wpIn_mono (K' := fun a' w' => wpAnyIn (F.inRound l) n P md ops Q fuel (listed.setIfInBounds i true) a' w') (fun a' w' h => ih _ _ _ h) h2
        refine ⟨h3.1, ?_⟩
        have h4 := h3.2
        rw [Oper.semAt_plain F _ _ (hd i o ho)] at h4
        rw [Oper.semAt_plain (F.inRound l) _ _ (hd i o ho)]
        exact uponIn_round l _ h4
      · rename_i hw
        rw [if_neg hw] at h2
        exact ⟨h2.1, ih _ _ _ h2.2⟩
/-- a plain region's walk, carried into a round -/
theorem uponIn_plain {P : Program} {n : Nat} {o : Oper} {a : Act} {K : Act → World → Prop} {Q : Exit → Act → World → Prop} (l : Nat) (r) (h : o.upon P a K Q r) : o.uponIn (Fence.wide.inRound l) n P a K Q r := by
  match r, h with
  | .ok (.value _) _, h => exact h
  | .ok .skip _, h => exact h
  | .ok (.defer _) _, h => exact h
  | .ok (.enter _ _) _, h => exact ⟨fun h0 => by simp [Fence.wide, Fence.inRound] at h0, (callsIn_wide (n := n - 1)).2 h⟩
  | .ok (.row row args) w', h => exact ⟨fun h0 => by simp [Fence.wide, Fence.inRound] at h0, fun c cs _ => let ⟨v, w'', r, s⟩ := h c cs; ⟨v, w'', r, stepsIn_wide.2 s⟩⟩
  | .halt (.panic _) _, h => exact h
theorem wpAny_round {n : Nat} {P : Program} {md : Region.Mode} {ops : Array Oper} {Q : Exit → Act → World → Prop} (l : Nat) (hQ : ¬ LetsOut Q) (hd : ∀ (i : Nat) (o : Oper), ops[i]? = some o → ∀ c, o.op ≠ .defer c) :
    ∀ (fuel : Nat) (listed : Array Bool) (a : Act) (w : World), wpAny P md ops Q fuel listed a w → wpAnyIn (Fence.wide.inRound l) n P md ops Q fuel listed a w := by
  intro fuel
  induction fuel with
  | zero => exact fun _ _ _ h => h
  | succ fuel ih =>
    intro listed a w h
    refine ⟨h.1, fun i hi => ?_⟩
    have h2 := h.2 i hi
    unfold wpOp at h2
    unfold wpOpIn
    cases ho : ops[i]? with
    | none => rw [ho] at h2; exact ih _ _ _ h2
    | some o =>
      rw [ho] at h2
      dsimp only at h2 ⊢
      split
      · rename_i hw
        rw [if_pos hw] at h2
        rcases h2 with h2 | h2
        · have h3 : o.wpIn (Fence.wide.inRound l) n P a w (wpAny P md ops Q fuel (listed.setIfInBounds i true)) Q := by
            refine ⟨fun _ _ => trivial, ?_⟩
            rw [Oper.semAt_plain (Fence.wide.inRound l) _ _ (hd i o ho)]
            exact uponIn_plain l _ h2
          exact Oper.wpIn_mono (fun a' w' h => ih _ _ _ h) h3
        · exact absurd h2.2 hQ
      · rename_i hw
        rw [if_neg hw] at h2
        exact ⟨fun _ _ => trivial, ih _ _ _ h2⟩
end Go.Proofs.YtbhoeiopckmfhaaGreatDoor
