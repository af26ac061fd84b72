/- Layer 20's law's auditors as plain data; what holds at the head of its loop; layer 20 speaks. · Numbers in pieces of 16 bits; the roots of primes. Plain; no walk. · What BitsOrder and BitsBands need of plain bits. No walk. · Plain words for sparse trees: nodes of pairs. No walk. · Worlds that turn but in some blocks; the blocks from a number on that are not the caller's own. No walk; no type of the program. · What a sparse tree holds in memory: pairs in a map. No walk. · The walks of a tree's New, Put, Get, Len. · The walk of a tree's Len. · Out of the listed variables: the three tables of labels in memory. -/
import Derived.Test.YtioahjdojgcfdaaDoorRosterLaysB6
import Derived.Test.YtioahjdojgcfdaaDoorRosterLaysB1
import Derived.Test.YtioahjdojgcfdaaDoorRosterLaysB2
import Derived.Deep.MidRow
import Derived.Maps.OwnSet
import Derived.Carry
import Derived.Handy
import Derived.Test.YtioahjdojgcfdaaDoorCards
import Derived.Test.YtioahjdojgcfdaaDoorTie
import Derived.Test.YtioahjdojgcfdaaDoorRosterLaysB3
import Derived.Lib.LaidIn
import Derived.Lib.LaidU8T
import Derived.Deep.DeepHandedRow
import Derived.Deep.DeepWitnessRowRef
import Derived.ProofKit
import Derived.OpenShut
import Derived.ShutString
namespace Go.Proofs.YtioahjdojgcfdaaDoor
open Go.RowKit
attribute [local irreducible] shaL

structure LA where
  n : ByteArray
  c : UInt8
  h : Int
def LA.cells (x : LA) : List Value := [.string x.n, .int .u8 x.c.toNat, .int .i64 x.h]
def LA.aud (x : LA) : AudS := ⟨x.n, keyO x.c, noughts20, x.h⟩
def lasV (L : List LA) : List Value := L.flatMap LA.cells
theorem lasV_len : ∀ L : List LA, (lasV L).length = L.length * 3
  | [] => rfl
  | x :: r => by
    have := lasV_len r
    have e : lasV (x :: r) = x.cells ++ lasV r := rfl
    rw [e, List.length_append, this, List.length_cons]
    show 3 + r.length * 3 = _
    omega
theorem lasV_append (L M : List LA) : lasV (L ++ M) = lasV L ++ lasV M := by simp [lasV]
theorem lasV_one (x : LA) : lasV [x] = x.cells := by simp [lasV]
theorem lasV_at : ∀ (L : List LA) (i j : Nat) (h : i < L.length), j < 3 → (lasV L)[i * 3 + j]? = (L[i]).cells[j]?
  | x :: r, 0, j, _, hj => by
    have e : lasV (x :: r) = x.cells ++ lasV r := rfl
    rw [e, Nat.zero_mul, Nat.zero_add, List.getElem?_append_left (show j < 3 from hj)]
    rfl
  | x :: r, i + 1, j, h, hj => by
    have ih := lasV_at r i j (by simpa using h) hj
    have e : lasV (x :: r) = x.cells ++ lasV r := rfl
    have hl : x.cells.length = 3 := rfl
    rw [e, List.getElem?_append_right (by omega), hl, show (i + 1) * 3 + j - 3 = i * 3 + j by omega, ih]
    rfl
theorem lasV_onecell (L : List LA) : ∀ u ∈ lasV L, u.oneCell' = true := by
  intro u hu
  obtain ⟨x, _, hx⟩ := List.mem_flatMap.1 hu
  simp only [LA.cells, List.mem_cons, List.not_mem_nil, or_false] at hx
  rcases hx with rfl | rfl | rfl <;> rfl
def LAsAt (w : World) (v : Value) (L : List LA) : Prop :=
  ∃ a cap, v = .slice a L.length cap ∧ ∀ i (h : i < L.length), ∃ g o, a = some ⟨g, o, none⟩ ∧ w.cell? ⟨g, o + i * 3, none⟩ = some (.string L[i].n) ∧ w.cell? ⟨g, o + i * 3 + 1, none⟩ = some (.int .u8 L[i].c.toNat) ∧ w.cell? ⟨g, o + i * 3 + 2, none⟩ = some (.int .i64 L[i].h)
theorem LAsAt.grown {w w' : World} {v : Value} {L : List LA} (h : LAsAt w v L) (k : w.grownBy w' none) : LAsAt w' v L := by
  obtain ⟨a, cap, rfl, hc⟩ := h
  refine ⟨a, cap, rfl, fun i hi => ?_⟩
  obtain ⟨g, o, ha, c0, c1, c2⟩ := hc i hi
  exact ⟨g, o, ha, k.cell c0 (by simp), k.cell c1 (by simp), k.cell c2 (by simp)⟩
theorem LAsAt.at_ {w : World} {a : Option Addr} {n cap : Nat} {L : List LA} (h : LAsAt w (.slice a n cap) L) (i : Nat) (x : LA) (hx : L[i]? = some x) : ∃ g o, a = some ⟨g, o, none⟩ ∧ w.cell? ⟨g, o + i * 3, none⟩ = some (.string x.n) ∧ w.cell? ⟨g, o + i * 3 + 1, none⟩ = some (.int .u8 x.c.toNat) ∧ w.cell? ⟨g, o + i * 3 + 2, none⟩ = some (.int .i64 x.h) := by
  obtain ⟨a', cap', e, hc⟩ := h
  cases e
  obtain ⟨hi, rfl⟩ := List.getElem?_eq_some_iff.1 hx
  exact hc i hi
theorem LAsAt.len {w : World} {a : Option Addr} {n cap : Nat} {L : List LA} (h : LAsAt w (.slice a n cap) L) : L.length = n := by
  obtain ⟨_, _, e, _⟩ := h
  injection e with _ e _
  exact e.symm
theorem las_own {w : World} {B : Nat} {v : Value} {L : List LA} (h : w.ownsRow B 77 3 v L.length (lasV L)) : LAsAt w v L := by
  rcases h.2 with ⟨rfl, h0⟩ | ⟨g, cap, cur, rfl, hB, hg, h1, h2, h3, h4⟩
  · exact ⟨none, 0, by rw [h0], fun i hi => by omega⟩
  · have hc : ∀ i j, i < L.length → j < 3 → w.cell? ⟨g, i * 3 + j, none⟩ = (lasV L)[i * 3 + j]? := by
      intro i j hi hj
      rw [← h4, List.getElem?_take, if_pos (by omega), cell_of hg]
      simp
    refine ⟨some ⟨g, 0, none⟩, cap, rfl, fun i hi => ⟨g, 0, rfl, ?_, ?_, ?_⟩⟩
    · rw [Nat.zero_add]; exact (hc i 0 hi (by decide)).trans (lasV_at L i 0 hi (by decide))
    · rw [Nat.zero_add]; exact (hc i 1 hi (by decide)).trans (lasV_at L i 1 hi (by decide))
    · rw [Nat.zero_add]; exact (hc i 2 hi (by decide)).trans (lasV_at L i 2 hi (by decide))
theorem pubErr_key (c : UInt8) (h : Int) : pubErr (keyO c) noughts20 h = if 0 ≤ h ∧ h ≤ 6 then 0 else 10 := by
  unfold pubErr
  by_cases q : 0 ≤ h ∧ h ≤ 6
  · rw [if_pos q, if_pos (show pubOk (keyO c) noughts20 h from ⟨q, keyO_size c, rfl⟩)]
  · rw [if_neg q, if_neg (fun k : pubOk (keyO c) noughts20 h => q k.1)]
theorem like_key (x y : LA) : x.aud.like y.aud = (decide (y.n = x.n) || (decide (y.c = x.c) && decide (y.h = x.h))) := by
  unfold AudS.like LA.aud
  simp only [decide_true, Bool.true_and]
  congr 2
  by_cases q : y.c = x.c
  · rw [q]; simp
  · rw [decide_eq_false q, decide_eq_false (fun k => q (keyO_inj k))]
theorem aud_small {x : LA} (h : x.n.size ≤ 1000000) : x.aud.small := ⟨h, by show (keyO x.c).size ≤ _; rw [keyO_size]; decide, by show noughts20.size ≤ _; decide⟩
/-- at the head of the loop -/
structure RA (w : World) (n0 rb : Nat) (M : List LA) (v mv : Value) (wr : World) : Prop where
  ros : RosAt n0 rb (M.map LA.aud) v wr
  row : wr.ownsRow n0 77 3 mv M.length (lasV M)
  ne : ∀ y, mv.ownBlock = some y → y ≠ rb ∧ v.ownBlock ≠ some y
  gr : w.grownBy wr none
  l : M.length ≤ 64
  l0 : w.heap.size ≤ n0
theorem RA.go {w : World} {n0 rb : Nat} {M : List LA} {v mv : Value} {wr wr' : World} (h : RA w n0 rb M v mv wr) (g : wr.grownBy wr' none) : RA w n0 rb M v mv wr' :=
  ⟨h.ros.go g, own_keepR h.row g (fun _ _ e => by cases e), h.ne, grownBy_trans h.gr g, h.l, h.l0⟩

/-! three auditors -/
def eveL : ByteArray := ⟨#[101, 118, 101]⟩
def malL : ByteArray := ⟨#[109, 97, 108, 108, 111, 114, 121]⟩
theorem eve_name : nameE eveL.data.toList = 0 := by
  have h : normalI [101, 118, 101] = ([101, 118, 101], 0) := by kernel_rfl
  unfold nameE
  rw [show eveL.data.toList = [101, 118, 101] from rfl, h]
  rfl
theorem mal_name : nameE malL.data.toList = 0 := by
  have h : normalI [109, 97, 108, 108, 111, 114, 121] = ([109, 97, 108, 108, 111, 114, 121], 0) := by kernel_rfl
  unfold nameE
  rw [show malL.data.toList = [109, 97, 108, 108, 111, 114, 121] from rfl, h]
  rfl
def eve1 : LA := ⟨eveL, 1, 2⟩
def mal2 : LA := ⟨malL, 2, 2⟩
def eve3 : LA := ⟨eveL, 3, 2⟩
theorem err_of {x : LA} (h : nameE x.n.data.toList = 0) (k : 0 ≤ x.h ∧ x.h ≤ 6) : x.aud.err = 0 := by
  unfold AudS.err
  show (if nameE x.n.data.toList ≠ 0 then nameE x.n.data.toList else pubErr (keyO x.c) noughts20 x.h) = 0
  rw [h, if_neg (by decide), pubErr_key, if_pos k]
theorem add1 : addE [] eve1.aud = 0 := by
  unfold addE
  rw [if_neg (not_not_intro (err_of (x := eve1) eve_name ⟨by decide, by decide⟩))]
  rfl
theorem add2 : addE [eve1.aud] mal2.aud = 0 := by
  unfold addE
  rw [if_neg (not_not_intro (err_of (x := mal2) mal_name ⟨by decide, by decide⟩))]
  have : hasL [eve1.aud] mal2.aud = false := by
    show (mal2.aud.like eve1.aud || false) = false
    rw [like_key]
    have h1 : decide (eve1.n = mal2.n) = false := decide_eq_false (fun q => absurd (congrArg ByteArray.size q) (by decide))
    have h2 : decide (eve1.c = mal2.c) = false := by decide
    rw [h1, h2]
    rfl
  rw [this]
  rfl
theorem add3 : addE [eve1.aud, mal2.aud] eve3.aud = 19 := by
  unfold addE
  rw [if_neg (not_not_intro (err_of (x := eve3) eve_name ⟨by decide, by decide⟩))]
  have : hasL [eve1.aud, mal2.aud] eve3.aud = true := by
    show (eve3.aud.like eve1.aud || (eve3.aud.like mal2.aud || false)) = true
    rw [like_key]
    have h1 : decide (eve1.n = eve3.n) = true := decide_eq_true rfl
    rw [h1]
    rfl
  rw [this]
  rfl
set_option maxRecDepth 100000 in
set_option maxHeartbeats 3200000 in
theorem ros_speaks (w : World) (hN : NormAt w) :
    Calls Tryd.prog 28 #[] w fun e w' => e = .returned (.bool true) ∧ w.grownBy w' none := by
  have HN := Lib.hid hN
  have HK1 := Lib.hid (fun w' => key20_any 1 2 w')
  have HK2 := Lib.hid (fun w' => key20_any 2 2 w')
  have HK3 := Lib.hid (fun w' => key20_any 3 2 w')
  obtain ⟨n0, hn0⟩ : ∃ n0, w.heap.size = n0 := ⟨_, rfl⟩
  have HNN := Lib.hid hn0
  have HNW := Lib.hid (rnew_any w)
  rw [hn0] at HNW
  clear hN hn0
  go_enter Tryd.func28, Tryd.ntmps28
  go_wp2_with fail
  refine HNW.out.mono ?_
  rintro e w1 ⟨rfl, hr1, g1⟩
  have R1 : Hid (RosAt n0 n0 [] (.slice none 0 0) w1) := Lib.hid ⟨hr1, World.ownsRow_nil _ _ _ _, by simp [Value.ownBlock], Nat.le_refl _⟩
  have G1 := Lib.hid g1
  clear hr1 g1
  go_wp2_with fail
  refine (HK1.out _).mono ?_
  rintro e w2 ⟨rfl, g2⟩
  have R2 := Lib.hid (R1.out.go g2)
  have G2 := Lib.hid (grownBy_trans G1.out g2)
  have HA1 := Lib.hid (radd_fine eve1.aud (aud_small (by decide)) n0 n0 [] _ add1 w2 (HN.out.grown G2.out) R2.out)
  clear g2
  unfold AudS.val AudS.cells eve1 LA.aud eveL at HA1
  go_wp2_with fail
  refine HA1.out.mono ?_
  rintro e w3 ⟨rfl, v3, w3a, R3, g3, g3', _⟩
  have G3 := Lib.hid (grown_row (grown_row G2.out g3 (fun y q => by cases q)) g3' (fun y q => by cases q; exact Nat.le_of_eq HNN.out))
  have HR3 : Hid (RosAt n0 n0 [eve1.aud] v3 w3) := Lib.hid R3
  clear R3 g3 g3' HA1
  go_wp2_with fail
  refine (HK2.out _).mono ?_
  rintro e w4 ⟨rfl, g4⟩
  have R4 := Lib.hid (HR3.out.go g4)
  have G4 := Lib.hid (grownBy_trans G3.out g4)
  have HA2 := Lib.hid (radd_fine mal2.aud (aud_small (by decide)) n0 n0 [eve1.aud] _ add2 w4 (HN.out.grown G4.out) R4.out)
  clear g4
  unfold AudS.val AudS.cells mal2 LA.aud malL at HA2
  go_wp2_with fail
  refine HA2.out.mono ?_
  rintro e w5 ⟨rfl, v5, w5a, R5, g5, g5', _⟩
  have G5 := Lib.hid (grown_row (grown_row G4.out g5 (fun y q => by have h1 := (R4.out.o.lt y q).1; have := HNN.out; omega)) g5' (fun y q => by cases q; exact Nat.le_of_eq HNN.out))
  have HR5 : Hid (RosAt n0 n0 [eve1.aud, mal2.aud] v5 w5) := Lib.hid R5
  clear R5 g5 g5' HA2
  go_wp2_with fail
  refine (HK3.out _).mono ?_
  rintro e w6 ⟨rfl, g6⟩
  have R6 := Lib.hid (HR5.out.go g6)
  have G6 := Lib.hid (grownBy_trans G5.out g6)
  have HA3 := Lib.hid (radd_no eve3.aud (aud_small (by decide)) n0 n0 [eve1.aud, mal2.aud] _ (by decide) 19 add3 (by decide) w6 (HN.out.grown G6.out) R6.out)
  clear g6
  unfold AudS.val AudS.cells eve3 LA.aud eveL at HA3
  go_wp2_with fail
  refine HA3.out.mono ?_
  rintro e w7 ⟨rfl, g7⟩
  obtain ⟨a7, c7, hv7⟩ := (R6.out.go g7).form
  have hh7 := (R6.out.go g7).h
  rw [hv7] at hh7
  have HL := Lib.hid (rlen_any n0 a7 2 c7 w7 hh7)
  have G7 := Lib.hid (grownBy_trans G6.out g7)
  clear g7 hv7 hh7
  go_wp2_with fail
  refine HL.out.mono ?_
  rintro e w8 ⟨rfl, rfl⟩
  go_wp2_with fail
  go_ret
  exact ⟨rfl, G7.out⟩
end Go.Proofs.YtioahjdojgcfdaaDoor

namespace Go.Proofs.YtioahjdojgcfdaaDoor

/-- the value of pieces, the lowest first -/
def V : List Nat → Nat
  | [] => 0
  | d :: l => d + 65536 * V l
def Dig (l : List Nat) : Prop := ∀ i, l.getD i 0 < 65536

theorem V_take_drop (l : List Nat) (n : Nat) : V l = V (l.take n) + 65536 ^ n * V (l.drop n) := by
  induction n generalizing l with
  | zero => simp [V]
  | succ n ih =>
    cases l with
    | nil => simp [V]
    | cons d l =>
      simp only [List.take_succ_cons, List.drop_succ_cons, V]
      rw [ih l, Nat.pow_succ, Nat.mul_add]
      rw [Nat.add_assoc, Nat.mul_comm (65536 ^ n) 65536, Nat.mul_assoc]
theorem V_set (l : List Nat) (i x : Nat) (h : i < l.length) : V (l.set i x) + l.getD i 0 * 65536 ^ i = V l + x * 65536 ^ i := by
  induction l generalizing i with
  | nil => cases h
  | cons d l ih =>
    cases i with
    | zero => simp [V]; omega
    | succ i =>
      have := ih i (by simpa using h)
      simp only [List.set_cons_succ, V, List.getD_cons_succ, Nat.pow_succ]
      have e1 : l.getD i 0 * (65536 ^ i * 65536) = 65536 * (l.getD i 0 * 65536 ^ i) := by rw [← Nat.mul_assoc, Nat.mul_comm]
      have e2 : x * (65536 ^ i * 65536) = 65536 * (x * 65536 ^ i) := by rw [← Nat.mul_assoc, Nat.mul_comm]
      rw [e1, e2]
      omega
theorem V_zero (n : Nat) : V (List.replicate n 0) = 0 := by
  induction n with
  | zero => rfl
  | succ n ih => rw [List.replicate_succ, V, ih]
theorem Dig.cons {d : Nat} {l : List Nat} (h : Dig (d :: l)) : d < 65536 ∧ Dig l := ⟨h 0, fun i => by simpa using h (i + 1)⟩
theorem V_lt (l : List Nat) (h : Dig l) : V l < 65536 ^ l.length := by
  induction l with
  | nil => simp [V]
  | cons d l ih =>
    obtain ⟨h1, h2⟩ := h.cons
    have := ih h2
    rw [V, List.length_cons, Nat.pow_succ]
    omega
theorem V_succ (l : List Nat) (k : Nat) (h : k < l.length) : V (l.take (k + 1)) = V (l.take k) + l.getD k 0 * 65536 ^ k := by
  induction k generalizing l with
  | zero =>
    cases l with
    | nil => cases h
    | cons d l => simp [V]
  | succ k ih =>
    cases l with
    | nil => cases h
    | cons d l =>
      have := ih l (by simpa using h)
      simp only [List.take_succ_cons, V, List.getD_cons_succ] at this ⊢
      rw [this, Nat.pow_succ, Nat.mul_add, ← Nat.mul_assoc (l.getD k 0), Nat.mul_comm (l.getD k 0 * 65536 ^ k) 65536]
      omega
theorem V_drop (l : List Nat) (k : Nat) (h : k < l.length) : V (l.drop k) = l.getD k 0 + 65536 * V (l.drop (k + 1)) := by
  rw [List.drop_eq_getElem_cons h, V, List.getD_eq_getElem?_getD, List.getElem?_eq_getElem h]
  rfl

/-! the product, as it is reckoned -/
def tIn (ai i : Nat) (b : List Nat) (out : List Nat) : Nat → List Nat × Nat
  | 0 => (out, 0)
  | k + 1 => ((tIn ai i b out k).1.set (i + k) (((tIn ai i b out k).1.getD (i + k) 0 + ai * b.getD k 0 + (tIn ai i b out k).2) % 65536), ((tIn ai i b out k).1.getD (i + k) 0 + ai * b.getD k 0 + (tIn ai i b out k).2) / 65536)
def tOut (a b : List Nat) : Nat → List Nat
  | 0 => List.replicate (a.length + b.length) 0
  | i + 1 => (tIn (a.getD i 0) i b (tOut a b i) b.length).1.set (i + b.length) ((tIn (a.getD i 0) i b (tOut a b i) b.length).1.getD (i + b.length) 0 + (tIn (a.getD i 0) i b (tOut a b i) b.length).2)
def timesL (a b : List Nat) : List Nat := tOut a b a.length

theorem getD_set (l : List Nat) (i j x : Nat) : (l.set i x).getD j 0 = if i = j ∧ j < l.length then x else l.getD j 0 := by
  rw [List.getD_eq_getElem?_getD, List.getElem?_set, List.getD_eq_getElem?_getD]
  by_cases h : i = j
  · subst h
    by_cases h2 : i < l.length
    · simp [h2]
    · simp [h2]
  · simp [h]
theorem dig_set {l : List Nat} (h : Dig l) (i x : Nat) (hx : x < 65536) : Dig (l.set i x) := fun j => by
  rw [getD_set]
  split
  · exact hx
  · exact h j
theorem t_lt {o ai b c : Nat} (ho : o < 65536) (ha : ai < 65536) (hb : b < 65536) (hc : c < 65536) : o + ai * b + c < 4294967296 := by
  have : ai * b ≤ 65535 * 65535 := Nat.mul_le_mul (by omega) (by omega)
  omega

structure InOk (ai i : Nat) (b out : List Nat) (k : Nat) : Prop where
  len : (tIn ai i b out k).1.length = out.length
  dig : Dig (tIn ai i b out k).1
  carry : (tIn ai i b out k).2 < 65536
  far : ∀ j, i + b.length ≤ j → (tIn ai i b out k).1.getD j 0 = out.getD j 0
  val : V (tIn ai i b out k).1 + (tIn ai i b out k).2 * 65536 ^ (i + k) = V out + ai * V (b.take k) * 65536 ^ i
theorem inOk {ai i : Nat} {b out : List Nat} (ha : ai < 65536) (hb : Dig b) (ho : Dig out) (hl : i + b.length < out.length) (k : Nat) (hk : k ≤ b.length) : InOk ai i b out k := by
  induction k with
  | zero => exact ⟨rfl, ho, by simp [tIn], fun _ _ => rfl, by simp [tIn, V]⟩
  | succ k ih =>
    obtain ⟨h1, h2, h3, h4, h5⟩ := ih (by omega)
    have ht := t_lt (h2 (i + k)) ha (hb k) h3
    refine ⟨?_, ?_, ?_, ?_, ?_⟩
    · rw [tIn]; simp only; rw [List.length_set, h1]
    · rw [tIn]; exact dig_set h2 _ _ (Nat.mod_lt _ (by decide))
    · rw [tIn]; simp only; omega
    · intro j hj
      rw [tIn]
      simp only
      rw [getD_set, if_neg (by omega), h4 j hj]
    · rw [tIn]
      simp only
      have hs := V_set (tIn ai i b out k).1 (i + k) (((tIn ai i b out k).1.getD (i + k) 0 + ai * b.getD k 0 + (tIn ai i b out k).2) % 65536) (by omega)
      have hv := V_succ b k (by omega)
      rw [hv]
      generalize (tIn ai i b out k).1 = o at *
      generalize (tIn ai i b out k).2 = c at *
      generalize o.getD (i + k) 0 = d at *
      generalize b.getD k 0 = e at *
      generalize V (b.take k) = Vb at *
      obtain ⟨P, hP⟩ : ∃ P, P = 65536 ^ (i + k) := ⟨_, rfl⟩
      obtain ⟨R, hR⟩ : ∃ R, R = 65536 ^ i := ⟨_, rfl⟩
      have hPR : P = 65536 ^ k * R := by rw [hP, hR, ← Nat.pow_add, Nat.add_comm]
      rw [← Nat.add_assoc i k 1, Nat.pow_succ, ← hP, ← hR]
      rw [← hP, ← hR] at h5
      rw [← hP] at hs
      have e1 : (d + ai * e + c) / 65536 * (P * 65536) = (65536 * ((d + ai * e + c) / 65536)) * P := by rw [Nat.mul_comm P, ← Nat.mul_assoc, Nat.mul_comm _ 65536]
      rw [e1]
      have e2 : (d + ai * e + c) % 65536 * P + 65536 * ((d + ai * e + c) / 65536) * P = (d + ai * e + c) * P := by rw [← Nat.add_mul, Nat.mod_add_div]
      have e3 : (d + ai * e + c) * P = d * P + ai * e * P + c * P := by rw [Nat.add_mul, Nat.add_mul]
      have e4 : ai * (Vb + e * 65536 ^ k) * R = ai * Vb * R + ai * e * P := by
        rw [hPR, Nat.mul_add, Nat.add_mul, ← Nat.mul_assoc, ← Nat.mul_assoc]
      rw [e4]
      omega

structure OutOk (a b : List Nat) (i : Nat) : Prop where
  len : (tOut a b i).length = a.length + b.length
  dig : Dig (tOut a b i)
  far : ∀ j, i + b.length ≤ j → (tOut a b i).getD j 0 = 0
  val : V (tOut a b i) = V (a.take i) * V b
theorem outOk {a b : List Nat} (ha : Dig a) (hb : Dig b) (i : Nat) (hi : i ≤ a.length) : OutOk a b i := by
  induction i with
  | zero =>
    refine ⟨by simp [tOut], fun j => ?_, fun j _ => ?_, by simp [tOut, V, V_zero]⟩
    · rw [tOut, List.getD_eq_getElem?_getD, List.getElem?_replicate]; split <;> simp
    · rw [tOut, List.getD_eq_getElem?_getD, List.getElem?_replicate]; split <;> simp
  | succ i ih =>
    obtain ⟨h1, h2, h3, h4⟩ := ih (by omega)
    have hin := inOk (i := i) (ha i) hb h2 (by omega) b.length (Nat.le_refl _)
    obtain ⟨g1, g2, g3, g4, g5⟩ := hin
    have hz := g4 (i + b.length) (Nat.le_refl _)
    rw [h3 _ (Nat.le_refl _)] at hz
    refine ⟨?_, ?_, ?_, ?_⟩
    · rw [tOut, List.length_set, g1, h1]
    · rw [tOut]; exact dig_set g2 _ _ (by rw [hz]; omega)
    · intro j hj
      rw [tOut, getD_set, if_neg (by omega), g4 j (by omega), h3 j (by omega)]
    · rw [tOut]
      have hs := V_set (tIn (a.getD i 0) i b (tOut a b i) b.length).1 (i + b.length) ((tIn (a.getD i 0) i b (tOut a b i) b.length).1.getD (i + b.length) 0 + (tIn (a.getD i 0) i b (tOut a b i) b.length).2) (by omega)
      rw [hz] at hs ⊢
      rw [Nat.zero_add] at hs ⊢
      rw [Nat.zero_mul, Nat.add_zero] at hs
      rw [hs, g5, h4, List.take_of_length_le (Nat.le_refl _), V_succ a i (by omega), Nat.add_mul]
      rw [Nat.mul_assoc, Nat.mul_assoc, Nat.mul_comm (V b)]
theorem V_times {a b : List Nat} (ha : Dig a) (hb : Dig b) : V (timesL a b) = V a * V b := by
  have := (outOk ha hb a.length (Nat.le_refl _)).val
  rwa [List.take_of_length_le (Nat.le_refl _)] at this
theorem timesL_length {a b : List Nat} (ha : Dig a) (hb : Dig b) : (timesL a b).length = a.length + b.length := (outOk ha hb a.length (Nat.le_refl _)).len
theorem timesL_dig {a b : List Nat} (ha : Dig a) (hb : Dig b) : Dig (timesL a b) := (outOk ha hb a.length (Nat.le_refl _)).dig

/-! is a power above a number? -/
theorem above_split (m : List Nat) (hm : Dig m) (n p : Nat) (hn : n ≤ m.length) : (decide (p < V (m.drop n)) || (decide (V (m.drop n) = p) && decide (V (m.take n) ≠ 0))) = decide (p * 65536 ^ n < V m) := by
  have h1 := V_take_drop m n
  have hd : Dig (m.take n) := fun i => by
    rw [List.getD_eq_getElem?_getD, List.getElem?_take]
    split
    · rw [← List.getD_eq_getElem?_getD]; exact hm i
    · simp
  have h2 := V_lt _ hd
  rw [List.length_take, Nat.min_eq_left hn] at h2
  generalize V (m.drop n) = hi at *
  generalize V (m.take n) = lo at *
  generalize V m = v at *
  generalize 65536 ^ n = N at *
  rw [Bool.eq_iff_iff]
  simp only [Bool.or_eq_true, Bool.and_eq_true, decide_eq_true_eq]
  rw [h1]
  constructor
  · rintro (h | ⟨rfl, h⟩)
    · have : (p + 1) * N ≤ hi * N := Nat.mul_le_mul_right _ h
      rw [Nat.add_mul, Nat.mul_comm hi] at this
      omega
    · rw [Nat.mul_comm]; omega
  · intro h
    rcases Nat.lt_or_ge p hi with h' | h'
    · exact .inl h'
    · have : hi * N ≤ p * N := Nat.mul_le_mul_right _ h'
      rw [Nat.mul_comm hi] at this
      have e : N * hi = p * N ∨ N * hi < p * N := by omega
      rcases e with e | e
      · right
        have hN : 0 < N := by omega
        have : hi = p := by
          rw [Nat.mul_comm] at e
          exact Nat.eq_of_mul_eq_mul_right hN e
        exact ⟨this, by omega⟩
      · exfalso
        have : hi < p := by
          rcases Nat.lt_or_ge hi p with q | q
          · exact q
          · have := Nat.mul_le_mul_right N q
            rw [Nat.mul_comm hi] at this
            omega
        have : (hi + 1) * N ≤ p * N := Nat.mul_le_mul_right _ this
        rw [Nat.add_mul, Nat.mul_comm hi] at this
        omega
def pieces (y : Nat) : List Nat := [y % 65536, y / 65536 % 65536, y / 4294967296]
theorem pieces_dig (y : Nat) (h : y < 281474976710656) : Dig (pieces y) := fun i => by
  unfold pieces
  match i with
  | 0 => simp; omega
  | 1 => simp; omega
  | 2 => simp; omega
  | i + 3 => simp
theorem V_pieces (y : Nat) : V (pieces y) = y := by
  simp [pieces, V]
  omega
def aboveP (y p : Nat) (cube : Bool) : Bool := if cube then decide (p * 65536 ^ 6 < y * y * y) else decide (p * 65536 ^ 4 < y * y)

/-! the roots -/
def rootTo (p : Nat) (cube : Bool) : Nat → Nat
  | 0 => 0
  | j + 1 => if aboveP (rootTo p cube j + 68719476736 / 2 ^ j) p cube then rootTo p cube j else rootTo p cube j + 68719476736 / 2 ^ j
theorem rootTo_lt (p : Nat) (cube : Bool) (j : Nat) (hj : j ≤ 37) : rootTo p cube j + 137438953472 / 2 ^ j ≤ 137438953472 := by
  induction j with
  | zero => simp [rootTo]
  | succ j ih =>
    have := ih (by omega)
    have e : 137438953472 / 2 ^ j = 2 * (68719476736 / 2 ^ j) := by
      obtain ⟨r, hr⟩ : ∃ r, 36 = j + r := ⟨36 - j, by omega⟩
      have e1 : (68719476736 : Nat) = 2 ^ j * 2 ^ r := by rw [← Nat.pow_add, ← hr]
      have e2 : (137438953472 : Nat) = 2 ^ j * (2 * 2 ^ r) := by rw [Nat.mul_left_comm, ← e1]
      rw [e2, Nat.mul_div_cancel_left _ (Nat.two_pow_pos j), e1, Nat.mul_div_cancel_left _ (Nat.two_pow_pos j)]
    have e3 : 137438953472 / 2 ^ (j + 1) = 68719476736 / 2 ^ j := by
      rw [Nat.pow_succ, ← Nat.div_div_eq_div_mul, e]
      omega
    rw [rootTo, e3]
    split <;> omega
def rootR (p : Nat) (cube : Bool) : Nat := rootTo p cube 37 % 4294967296
/-- is there no divisor below d? -/
def noDiv (p d : Nat) : Bool := (List.range d).all fun k => k < 2 || p % k != 0
theorem noDiv_succ (p d : Nat) (h : 2 ≤ d) : noDiv p (d + 1) = (noDiv p d && (p % d != 0)) := by
  unfold noDiv
  have hd : decide (d < 2) = false := by rw [decide_eq_false_iff_not]; omega
  rw [List.range_succ, List.all_append]
  simp [hd]
def isP (p : Nat) : Bool := (List.range (p + 1)).all fun k => k < 2 || p < k * k || p % k != 0
theorem noDiv_isP (p d : Nat) (h1 : p < d * d) (h2 : ∀ k, k < d → 2 ≤ k → k * k ≤ p) : noDiv p d = isP p := by
  unfold noDiv isP
  rw [Bool.eq_iff_iff, List.all_eq_true, List.all_eq_true]
  simp only [List.mem_range, Bool.or_eq_true, decide_eq_true_eq, bne_iff_ne]
  constructor
  · intro h k hk
    rcases Nat.lt_or_ge k d with hd | hd
    · rcases h k hd with h | h
      · exact .inl (.inl h)
      · exact .inr h
    · left; right
      exact Nat.lt_of_lt_of_le h1 (Nat.mul_le_mul hd hd)
  · intro h k hk
    rcases Nat.lt_or_ge k 2 with h3 | h3
    · exact .inl h3
    · have hkk := h2 k hk h3
      have hkp : k ≤ p := Nat.le_trans (Nat.le_mul_self k) hkk
      rcases h k (by omega) with (h | h) | h
      · exact .inl h
      · omega
      · exact .inr h
/-- the primes below a number -/
def primesTo (q : Nat) : List Nat := (List.range q).filter fun p => 2 ≤ p && isP p
theorem primesTo_succ (q : Nat) (h : 2 ≤ q) : primesTo (q + 1) = primesTo q ++ if isP q then [q] else [] := by
  unfold primesTo
  rw [List.range_succ, List.filter_append]
  congr 1
  by_cases hp : isP q
  · simp [List.filter_cons, hp, h]
  · simp [List.filter_cons, hp]
theorem primesTo_mono (p q : Nat) (h : p ≤ q) : (primesTo p).length ≤ (primesTo q).length := by
  obtain ⟨r, rfl⟩ : ∃ r, q = p + r := ⟨q - p, by omega⟩
  unfold primesTo
  rw [List.range_add, List.filter_append, List.length_append]
  omega
theorem roots64 : (primesTo 312).map (rootR · true) = rootsL := by kernel_rfl
theorem roots8 : (primesTo 20).map (rootR · false) = start.list := by kernel_rfl
theorem primes311 : (primesTo 311).length = 63 := by kernel_rfl
theorem primes19 : (primesTo 19).length = 7 := by kernel_rfl
end Go.Proofs.YtioahjdojgcfdaaDoor

namespace Go.Proofs.YtioahjdojgcfdaaDoor
open Go.RowKit

theorem bandN_same (a b : ByteArray) : ∀ d, (∀ i, i < d → bitS a i = bitS b i) → bandN a d = bandN b d
  | 0, _ => rfl
  | d + 1, h => by rw [bandN, bandN, bandN_same a b d (fun i hi => h i (by omega)), h d (by omega)]
theorem bandN_less (a b : ByteArray) (k : Nat) (h : ∀ i, i < k → bitS a i = bitS b i) (h0 : bitS a k = 0) (h1 : bitS b k = 1) : ∀ d, k < d → bandN a d < bandN b d
  | 0, hd => by omega
  | d + 1, hd => by
    rw [bandN, bandN]
    by_cases e : k = d
    · subst e
      rw [bandN_same a b k h, h0, h1]; omega
    · have := bandN_less a b k h h0 h1 d (by omega)
      have := bitS_le a d
      omega
theorem bandN_bit (a : ByteArray) : ∀ d i, i < d → bandN a d / 2 ^ (d - 1 - i) % 2 = bitS a i
  | 0, i, h => by omega
  | d + 1, i, h => by
    have hb := bitS_le a d
    rw [bandN]
    by_cases e : i = d
    · subst e
      rw [show i + 1 - 1 - i = 0 from by omega, Nat.pow_zero, Nat.div_one]; omega
    · have ih := bandN_bit a d i (by omega)
      rw [show d + 1 - 1 - i = (d - 1 - i) + 1 from by omega, Nat.pow_succ, Nat.mul_comm (2 ^ _) 2, ← Nat.div_div_eq_div_mul, show (2 * bandN a d + bitS a d) / 2 = bandN a d from by omega]
      exact ih
/-- a text with the bits of a band's number has that band -/
theorem band_of_bits (s : ByteArray) (b d : Nat) (h : ∀ i, i < d → bitS s i = b / 2 ^ (d - 1 - i) % 2) : ∀ k, k ≤ d → bandN s k = b / 2 ^ (d - k) % 2 ^ k
  | 0, _ => by rw [Nat.pow_zero, Nat.mod_one]; rfl
  | k + 1, hk => by
    rw [bandN, band_of_bits s b d h k (by omega), h k (by omega), show d - 1 - k = d - (k + 1) from by omega, show d - k = (d - (k + 1)) + 1 from by omega, Nat.pow_succ 2 (d - (k + 1)), ← Nat.div_div_eq_div_mul]
    generalize b / 2 ^ (d - (k + 1)) = x
    rw [Nat.pow_succ, Nat.mul_comm (2 ^ k) 2, Nat.mod_mul]
    omega
/-- bytes of the same bits are the same -/
theorem top_bits (a b r : Nat) (ha : a < 256) (hb : b < 256) : ∀ m, m ≤ 8 → (∀ j, j < m → a / 2 ^ (7 - j) % 2 = b / 2 ^ (7 - j) % 2) → a / 2 ^ (8 - m) = b / 2 ^ (8 - m)
  | 0, _, _ => by rw [show 2 ^ (8 - 0) = 256 from rfl]; omega
  | m + 1, hm, h => by
    have ih := top_bits a b r ha hb m (by omega) (fun j hj => h j (by omega))
    have h1 := h m (by omega)
    rw [show 8 - m = (7 - m) + 1 from by omega, Nat.pow_succ, ← Nat.div_div_eq_div_mul, ← Nat.div_div_eq_div_mul] at ih
    rw [show 8 - (m + 1) = 7 - m from by omega]
    omega
theorem bitL_byte (l : List UInt8) (q j : Nat) (h : j < 8) : bitL l (8 * q + j) = ((l[q]?).getD 0).toNat / 2 ^ (7 - j) % 2 := by
  unfold bitL
  rw [show (8 * q + j) / 8 = q from by omega, show (8 * q + j) % 8 = j from by omega]
theorem byte_same (l m : List UInt8) (q : Nat) (h : ∀ i, i < 8 → bitL l (8 * q + i) = bitL m (8 * q + i)) : (l[q]?).getD 0 = (m[q]?).getD 0 := by
  have := top_bits _ _ 0 (UInt8.toNat_lt ((l[q]?).getD 0)) (UInt8.toNat_lt ((m[q]?).getD 0)) 8 (Nat.le_refl _) (fun j hj => by
    have := h j hj
    rwa [bitL_byte l q j hj, bitL_byte m q j hj] at this)
  rw [show 2 ^ (8 - 8) = 1 from rfl, Nat.div_one, Nat.div_one] at this
  exact UInt8.toNat_inj.1 this
theorem bits_all (l m : List UInt8) (n : Nat) (hl : l.length = n) (hm : m.length = n) (h : ∀ i, i < 8 * n → bitL l i = bitL m i) : l = m := by
  apply List.ext_getElem (by omega)
  intro q h1 h2
  have := byte_same l m q (fun i hi => h _ (by omega))
  rwa [List.getElem?_eq_getElem h1, List.getElem?_eq_getElem h2] at this
/-- the first bit that is not the same tells the order -/
theorem less_cons (x y : UInt8) (l m : List UInt8) : Op.bytesLess (x :: l) (y :: m) = (decide (x < y) || (x == y && Op.bytesLess l m)) := rfl
theorem less_first : ∀ (q : Nat) (l m : List UInt8), l.length = m.length → q < l.length → (∀ i, i < q → (l[i]?).getD 0 = (m[i]?).getD 0) → (l[q]?).getD 0 < (m[q]?).getD 0 → Op.bytesLess l m = true ∧ Op.bytesLess m l = false
  | _, [], _, _, h, _, _ => by simp at h
  | _, _ :: _, [], h, _, _, _ => by simp at h
  | 0, x :: l, y :: m, _, _, _, h => by
    have hxy : x < y := by simpa using h
    have h2 := UInt8.lt_iff_toNat_lt.1 hxy
    rw [less_cons, less_cons]
    constructor
    · simp [hxy]
    · have h3 : ¬ y < x := by rw [UInt8.lt_iff_toNat_lt]; omega
      have h4 : (y == x) = false := by
        rw [beq_eq_false_iff_ne]
        rintro rfl
        omega
      simp [h3, h4]
  | q + 1, x :: l, y :: m, hl, hq, hs, h => by
    have h0 := hs 0 (by omega)
    have hxy : x = y := by simpa using h0
    subst hxy
    obtain ⟨i1, i2⟩ := less_first q l m (by simpa using hl) (by simpa using hq) (fun i hi => by simpa using hs (i + 1) (by omega)) (by simpa using h)
    have h3 : ¬ x < x := by rw [UInt8.lt_iff_toNat_lt]; omega
    rw [less_cons, less_cons, i1, i2]
    simp [h3]
theorem less_of_bit (l m : List UInt8) (k : Nat) (hl : l.length = m.length) (hk : k < 8 * l.length) (hs : ∀ i, i < k → bitL l i = bitL m i) (h0 : bitL l k = 0) (h1 : bitL m k = 1) : Op.bytesLess l m = true ∧ Op.bytesLess m l = false := by
  obtain ⟨q, hq⟩ : ∃ q, k / 8 = q := ⟨_, rfl⟩
  obtain ⟨r, hr⟩ : ∃ r, k % 8 = r := ⟨_, rfl⟩
  have hkq : k = 8 * q + r := by omega
  subst hkq
  refine less_first q l m hl (by omega) (fun i hi => byte_same l m i (fun j hj => hs _ (by omega))) ?_
  rw [bitL_byte l q r (by omega)] at h0
  rw [bitL_byte m q r (by omega)] at h1
  have ht := top_bits _ _ 0 (UInt8.toNat_lt ((l[q]?).getD 0)) (UInt8.toNat_lt ((m[q]?).getD 0)) r (by omega) (fun j hj => by
    have := hs (8 * q + j) (by omega)
    rwa [bitL_byte l q j (by omega), bitL_byte m q j (by omega)] at this)
  rw [UInt8.lt_iff_toNat_lt]
  generalize ((l[q]?).getD 0).toNat = a at h0 ht ⊢
  generalize ((m[q]?).getD 0).toNat = b at h1 ht ⊢
  rw [show 8 - r = (7 - r) + 1 from by omega, Nat.pow_succ, ← Nat.div_div_eq_div_mul, ← Nat.div_div_eq_div_mul] at ht
  rcases Nat.lt_or_ge a b with h | h
  · exact h
  · have := Nat.div_le_div_right (c := 2 ^ (7 - r)) h
    omega
/-- what the two texts' order says of the first bit that is not the same -/
theorem order_bit (p q : List UInt8) (k : Nat) (hp : p.length = 16) (hq : q.length = 16) (hk : k < 128) (hs : ∀ i, i < k → bitL p i = bitL q i) (hne : bitL p k ≠ bitL q k) (h : Op.bytesLess q p = false) : bitL p k = 0 ∧ bitL q k = 1 := by
  have h1 : bitL p k ≤ 1 := bitS_le (str p) k
  have h2 : bitL q k ≤ 1 := bitS_le (str q) k
  rcases (by omega : (bitL p k = 0 ∧ bitL q k = 1) ∨ (bitL q k = 0 ∧ bitL p k = 1)) with h3 | ⟨h3, h4⟩
  · exact h3
  · rw [(less_of_bit q p k (by omega) (by omega) (fun i hi => (hs i hi).symm) h3 h4).1] at h
    cases h
theorem less_irr : ∀ l : List UInt8, Op.bytesLess l l = false
  | [] => rfl
  | x :: l => by
    have h3 : ¬ x < x := by rw [UInt8.lt_iff_toNat_lt]; omega
    rw [less_cons, less_irr l]
    simp [h3]
theorem less_asym : ∀ l m : List UInt8, Op.bytesLess l m = true → Op.bytesLess m l = false
  | [], [], h => by simp [Op.bytesLess] at h
  | [], _ :: _, _ => rfl
  | _ :: _, [], h => by simp [Op.bytesLess] at h
  | x :: l, y :: m, h => by
    rw [less_cons] at h ⊢
    simp only [Bool.or_eq_true, Bool.and_eq_true, decide_eq_true_eq, beq_iff_eq] at h
    rcases h with h | ⟨rfl, h⟩
    · have h1 := UInt8.lt_iff_toNat_lt.1 h
      have h3 : ¬ y < x := by rw [UInt8.lt_iff_toNat_lt]; omega
      have h4 : (y == x) = false := by
        rw [beq_eq_false_iff_ne]
        rintro rfl
        omega
      simp [h3, h4]
    · have h3 : ¬ x < x := by rw [UInt8.lt_iff_toNat_lt]; omega
      rw [less_asym l m h]
      simp [h3]
theorem str_list (l : List UInt8) : (str l).toList = l := by rw [ByteArray.toList_eq]; rfl
end Go.Proofs.YtioahjdojgcfdaaDoor

namespace Go.Proofs.YtioahjdojgcfdaaDoor
attribute [local irreducible] shaL

def emptyS : ByteArray := ⟨#[0]⟩
def leafS (k v : ByteArray) : ByteArray := ⟨#[1]⟩ ++ tagS 9 [k, v]
def bothS (a b : ByteArray) : ByteArray := ⟨#[2]⟩ ++ tagS 10 [a, b]
/-- the first byte of a text, or 0 -/
def headB (s : ByteArray) : UInt8 := (s.data.toList[0]?).getD 0
def leafB (s : ByteArray) : Bool := decide (s.size = 17) && (headB s == 1)
def joinN (a b : ByteArray) : ByteArray := if a = emptyS ∧ (b = emptyS ∨ leafB b = true) then b else if b = emptyS ∧ leafB a = true then a else bothS a b
abbrev PairS := ByteArray × ByteArray
/-- those whose bit there is b -/
def side (b d : Nat) (l : List PairS) : List PairS := l.filter fun x => bitS x.1 d == b
def nodeN : Nat → List PairS → Nat → ByteArray
  | _, [], _ => emptyS
  | _, [x], _ => leafS x.1 x.2
  | 0, _ :: _ :: _, _ => emptyS
  | f + 1, x :: y :: r, d => joinN (nodeN f (side 0 d (x :: y :: r)) (d + 1)) (nodeN f (side 1 d (x :: y :: r)) (d + 1))
theorem nodeN_nil (f d : Nat) : nodeN f [] d = emptyS := by cases f <;> rfl
theorem nodeN_one (f d : Nat) (x : PairS) : nodeN f [x] d = leafS x.1 x.2 := by cases f <;> rfl
theorem nodeN_more (f d : Nat) (l : List PairS) (h : 2 ≤ l.length) : nodeN (f + 1) l d = joinN (nodeN f (side 0 d l) (d + 1)) (nodeN f (side 1 d l) (d + 1)) := by
  match l, h with
  | x :: y :: r, _ => rfl
theorem nodeN_perm : ∀ (f : Nat) (l m : List PairS) (d : Nat), l.Perm m → nodeN f l d = nodeN f m d := by
  intro f
  induction f with
  | zero =>
    intro l m d h
    have hl := h.length_eq
    match l, m, h, hl with
    | [], [], _, _ => rfl
    | [x], [y], h, _ => rw [List.perm_singleton.1 h.symm]
    | x :: y :: r, x' :: y' :: r', _, _ => rfl
  | succ f ih =>
    intro l m d h
    have hl := h.length_eq
    by_cases h2 : 2 ≤ l.length
    · rw [nodeN_more f d l h2, nodeN_more f d m (by omega), ih (side 0 d l) (side 0 d m) _ (h.filter _), ih (side 1 d l) (side 1 d m) _ (h.filter _)]
    · match l, m, h, hl, h2 with
      | [], [], _, _, _ => rfl
      | [x], [y], h, _, _ => rw [List.perm_singleton.1 h.symm]
      | x :: y :: r, _, _, _, h2 => simp at h2
theorem tag16 (t : UInt8) (L : List ByteArray) : (tagS t L).size = 16 := tagS_size _ _
theorem leafS_size (k v : ByteArray) : (leafS k v).size = 17 := by unfold leafS; rw [ByteArray.size_append, tag16]; rfl
theorem bothS_size (a b : ByteArray) : (bothS a b).size = 17 := by unfold bothS; rw [ByteArray.size_append, tag16]; rfl
theorem head_app (c : UInt8) (t : ByteArray) : headB (⟨#[c]⟩ ++ t) = c := by
  unfold headB
  rw [ByteArray.data_append, Array.toList_append]
  rfl
theorem leafS_leaf (k v : ByteArray) : leafB (leafS k v) = true := by
  unfold leafB
  rw [leafS_size, leafS, head_app]
  decide
theorem bothS_leaf (a b : ByteArray) : leafB (bothS a b) = false := by
  unfold leafB
  rw [bothS_size, bothS, head_app]
  decide
theorem emptyS_leaf : leafB emptyS = false := by decide
theorem size_ne {a b : ByteArray} (h : a.size ≠ b.size) : a ≠ b := fun e => h (by rw [e])
theorem leafS_ne (k v : ByteArray) : leafS k v ≠ emptyS := size_ne (by rw [leafS_size]; decide)
theorem bothS_ne (a b : ByteArray) : bothS a b ≠ emptyS := size_ne (by rw [bothS_size]; decide)
/-- a node: empty, a leaf's, or another one -/
inductive NodeS : ByteArray → Prop
  | none : NodeS emptyS
  | leaf (k v : ByteArray) : NodeS (leafS k v)
  | both (a b : ByteArray) : NodeS (bothS a b)
theorem joinN_node {a b : ByteArray} (ha : NodeS a) (hb : NodeS b) : NodeS (joinN a b) := by
  unfold joinN
  split
  · exact hb
  · split
    · exact ha
    · exact .both a b
theorem nodeN_node : ∀ (f : Nat) (l : List PairS) (d : Nat), NodeS (nodeN f l d)
  | 0, [], _ => .none
  | 0, [x], _ => .leaf _ _
  | 0, _ :: _ :: _, _ => .none
  | f + 1, [], _ => .none
  | f + 1, [x], _ => .leaf _ _
  | f + 1, x :: y :: r, d => joinN_node (nodeN_node f _ _) (nodeN_node f _ _)
theorem NodeS.size {a : ByteArray} (h : NodeS a) : a.size ≤ 17 := by
  cases h
  · decide
  · rw [leafS_size]; exact Nat.le_refl _
  · rw [bothS_size]; exact Nat.le_refl _

/-- keys of 16 bytes, no two the same, that begin alike by d bits -/
structure Alike (d : Nat) (l : List PairS) : Prop where
  len : ∀ x ∈ l, x.1.size = 16
  one : l.Pairwise (fun x y => x.1 ≠ y.1)
  bits : ∀ x ∈ l, ∀ y ∈ l, ∀ i, i < d → bitS x.1 i = bitS y.1 i
theorem bits_key {a b : ByteArray} (ha : a.size = 16) (hb : b.size = 16) (h : ∀ i, i < 128 → bitS a i = bitS b i) : a = b := by
  have := bits_all a.data.toList b.data.toList 16 (by rw [Array.length_toList]; exact ha) (by rw [Array.length_toList]; exact hb) (fun i hi => h i (by omega))
  exact ByteArray.ext (Array.toList_inj.1 this)
theorem Alike.few {d : Nat} {l : List PairS} (h : Alike d l) (hd : 128 ≤ d) : l.length ≤ 1 := by
  match l, h with
  | [], _ => simp
  | [x], _ => simp
  | x :: y :: r, h =>
    exfalso
    have h1 := (List.pairwise_cons.1 h.one).1 y (by simp)
    exact h1 (bits_key (h.len x (by simp)) (h.len y (by simp)) (fun i hi => h.bits x (by simp) y (by simp) i (by omega)))
theorem Alike.sub {d : Nat} {l m : List PairS} (h : Alike d l) (hs : m.Sublist l) : Alike d m :=
  ⟨fun x hx => h.len x (hs.subset hx), h.one.sublist hs, fun x hx y hy => h.bits x (hs.subset hx) y (hs.subset hy)⟩
theorem Alike.side {d b : Nat} {l : List PairS} (h : Alike d l) : Alike (d + 1) (side b d l) := by
  have h1 := h.sub (List.filter_sublist (p := fun x => bitS x.1 d == b))
  refine ⟨h1.len, h1.one, fun x hx y hy i hi => ?_⟩
  by_cases hid : i < d
  · exact h1.bits x hx y hy i hid
  · obtain rfl : i = d := by omega
    have e1 := (List.mem_filter.1 hx).2
    have e2 := (List.mem_filter.1 hy).2
    simp at e1 e2
    rw [e1, e2]
theorem Alike.perm {d : Nat} {l m : List PairS} (h : Alike d l) (hp : l.Perm m) : Alike d m :=
  ⟨fun x hx => h.len x (hp.mem_iff.2 hx), (hp.pairwise_iff (fun {_ _} q => Ne.symm q)).1 h.one, fun x hx y hy => h.bits x (hp.mem_iff.2 hx) y (hp.mem_iff.2 hy)⟩
/-- the document's joining, by how many keys are on each side -/
theorem side_all (b d : Nat) (l : List PairS) : side b d (side b d l) = side b d l := by unfold side; rw [List.filter_filter]; congr 1; funext x; simp
theorem side_len (d : Nat) (l : List PairS) : (side 0 d l).length + (side 1 d l).length = l.length := by
  induction l with
  | nil => rfl
  | cons x r ih =>
    have hb := bitS_le x.1 d
    unfold side at ih ⊢
    by_cases h : bitS x.1 d = 0
    · simp [List.filter_cons, h]; omega
    · have h1 : bitS x.1 d = 1 := by omega
      simp [List.filter_cons, h1]; omega
end Go.Proofs.YtioahjdojgcfdaaDoor

namespace Go.Proofs.YtioahjdojgcfdaaDoor
open Go.RowKit

/-- w' is as w was, but for the blocks of S, and new ones -/
structure Turn (S : Nat → Prop) (w w' : World) : Prop where
  os : w'.os = w.os
  tape : w'.tape = w.tape
  output : w'.output = w.output
  size : w.heap.size ≤ w'.heap.size
  block : ∀ i, i < w.heap.size → ¬ S i → w'.heap[i]? = w.heap[i]?
/-- the blocks that were made between two worlds -/
def madeIn (w w' : World) (i : Nat) : Prop := w.heap.size ≤ i ∧ i < w'.heap.size
theorem Turn.refl (S : Nat → Prop) (w : World) : Turn S w w := ⟨rfl, rfl, rfl, Nat.le_refl _, fun _ _ _ => rfl⟩
theorem Turn.mono {S T : Nat → Prop} {w w' : World} (h : Turn S w w') (hs : ∀ i, i < w.heap.size → S i → T i) : Turn T w w' := ⟨h.os, h.tape, h.output, h.size, fun i hi hn => h.block i hi (fun q => hn (hs i hi q))⟩
theorem Turn.trans {S T : Nat → Prop} {a b c : World} (h : Turn S a b) (k : Turn T b c) (hs : ∀ i, i < a.heap.size → T i → S i) : Turn S a c :=
  ⟨k.os.trans h.os, k.tape.trans h.tape, k.output.trans h.output, Nat.le_trans h.size k.size, fun i hi hn => (k.block i (Nat.lt_of_lt_of_le hi h.size) (fun q => hn (hs i hi q))).trans (h.block i hi hn)⟩
theorem Turn.then {S : Nat → Prop} {a b c : World} (h : Turn S a b) (k : Turn S b c) : Turn S a c := h.trans k (fun _ _ q => q)
theorem Turn.grown {S : Nat → Prop} {a b c : World} (h : Turn S a b) (k : b.grownBy c none) : Turn S a c := h.then ⟨k.os, k.tape, k.output, k.size, fun i hi _ => k.block i hi (by simp)⟩
theorem Turn.of_grown {S : Nat → Prop} {a b : World} (k : a.grownBy b none) : Turn S a b := (Turn.refl S a).grown k
theorem Turn.row {S : Nat → Prop} {a b c : World} (h : Turn S a b) {row : Option Nat} (k : b.grownBy c row) (hs : ∀ i, i < a.heap.size → row = some i → S i) : Turn S a c :=
  h.trans (T := fun i => row = some i) ⟨k.os, k.tape, k.output, k.size, fun i hi hn => k.block i hi (fun e => hn e.symm)⟩ hs
theorem Turn.drew {S : Nat → Prop} {a b : World} (h : Turn S a b) : Turn S a b.drew := ⟨h.os, h.tape, h.output, h.size, h.block⟩
theorem Turn.alloc {S : Nat → Prop} {a b : World} (h : Turn S a b) (o : Obj) : Turn S a (b.alloc o) := h.grown (World.grownBy_alloc b o none)
theorem Turn.setCell {S : Nat → Prop} {a b : World} (h : Turn S a b) {k : Nat} (hk : k < a.heap.size → S k) (o : Nat) (u : Value) : Turn S a (b.setCell ⟨k, o, none⟩ u) :=
  ⟨h.os, h.tape, h.output, by rw [size_setCell]; exact h.size, fun i hi hn => by rw [heap_setCell_ne _ _ _ _ (fun e => hn (by rw [← e]; exact hk (by omega)))]; exact h.block i hi hn⟩
theorem Turn.setCells {S : Nat → Prop} {a b : World} (h : Turn S a b) {k : Nat} (hk : k < a.heap.size → S k) (o : Nat) (vs : List Value) : Turn S a (b.setCells k o vs) :=
  ⟨by rw [← h.os]; induction vs generalizing o b with | nil => rfl | cons v r ih => exact ih (b := b.setCell _ v) (h.setCell hk o v) _,
   by rw [← h.tape]; induction vs generalizing o b with | nil => rfl | cons v r ih => exact ih (b := b.setCell _ v) (h.setCell hk o v) _,
   by rw [← h.output]; induction vs generalizing o b with | nil => rfl | cons v r ih => exact ih (b := b.setCell _ v) (h.setCell hk o v) _,
   by rw [size_setCells]; exact h.size, fun i hi hn => by rw [heap_setCells_ne (fun e => hn (by rw [← e]; exact hk (by omega)))]; exact h.block i hi hn⟩
theorem Turn.below {S : Nat → Prop} {B : Nat} {w0 w w' : World} (h : Below B w0 w) (k : Turn S w w') (hB : B ≤ w.heap.size) (hs : ∀ i, i < B → ¬ S i) : Below B w0 w' :=
  ⟨k.os.trans h.os, k.tape.trans h.tape, k.output.trans h.output, Nat.le_trans h.size k.size, fun i hi => (k.block i (Nat.lt_of_lt_of_le hi hB) (hs i hi)).trans (h.block i hi)⟩
theorem Turn.cell {S : Nat → Prop} {w w' : World} (h : Turn S w w') {b : Nat} (hb : b < w.heap.size) (hn : ¬ S b) (o : Nat) : w'.cell? ⟨b, o, none⟩ = w.cell? ⟨b, o, none⟩ := World.cell?_of_block (h.block b hb hn)
theorem Turn.heap {S : Nat → Prop} {w w' : World} (h : Turn S w w') {b : Nat} {o : Obj} (hb : w.heap[b]? = some o) (hn : ¬ S b) : w'.heap[b]? = some o := by
  rw [h.block b (Array.getElem?_eq_some_iff.1 hb).1 hn]; exact hb

/-- an own row lies on, where its block does not turn -/
theorem own_turn {S : Nat → Prop} {w w' : World} {B : Nat} {e : TypeId} {size n : Nat} {v : Value} {xs : List Value} (h : w.ownsRow B e size v n xs) (k : Turn S w w') (hs : ∀ g, v.ownBlock = some g → ¬ S g) : w'.ownsRow B e size v n xs := by
  refine ⟨h.1, ?_⟩
  rcases h.2 with h' | ⟨g, cap, cur, rfl, b, hg, r⟩
  · exact .inl h'
  · exact .inr ⟨g, cap, cur, rfl, b, k.heap hg (hs g rfl), r⟩

/-- the blocks from n0 on that are none of X -/
def rest (n0 : Nat) (X : List Nat) (i : Nat) : Prop := n0 ≤ i ∧ i ∉ X
theorem Turn.inX {n0 : Nat} {X : List Nat} {w w' : World} {x : Nat} {o : Obj} (k : Turn (rest n0 X) w w') (hx : x ∈ X) (h : w.heap[x]? = some o) : w'.heap[x]? = some o := k.heap h (fun q => q.2 hx)
theorem Turn.bel {n0 : Nat} {X : List Nat} {w0 w w' : World} (k : Turn (rest n0 X) w w') (h : Below n0 w0 w) (hn : n0 ≤ w.heap.size) : Below n0 w0 w' := k.below h hn (fun i hi q => by have := q.1; omega)
theorem rest_mono {n0 : Nat} {X Y : List Nat} (h : ∀ x ∈ X, x ∈ Y) {w w' : World} (k : Turn (rest n0 Y) w w') : Turn (rest n0 X) w w' := k.mono (fun _ _ q => ⟨q.1, fun hx => q.2 (h _ hx)⟩)

end Go.Proofs.YtioahjdojgcfdaaDoor

namespace Go.Proofs.YtioahjdojgcfdaaDoor
open Go.RowKit Go.Maps

abbrev DatU := DataW Unit
def litK (k : ByteArray) : Lit := .string k.data.toList
/-- a map as read holds these pairs -/
structure IsM (D : DatU) (M : List PairS) : Prop where
  has : ∀ k : ByteArray, Maps.has D (litK k) = M.any (fun p => decide (p.1 = k))
  look : ∀ p ∈ M, ∀ zd, D.atKey (litK p.1) zd = .lit (.string p.2.data.toList)
  size : Maps.size D = M.length
  one : M.Pairwise (fun p q => p.1 ≠ q.1)
/-- pairs with one more, or another value -/
def setM (M : List PairS) (x : PairS) : List PairS := M.filter (fun p => !(decide (p.1 = x.1))) ++ [x]
theorem litK_inj {a b : ByteArray} (h : litK a = litK b) : a = b := by
  unfold litK at h
  injection h with h
  exact ByteArray.ext (Array.toList_inj.1 h)
theorem litK_ne {a b : ByteArray} (h : a ≠ b) : litK a ≠ litK b := fun e => h (litK_inj e)
theorem litK_key (k : ByteArray) : WideAt.IsKeyLit (litK k) := trivial
theorem isM_nil : IsM (.map []) [] := ⟨fun _ => rfl, fun p hp => by simp at hp, rfl, List.Pairwise.nil⟩
theorem one_split : ∀ (M : List PairS) (k : ByteArray), M.Pairwise (fun p q => p.1 ≠ q.1) → (M.filter (fun p => !(decide (p.1 = k)))).length + (if M.any (fun p => decide (p.1 = k)) then 1 else 0) = M.length
  | [], _, _ => rfl
  | x :: r, k, h => by
    obtain ⟨h1, h2⟩ := List.pairwise_cons.1 h
    have ih := one_split r k h2
    by_cases e : x.1 = k
    · have hn : r.any (fun p => decide (p.1 = k)) = false := by
        rw [List.any_eq_false]
        intro p hp q
        have : p.1 = k := by simpa using q
        exact h1 p hp (e.trans this.symm)
      rw [hn] at ih
      have e1 : (decide (x.1 = k)) = true := by simpa using e
      simp only [List.filter_cons, e1, List.any_cons, Bool.true_or, Bool.not_true, if_true, List.length_cons] at ih ⊢
      simp at ih ⊢
      omega
    · have e1 : (decide (x.1 = k)) = false := by simpa using e
      simp only [List.filter_cons, e1, List.any_cons, Bool.false_or, Bool.not_false, if_true, List.length_cons]
      omega
theorem setM_one {M : List PairS} (h : M.Pairwise (fun p q => p.1 ≠ q.1)) (x : PairS) : (setM M x).Pairwise (fun p q => p.1 ≠ q.1) := by
  unfold setM
  rw [List.pairwise_append]
  refine ⟨h.filter _, List.pairwise_singleton _ _, fun p hp q hq => ?_⟩
  rw [List.mem_singleton.1 hq]
  have := (List.mem_filter.1 hp).2
  simpa using this
theorem setM_any (M : List PairS) (x : PairS) (k : ByteArray) : (setM M x).any (fun p => decide (p.1 = k)) = (M.any (fun p => decide (p.1 = k)) || (decide (x.1 = k))) := by
  unfold setM
  rw [List.any_append, List.any_filter]
  by_cases e : x.1 = k
  · have e1 : (decide (x.1 = k)) = true := by simpa using e
    simp [e1]
  · have e1 : (decide (x.1 = k)) = false := by simpa using e
    simp only [List.any_cons, List.any_nil, e1, Bool.or_false]
    congr 1
    funext p
    by_cases e2 : p.1 = k
    · have e3 : (decide (p.1 = x.1)) = false := by simp; exact fun q => e (q.symm.trans e2)
      rw [e3]; simp
    · have e3 : (decide (p.1 = k)) = false := by simpa using e2
      rw [e3]; simp
theorem IsM.put {D : DatU} {M : List PairS} (h : IsM D M) (ht : Tidy D) (x : PairS) : IsM (D.put (litK x.1) (.lit (.string x.2.data.toList))) (setM M x) := by
  have hm := ht.isMap
  refine ⟨fun k => ?_, fun p hp zd => ?_, ?_, setM_one h.one x⟩
  · rw [setM_any]
    by_cases e : k = x.1
    · subst e
      rw [has_put_same hm (litK_key _)]
      simp
    · rw [has_put_other (litK_ne e), h.has]
      have e1 : (decide (x.1 = k)) = false := by simp; exact fun q => e q.symm
      rw [e1, Bool.or_false]
  · rcases List.mem_append.1 hp with hp | hp
    · have h1 := List.mem_filter.1 hp
      have h2 : p.1 ≠ x.1 := by have := h1.2; simpa using this
      rw [atKey_put_other (litK_ne h2)]
      exact h.look p h1.1 zd
    · rw [List.mem_singleton.1 hp]
      exact atKey_put_same hm (litK_key _) _ _
  · have h1 := one_split M x.1 h.one
    have h2 := size_put ht (k := litK x.1) (.lit (.string x.2.data.toList))
    rw [h.has, h.size] at h2
    rw [h2]
    unfold setM
    rw [List.length_append, List.length_singleton]
    cases hh : M.any (fun p => decide (p.1 = x.1)) with
    | true => rw [hh, if_pos rfl] at h1; rw [if_pos rfl]; omega
    | false => rw [hh, if_neg (by decide)] at h1; rw [if_neg (by decide)]; omega
theorem ownsMap_exact {P : Program} {k : TypeId} {R : Value → Option (DatU × List MemPlace)} {w : World} {b n : Nat} {D : DatU} (h : w.ownsMap P k R b n D) : w.ownsMap P k R b (Maps.size D) D := by
  obtain ⟨es, clock, hb, F, hs, rfl⟩ := h
  exact ⟨es, clock, hb, F, by simp [Maps.size, length_sorted], rfl⟩
theorem plainElem_string_inv {P : Program} {e : TypeId} (he : P.underlying e = some .string) {v : Value} {z : DatU × List MemPlace} (h : plainElem P e v = some z) : ∃ s : ByteArray, v = .string s ∧ z = (.lit (.string s.data.toList), []) ∧ s.size ≤ maxLen := by
  unfold plainElem at h
  rw [he] at h
  cases v <;> simp at h
  obtain ⟨h1, rfl⟩ := h
  exact ⟨_, rfl, rfl, h1⟩
noncomputable def strR : Value → Option (DatU × List MemPlace) := plainElem Tryd.prog 9
theorem strK : Keyed Tryd.prog 9 := string_keyed Tryd.underlying9
theorem strR_mk (s : ByteArray) (h : s.size ≤ maxLen) : strR (.string s) = some (.lit (.string s.data.toList), []) := plainElem_string Tryd.underlying9 h
theorem strR_inv {v : Value} {z : DatU × List MemPlace} (h : strR v = some z) : ∃ s : ByteArray, v = .string s ∧ z = (.lit (.string s.data.toList), []) ∧ s.size ≤ maxLen := plainElem_string_inv Tryd.underlying9 h
theorem keyV (k : ByteArray) (h : k.size ≤ maxLen) : keyOf Tryd.prog 9 (.string k) = some (litK k) := WideMaps.keyOf_string_mk Tryd.underlying9 h
/-- block b is a tree of the pairs M; its blocks lie from n0 on, none of them is one of X -/
structure TreeAt (n0 : Nat) (X : List Nat) (w : World) (b : Nat) (M : List PairS) (mv : Value) : Prop where
  blk : w.heap[b]? = some (.cells #[mv] 131 (0, 0))
  own : n0 ≤ b ∧ b ∉ X
  map : (mv = .map none ∧ M = []) ∨ ∃ mb D, mv = .map (some mb) ∧ n0 ≤ mb ∧ mb ∉ X ∧ w.ownsMap Tryd.prog 9 strR mb M.length D ∧ IsM D M
def TreeK (n0 : Nat) (X : List Nat) (w : World) (b : Nat) (M : List PairS) : Prop := ∃ mv, TreeAt n0 X w b M mv
theorem TreeAt.lt {n0 : Nat} {X : List Nat} {w : World} {b : Nat} {M : List PairS} {mv : Value} (h : TreeAt n0 X w b M mv) : b < w.heap.size := (Array.getElem?_eq_some_iff.1 h.blk).1
theorem TreeAt.one {n0 : Nat} {X : List Nat} {w : World} {b : Nat} {M : List PairS} {mv : Value} (h : TreeAt n0 X w b M mv) : M.Pairwise (fun p q => p.1 ≠ q.1) := by
  rcases h.map with ⟨_, rfl⟩ | ⟨_, _, _, _, _, _, hm⟩
  · exact List.Pairwise.nil
  · exact hm.one
/-- blocks of the caller's own turn, and new ones join them -/
theorem TreeK.turn {n0 : Nat} {X Y : List Nat} {S : Nat → Prop} {w w' : World} {b : Nat} {M : List PairS} (h : TreeK n0 X w b M) (k : Turn S w w') (hS : ∀ i, i < w.heap.size → S i → i ∈ X) (hY : ∀ i ∈ Y, i ∈ X ∨ w.heap.size ≤ i) : TreeK n0 Y w' b M := by
  obtain ⟨mv, hb, ho, hm⟩ := h
  have hbl : b < w.heap.size := (Array.getElem?_eq_some_iff.1 hb).1
  refine ⟨mv, k.heap hb (fun q => ho.2 (hS b hbl q)), ⟨ho.1, fun q => ?_⟩, ?_⟩
  · rcases hY b q with q | q
    · exact ho.2 q
    · omega
  · rcases hm with hm | ⟨mb, D, rfl, h1, h2, h3, h4⟩
    · exact .inl hm
    · have hml := h3.lt
      refine .inr ⟨mb, D, rfl, h1, fun q => ?_, ?_, h4⟩
      · rcases hY mb q with q | q
        · exact h2 q
        · omega
      · obtain ⟨es, clock, hb3, r⟩ := h3
        exact ⟨es, clock, k.heap hb3 (fun q => h2 (hS mb hml q)), r⟩
theorem TreeK.grown {n0 : Nat} {X : List Nat} {w w' : World} {b : Nat} {M : List PairS} (h : TreeK n0 X w b M) (k : w.grownBy w' none) : TreeK n0 X w' b M :=
  h.turn (S := fun _ => False) (Turn.of_grown k) (fun _ _ q => q.elim) (fun _ hi => .inl hi)
theorem TreeK.more {n0 : Nat} {X Y : List Nat} {w w' : World} {b : Nat} {M : List PairS} (h : TreeK n0 X w b M) (k : w.grownBy w' none) (hY : ∀ i ∈ Y, i ∈ X ∨ w.heap.size ≤ i) : TreeK n0 Y w' b M :=
  h.turn (S := fun _ => False) (Turn.of_grown k) (fun _ _ q => q.elim) hY
theorem TreeK.lt {n0 : Nat} {X : List Nat} {w : World} {b : Nat} {M : List PairS} (h : TreeK n0 X w b M) : b < w.heap.size := by obtain ⟨_, h⟩ := h; exact h.lt
theorem TreeK.one {n0 : Nat} {X : List Nat} {w : World} {b : Nat} {M : List PairS} (h : TreeK n0 X w b M) : M.Pairwise (fun p q => p.1 ≠ q.1) := by obtain ⟨_, h⟩ := h; exact h.one
/-- the value of a key, or the empty text -/
def valM (M : List PairS) (k : ByteArray) : ByteArray := ((M.find? (fun p => decide (p.1 = k))).map Prod.snd).getD ⟨#[]⟩
def hasM (M : List PairS) (k : ByteArray) : Bool := M.any (fun p => decide (p.1 = k))
theorem valM_mem : ∀ {M : List PairS}, M.Pairwise (fun p q => p.1 ≠ q.1) → ∀ x ∈ M, valM M x.1 = x.2
  | [], _, x, hx => by simp at hx
  | y :: r, h, x, hx => by
    obtain ⟨h1, h2⟩ := List.pairwise_cons.1 h
    unfold valM
    rcases List.mem_cons.1 hx with rfl | hx'
    · simp
    · have hne : (decide (y.1 = x.1)) = false := by simpa using h1 x hx'
      rw [List.find?_cons, hne]
      exact valM_mem h2 x hx'
theorem valM_none {M : List PairS} {k : ByteArray} (h : hasM M k = false) : valM M k = ⟨#[]⟩ := by
  unfold valM
  unfold hasM at h
  rw [List.find?_eq_none.2]
  · rfl
  · intro x hx
    have := List.any_eq_false.1 h x hx
    simpa using this
theorem IsM.val {D : DatU} {M : List PairS} (h : IsM D M) (k : ByteArray) : D.atKey (litK k) (.lit (.string [])) = .lit (.string (valM M k).data.toList) := by
  cases hh : hasM M k with
  | true =>
    obtain ⟨p, hp, hk⟩ := List.any_eq_true.1 hh
    obtain rfl : p.1 = k := by simpa using hk
    rw [h.look p hp, valM_mem h.one p hp]
  | false =>
    rw [valM_none hh, atKey_of_not_has (by rw [h.has]; exact hh)]
end Go.Proofs.YtioahjdojgcfdaaDoor

namespace Go.Proofs.YtioahjdojgcfdaaDoor
open Go.RowKit Go.Maps
attribute [local irreducible] shaL

theorem zeroStr (w : World) : (zeroValue 9).run Tryd.prog w = .ok (.string ⟨#[]⟩) w := by kernel_rfl
theorem map_ne (mb : Nat) (w : World) : (binOp .eql 129 (.map (some mb)) (.map none)).run Tryd.prog w = .ok (.bool false) w := by kernel_rfl
theorem map_eq (w : World) : (binOp .eql 129 (.map none) (.map none)).run Tryd.prog w = .ok (.bool true) w := by kernel_rfl
theorem tnew_any (n0 : Nat) (X : List Nat) (w : World) (hX : ∀ x ∈ X, x < w.heap.size) (hn0 : n0 ≤ w.heap.size) : Calls Tryd.prog 35 #[] w fun e w' => e = .returned (.pointer (some ⟨w.heap.size, 0, none⟩)) ∧ TreeK n0 X w' w.heap.size [] ∧ w.grownBy w' none := by
  have HX := Lib.hid (And.intro hX hn0)
  clear hX hn0
  go_enter Tryd.func35, Tryd.ntmps35
  go_wp2_with fail
  go_ret
  refine ⟨rfl, ⟨_, heap_alloc_at _ _ _ rfl, ⟨HX.out.2, fun q => ?_⟩, .inl ⟨rfl, rfl⟩⟩, World.grownBy_alloc _ _ _⟩
  have := HX.out.1 _ q
  omega
set_option maxRecDepth 100000 in
theorem tput_any (n0 : Nat) (X : List Nat) (w : World) (b : Nat) (M : List PairS) (k v : ByteArray) (hT : TreeK n0 X w b M) (hX : ∀ x ∈ X, x < w.heap.size) (hn0 : n0 ≤ w.heap.size) (hk : k.size = 16) (hv : v.size ≤ 1000000) (hM : M.length < 1000000) :
    Calls Tryd.prog 81 #[.pointer (some ⟨b, 0, none⟩), .string k, .string v] w fun e w' => e = .returned (.int .i64 0) ∧ TreeK n0 X w' b (setM M (k, v)) ∧ Turn (rest n0 X) w w' := by
  obtain ⟨mv, hb, ho, hm⟩ := hT
  have hk16 : (k.size : Int) = 16 := by omega
  have hkey := keyV k (by unfold maxLen; omega)
  have hval := strR_mk v (by unfold maxLen; omega)
  have c0 := cell_of hb 0
  have f0 := free_of hb 0
  simp at c0
  have hlb : b < w.heap.size := (Array.getElem?_eq_some_iff.1 hb).1
  rcases hm with ⟨rfl, rfl⟩ | ⟨mb, D, rfl, h1, h2, h3, h4⟩
  · have HB := Lib.hid (And.intro hb (And.intro ho (And.intro hX (And.intro hn0 hlb))))
    have hmm := @run_makeMap Tryd.prog
    have he := map_eq
    have hown : ((w.alloc (.map #[] 0)).setCell ⟨b, 0, none⟩ (.map (some w.heap.size))).ownsMap Tryd.prog 9 strR w.heap.size 0 (.map []) := (World.ownsMap_made w Tryd.prog 9 strR).setCell (by show w.heap.size ≠ b; omega) _
    have HK := Lib.hid (And.intro hown (And.intro hkey hval))
    have hblk : ((w.alloc (.map #[] 0)).setCell ⟨b, 0, none⟩ (.map (some w.heap.size))).heap[b]? = some (.cells #[.map (some w.heap.size)] 131 (0, 0)) := heap_setCell (Below.heap_alloc _ _ _ hlb |>.trans hb) 0 _
    have HBK := Lib.hid hblk
    have d0 : ((w.alloc (.map #[] 0)).setCell ⟨b, 0, none⟩ (.map (some w.heap.size))).cell? ⟨b, 0, none⟩ = some (.map (some w.heap.size)) := cell_of hblk 0
    have c0a : (w.alloc (.map #[] 0)).cell? ⟨b, 0, none⟩ = some (.map none) := (World.cell?_alloc_lt _ _ _ hlb).trans c0
    have f0a : (w.alloc (.map #[] 0)).frozen? ⟨b, 0, none⟩ = false := free_of (Below.heap_alloc _ _ _ hlb |>.trans hb) 0
    have t1 : Turn (fun i => i = b) w ((w.alloc (.map #[] 0)).setCell ⟨b, 0, none⟩ (.map (some w.heap.size))) := ((Turn.refl (fun i => i = b) w).alloc _).setCell (fun _ => rfl) _ _
    have HT1 := Lib.hid t1
    clear hb ho hX hn0 hown hkey hval hblk t1 hk hv hM
    have hlb2 := Lib.hid hlb
    clear hlb
    go_enter Tryd.func81, Tryd.ntmps81
    go_wp2_with (at_mapUpdate; refine wpList_mapUpdate_own _ rfl _ _ _ 129 rfl 9 9 strK Tryd.underlying129 strR w.heap.size 0 (.map []) rfl HK.out.1 (by unfold maxLen; omega) _ _ _ rfl rfl HK.out.2.1 _ [] HK.out.2.2 ?_; intro w2 hown2 hg2)
    have HO2 := Lib.hid hown2
    have HG2 := Lib.hid hg2
    clear hown2 hg2
    go_wp2_with fail
    go_ret
    generalize hSZ : w.heap.size = SZ at HO2 HG2 HBK HT1 hlb2
    generalize (w.alloc (.map #[] 0)).setCell ⟨b, 0, none⟩ (.map (some SZ)) = w1 at HG2 HBK HT1
    have hlt2 : b < w.heap.size := HB.out.2.2.2.2
    refine ⟨rfl, ⟨.map (some SZ), (HG2.out.block b (by have := HT1.out.size; omega) (by simp; omega)).trans HBK.out, HB.out.2.1, .inr ⟨SZ, _, rfl, by have := HB.out.2.2.2.1; omega, fun q => by have := HB.out.2.2.1 _ q; omega, HO2.out, isM_nil.put tidy_empty (k, v)⟩⟩, ?_⟩
    have t2 : Turn (fun i => i = b ∨ i = SZ) w w2 := (HT1.out.mono (fun i _ q => .inl q)).row HG2.out (fun i _ e => .inr (by injection e with e; exact e.symm))
    refine t2.mono (fun i hi q => ?_)
    rcases q with rfl | q
    · exact HB.out.2.1
    · omega
  · have HB := Lib.hid (And.intro hb (And.intro ho (And.intro hX (And.intro hn0 hlb))))
    have he := map_ne mb
    have HK := Lib.hid (And.intro h3 (And.intro hkey hval))
    have HI := Lib.hid (And.intro h1 (And.intro h2 h4))
    have hMl : M.length < maxLen := by unfold maxLen; omega
    clear hb ho hX hn0 hlb h1 h2 h3 h4 hkey hval hk hv hM
    go_enter Tryd.func81, Tryd.ntmps81
    go_wp2_with (at_mapUpdate; refine wpList_mapUpdate_own _ rfl _ _ _ 129 rfl 9 9 strK Tryd.underlying129 strR mb M.length D rfl HK.out.1 hMl _ _ _ rfl rfl HK.out.2.1 _ [] HK.out.2.2 ?_; intro w2 hown2 hg2)
    have HO2 := Lib.hid hown2
    have HG2 := Lib.hid hg2
    clear hown2 hg2
    go_wp2_with fail
    go_ret
    have hmb : mb ≠ b := by
      intro e
      obtain ⟨es, cl, h5, _⟩ := HK.out.1
      rw [e, HB.out.1] at h5
      cases h5
    have hi := HI.out.2.2.put (HK.out.1.tidy strK) (k, v)
    refine ⟨rfl, ⟨.map (some mb), (HG2.out.block b HB.out.2.2.2.2 (by simp; exact fun q => hmb q.symm)).trans HB.out.1, HB.out.2.1, .inr ⟨mb, _, rfl, HI.out.1, HI.out.2.1, ?_, hi⟩⟩, (Turn.refl _ w).row HG2.out (fun i _ e => ?_)⟩
    · have h6 := ownsMap_exact HO2.out
      rw [hi.size] at h6
      exact h6
    · injection e with e
      subst e
      exact ⟨HI.out.1, HI.out.2.1⟩
theorem tget_nil (k : ByteArray) (w : World) : Calls Tryd.prog 40 #[.pointer none, .string k] w fun e w' => e = .returned (.tuple #[.string ⟨#[]⟩, .bool false]) ∧ w = w' := by
  go_enter Tryd.func40, Tryd.ntmps40
  go_wp2_with fail
  go_returns
  exact ⟨rfl, rfl⟩
set_option maxRecDepth 100000 in
theorem tget_any (n0 : Nat) (X : List Nat) (w : World) (b : Nat) (M : List PairS) (k : ByteArray) (hT : TreeK n0 X w b M) (hk : k.size ≤ maxLen) :
    Calls Tryd.prog 40 #[.pointer (some ⟨b, 0, none⟩), .string k] w fun e w' => e = .returned (.tuple #[.string (valM M k), .bool (hasM M k)]) ∧ w = w' := by
  obtain ⟨mv, hb, ho, hm⟩ := hT
  have hkey := keyV k hk
  have c0 := cell_of hb 0
  simp at c0
  rcases hm with ⟨rfl, rfl⟩ | ⟨mb, D, rfl, h1, h2, h3, h4⟩
  · have hrun := look_nil (w := w) true strK Tryd.underlying129 (zeroStr w) hkey
    have e1 : valM [] k = ⟨#[]⟩ := rfl
    have e2 : hasM [] k = false := rfl
    rw [e1, e2]
    clear hb ho hkey hk e1 e2
    go_enter Tryd.func40, Tryd.ntmps40
    go_wp2_with fail
    go_returns
    exact ⟨rfl, rfl⟩
  · have hv := h4.val k
    have hh := h4.has k
    have HK := Lib.hid (And.intro h3 hkey)
    have hh2 : hasM M k = Maps.has D (litK k) := hh.symm
    rw [hh2]
    have HV := Lib.hid hv
    have HZ := Lib.hid (zeroStr w)
    clear hb ho hkey hk h1 h2 h3 h4 hv hh hh2
    go_enter Tryd.func40, Tryd.ntmps40
    go_wp2_with (at_lookup; refine wpList_lookup_own_ok _ rfl _ _ 129 rfl 9 9 strK Tryd.underlying129 strR HZ.out (.lit (.string [])) [] (strR_mk ⟨#[]⟩ (by unfold maxLen; decide)) mb M.length D rfl HK.out.1 _ _ rfl HK.out.2 ?_; intro v ps hvr)
    obtain ⟨s, rfl, hz, _⟩ := strR_inv hvr
    rw [HV.out] at hz
    have hs : valM M k = s := by
      have h5 := (Prod.mk.inj hz).1
      injection h5 with h5
      injection h5 with h5
      exact ByteArray.ext (Array.toList_inj.1 h5)
    have HS := Lib.hid hs
    clear hvr hz hs
    go_wp2_with fail
    go_returns
    exact ⟨by rw [HS.out]; rfl, rfl⟩
end Go.Proofs.YtioahjdojgcfdaaDoor

namespace Go.Proofs.YtioahjdojgcfdaaDoor
open Go.RowKit Go.Maps
attribute [local irreducible] shaL

set_option maxRecDepth 100000 in
theorem tlen_any (n0 : Nat) (X : List Nat) (w : World) (b : Nat) (M : List PairS) (hT : TreeK n0 X w b M) :
    Calls Tryd.prog 38 #[.pointer (some ⟨b, 0, none⟩)] w fun e w' => e = .returned (.int .i64 M.length) ∧ w = w' := by
  obtain ⟨mv, hb, ho, hm⟩ := hT
  have c0 := cell_of hb 0
  simp at c0
  rcases hm with ⟨rfl, rfl⟩ | ⟨mb, D, rfl, h1, h2, h3, h4⟩
  · have hrun := len_nil (P := Tryd.prog) (w := w) Tryd.underlying129
    clear hb ho
    go_enter Tryd.func38, Tryd.ntmps38
    go_wp2_with fail
    go_ret
    exact ⟨rfl, rfl⟩
  · have hrun := h3.len Tryd.underlying129
    have hsz := h4.size
    rw [hsz] at hrun
    clear hb ho h1 h2 h3 h4 hsz
    go_enter Tryd.func38, Tryd.ntmps38
    go_wp2_with fail
    go_ret
    exact ⟨rfl, rfl⟩
end Go.Proofs.YtioahjdojgcfdaaDoor

namespace Go.Proofs.YtioahjdojgcfdaaDoor
open Go.ChangeShapes Go.WideShapes Go.ChangeAt Go.RowKit Go.Lib Go.Shelf

section
variable {H : Type} {enc : TypeId × Value → H} {P : Program} {w : World} {base : Nat} {spare : Nat → Bool} {held : Bool}
theorem struct3_cells {t : TypeId} {f0 f1 f2 : Field} {k0 k1 k2 : IntKind} {fuel : Nat} {cs : List Value} {a b c : Int} {q : List MemPlace}
    (ht : P.underlying t = some (.struct #[f0, f1, f2])) (o0 : f0.offset = 0) (o1 : f1.offset = 1) (o2 : f2.offset = 2) (c0 : P.cellsOf f0.type = 1) (c1 : P.cellsOf f1.type = 1) (c2 : P.cellsOf f2.type = 1)
    (u0 : P.underlying f0.type = some (.int k0)) (u1 : P.underlying f1.type = some (.int k1)) (u2 : P.underlying f2.type = some (.int k2))
    (h : DataW.trod enc P w base spare held fuel t cs = some (.agg [.lit (.int k0 a), .lit (.int k1 b), .lit (.int k2 c)], q)) :
    cs[0]? = some (.int k0 a) ∧ cs[1]? = some (.int k1 b) ∧ cs[2]? = some (.int k2 c) := by
  obtain ⟨ys, n, hn, hy, hlen, hyl, hf⟩ := DataW.trod_struct ht h
  simp only [Prod.mk.injEq, DataW.agg.injEq] at hy
  obtain ⟨hy, -⟩ := hy
  have g0 := hf 0 f0 rfl
  have g1 := hf 1 f1 rfl
  have g2 := hf 2 f2 rfl
  rw [o0, c0] at g0
  rw [o1, c1] at g1
  rw [o2, c2] at g2
  match ys, hyl with
  | [y0, y1, y2], _ =>
    simp at hy
    obtain ⟨h0, h1, h2⟩ := hy
    obtain ⟨z0, e0, x0, _⟩ := DataW.trod_int u0 (g0.trans rfl)
    obtain ⟨z1, e1, x1, _⟩ := DataW.trod_int u1 (g1.trans rfl)
    obtain ⟨z2, e2, x2, _⟩ := DataW.trod_int u2 (g2.trans rfl)
    subst x0 x1 x2
    simp at h0 h1 h2
    subst h0 h1 h2
    have r0 := congrArg (fun l : List Value => l[0]?) e0
    have r1 := congrArg (fun l : List Value => l[0]?) e1
    have r2 := congrArg (fun l : List Value => l[0]?) e2
    simp at r0 r1 r2
    exact ⟨r0, r1, r2⟩
end

theorem nAlpha : Tryd.prog.globalNamed "plumbob/label.alphabets" = some 4 := by kernel_rfl
theorem yAlpha : (Tryd.prog.globals[4]?).map (·.type) = some 232 := by kernel_rfl
theorem cAlpha : Tryd.prog.cellsOf 231 = 3 := by kernel_rfl
theorem cInt : Tryd.prog.cellsOf 3 = 1 := by kernel_rfl
theorem cRune : Tryd.prog.cellsOf 21 = 1 := by kernel_rfl

theorem alpha_of_reads {w : World} (h : VarReads Tryd.prog w "plumbob/label.alphabets" Rows.laid_plumbob_label_alphabets) : AlphaAt w := by
  obtain ⟨g, t, cs, fuel, p, hg, hty, hvar, hd⟩ := h
  obtain rfl := Option.some.inj (nAlpha.symm.trans hg)
  obtain rfl := Option.some.inj (yAlpha.symm.trans hty)
  have row : ∀ (i : Nat) (a b c : Int), i < 3 → [DataW.agg [.lit (.int .i64 1), .lit (.int .i32 97), .lit (.int .i32 122)], .agg [.lit (.int .i64 2), .lit (.int .i32 945), .lit (.int .i32 969)], .agg [.lit (.int .i64 4), .lit (.int .i32 1072), .lit (.int .i32 1103)]][i]? = some (.agg [.lit (.int .i64 a), .lit (.int .i32 b), .lit (.int .i32 c)] : DataW Unit) →
      cs.toList[3 * i]? = some (.int .i64 a) ∧ cs.toList[3 * i + 1]? = some (.int .i32 b) ∧ cs.toList[3 * i + 2]? = some (.int .i32 c) := by
    intro i a b c hi hrow
    obtain ⟨fuel', d, q, hdi, he⟩ := array_elem Tryd.underlying232 hd i hi
    obtain rfl := Option.some.inj (hrow.symm.trans hdi)
    rw [cAlpha] at he
    have := struct3_cells Tryd.underlying231 rfl rfl rfl cInt cRune cRune Tryd.underlying3 Tryd.underlying21 Tryd.underlying21 he
    simp only [List.getElem?_take, List.getElem?_drop] at this
    simpa [Nat.mul_comm] using this
  intro k v hk
  rw [World.var?_cell nAlpha hvar k, ← Array.getElem?_toList]
  have r0 := row 0 1 97 122 (by decide) rfl
  have r1 := row 1 2 945 969 (by decide) rfl
  have r2 := row 2 4 1072 1103 (by decide) rfl
  match k, hk with
  | 0, hk => cases hk; exact r0.1
  | 1, hk => cases hk; exact r0.2.1
  | 2, hk => cases hk; exact r0.2.2
  | 3, hk => cases hk; exact r1.1
  | 4, hk => cases hk; exact r1.2.1
  | 5, hk => cases hk; exact r1.2.2
  | 6, hk => cases hk; exact r2.1
  | 7, hk => cases hk; exact r2.2.1
  | 8, hk => cases hk; exact r2.2.2
  | k + 9, hk => simp [alphaCells] at hk

theorem first_is : Rows.laid_unicode_utf8_first = Lib.firstData := by kernel_rfl
theorem accept_is : Rows.laid_unicode_utf8_acceptRanges = Lib.acceptData := by kernel_rfl
end Go.Proofs.YtioahjdojgcfdaaDoor
