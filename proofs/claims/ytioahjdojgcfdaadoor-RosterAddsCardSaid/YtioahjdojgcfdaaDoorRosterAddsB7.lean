/- Layer 20's law's auditors as plain data; what holds at the head of its loop; layer 20 speaks. · 'append(s, l...)' of a row that may be nil, at a step of a region that draws its order. No walk of the program. · Arguments opened: arrays of bytes, slices of integers. No walk. · A row's post, where the call has only made memory. No walk. · Arguments opened: lists of auditors (layer 20's law). No walk. -/
import Derived.Test.YtioahjdojgcfdaaDoorRosterAddsB6
import Derived.Maps.AppendAt
import Derived.RegionTactic
import Derived.Test.YtioahjdojgcfdaaDoorRosterAddsB2
import Derived.Test.YtioahjdojgcfdaaDoorRosterAddsB3
import Derived.OpenShut
import Derived.WideKeyArr2
import Derived.ChangeSlices
import Derived.Test.YtioahjdojgcfdaaDoorRows
import Derived.WalkKit
import Derived.ProofKit
import Derived.ShutString
import Derived.Deep.Slices
import Derived.Deep.Fields
namespace Go.Proofs.YtioahjdojgcfdaaDoor
open Go.RowKit
attribute [local irreducible] shaL

structure LA where
  n : ByteArray
  c : UInt8
  h : Int
def LA.cells (x : LA) : List Value := [.string x.n, .int .u8 x.c.toNat, .int .i64 x.h]
def LA.aud (x : LA) : AudS := ⟨x.n, keyO x.c, noughts20, x.h⟩
def lasV (L : List LA) : List Value := L.flatMap LA.cells
theorem lasV_len : ∀ L : List LA, (lasV L).length = L.length * 3
  | [] => rfl
  | x :: r => by
    have := lasV_len r
    have e : lasV (x :: r) = x.cells ++ lasV r := rfl
    rw [e, List.length_append, this, List.length_cons]
    show 3 + r.length * 3 = _
    omega
theorem lasV_append (L M : List LA) : lasV (L ++ M) = lasV L ++ lasV M := by simp [lasV]
theorem lasV_one (x : LA) : lasV [x] = x.cells := by simp [lasV]
theorem lasV_at : ∀ (L : List LA) (i j : Nat) (h : i < L.length), j < 3 → (lasV L)[i * 3 + j]? = (L[i]).cells[j]?
  | x :: r, 0, j, _, hj => by
    have e : lasV (x :: r) = x.cells ++ lasV r := rfl
    rw [e, Nat.zero_mul, Nat.zero_add, List.getElem?_append_left (show j < 3 from hj)]
    rfl
  | x :: r, i + 1, j, h, hj => by
    have ih := lasV_at r i j (by simpa using h) hj
    have e : lasV (x :: r) = x.cells ++ lasV r := rfl
    have hl : x.cells.length = 3 := rfl
    rw [e, List.getElem?_append_right (by omega), hl, show (i + 1) * 3 + j - 3 = i * 3 + j by omega, ih]
    rfl
theorem lasV_onecell (L : List LA) : ∀ u ∈ lasV L, u.oneCell' = true := by
  intro u hu
  obtain ⟨x, _, hx⟩ := List.mem_flatMap.1 hu
  simp only [LA.cells, List.mem_cons, List.not_mem_nil, or_false] at hx
  rcases hx with rfl | rfl | rfl <;> rfl
def LAsAt (w : World) (v : Value) (L : List LA) : Prop :=
  ∃ a cap, v = .slice a L.length cap ∧ ∀ i (h : i < L.length), ∃ g o, a = some ⟨g, o, none⟩ ∧ w.cell? ⟨g, o + i * 3, none⟩ = some (.string L[i].n) ∧ w.cell? ⟨g, o + i * 3 + 1, none⟩ = some (.int .u8 L[i].c.toNat) ∧ w.cell? ⟨g, o + i * 3 + 2, none⟩ = some (.int .i64 L[i].h)
theorem LAsAt.grown {w w' : World} {v : Value} {L : List LA} (h : LAsAt w v L) (k : w.grownBy w' none) : LAsAt w' v L := by
  obtain ⟨a, cap, rfl, hc⟩ := h
  refine ⟨a, cap, rfl, fun i hi => ?_⟩
  obtain ⟨g, o, ha, c0, c1, c2⟩ := hc i hi
  exact ⟨g, o, ha, k.cell c0 (by simp), k.cell c1 (by simp), k.cell c2 (by simp)⟩
theorem LAsAt.at_ {w : World} {a : Option Addr} {n cap : Nat} {L : List LA} (h : LAsAt w (.slice a n cap) L) (i : Nat) (x : LA) (hx : L[i]? = some x) : ∃ g o, a = some ⟨g, o, none⟩ ∧ w.cell? ⟨g, o + i * 3, none⟩ = some (.string x.n) ∧ w.cell? ⟨g, o + i * 3 + 1, none⟩ = some (.int .u8 x.c.toNat) ∧ w.cell? ⟨g, o + i * 3 + 2, none⟩ = some (.int .i64 x.h) := by
  obtain ⟨a', cap', e, hc⟩ := h
  cases e
  obtain ⟨hi, rfl⟩ := List.getElem?_eq_some_iff.1 hx
  exact hc i hi
theorem LAsAt.len {w : World} {a : Option Addr} {n cap : Nat} {L : List LA} (h : LAsAt w (.slice a n cap) L) : L.length = n := by
  obtain ⟨_, _, e, _⟩ := h
  injection e with _ e _
  exact e.symm
theorem las_own {w : World} {B : Nat} {v : Value} {L : List LA} (h : w.ownsRow B 77 3 v L.length (lasV L)) : LAsAt w v L := by
  rcases h.2 with ⟨rfl, h0⟩ | ⟨g, cap, cur, rfl, hB, hg, h1, h2, h3, h4⟩
  · exact ⟨none, 0, by rw [h0], fun i hi => by omega⟩
  · have hc : ∀ i j, i < L.length → j < 3 → w.cell? ⟨g, i * 3 + j, none⟩ = (lasV L)[i * 3 + j]? := by
      intro i j hi hj
      rw [← h4, List.getElem?_take, if_pos (by omega), cell_of hg]
      simp
    refine ⟨some ⟨g, 0, none⟩, cap, rfl, fun i hi => ⟨g, 0, rfl, ?_, ?_, ?_⟩⟩
    · rw [Nat.zero_add]; exact (hc i 0 hi (by decide)).trans (lasV_at L i 0 hi (by decide))
    · rw [Nat.zero_add]; exact (hc i 1 hi (by decide)).trans (lasV_at L i 1 hi (by decide))
    · rw [Nat.zero_add]; exact (hc i 2 hi (by decide)).trans (lasV_at L i 2 hi (by decide))
theorem pubErr_key (c : UInt8) (h : Int) : pubErr (keyO c) noughts20 h = if 0 ≤ h ∧ h ≤ 6 then 0 else 10 := by
  unfold pubErr
  by_cases q : 0 ≤ h ∧ h ≤ 6
  · rw [if_pos q, if_pos (show pubOk (keyO c) noughts20 h from ⟨q, keyO_size c, rfl⟩)]
  · rw [if_neg q, if_neg (fun k : pubOk (keyO c) noughts20 h => q k.1)]
theorem like_key (x y : LA) : x.aud.like y.aud = (decide (y.n = x.n) || (decide (y.c = x.c) && decide (y.h = x.h))) := by
  unfold AudS.like LA.aud
  simp only [decide_true, Bool.true_and]
  congr 2
  by_cases q : y.c = x.c
  · rw [q]; simp
  · rw [decide_eq_false q, decide_eq_false (fun k => q (keyO_inj k))]
theorem aud_small {x : LA} (h : x.n.size ≤ 1000000) : x.aud.small := ⟨h, by show (keyO x.c).size ≤ _; rw [keyO_size]; decide, by show noughts20.size ≤ _; decide⟩
/-- at the head of the loop -/
structure RA (w : World) (n0 rb : Nat) (M : List LA) (v mv : Value) (wr : World) : Prop where
  ros : RosAt n0 rb (M.map LA.aud) v wr
  row : wr.ownsRow n0 77 3 mv M.length (lasV M)
  ne : ∀ y, mv.ownBlock = some y → y ≠ rb ∧ v.ownBlock ≠ some y
  gr : w.grownBy wr none
  l : M.length ≤ 64
  l0 : w.heap.size ≤ n0
theorem RA.go {w : World} {n0 rb : Nat} {M : List LA} {v mv : Value} {wr wr' : World} (h : RA w n0 rb M v mv wr) (g : wr.grownBy wr' none) : RA w n0 rb M v mv wr' :=
  ⟨h.ros.go g, own_keepR h.row g (fun _ _ e => by cases e), h.ne, grownBy_trans h.gr g, h.l, h.l0⟩

/-! three auditors -/
def eveL : ByteArray := ⟨#[101, 118, 101]⟩
def malL : ByteArray := ⟨#[109, 97, 108, 108, 111, 114, 121]⟩
theorem eve_name : nameE eveL.data.toList = 0 := by
  have h : normalI [101, 118, 101] = ([101, 118, 101], 0) := by kernel_rfl
  unfold nameE
  rw [show eveL.data.toList = [101, 118, 101] from rfl, h]
  rfl
theorem mal_name : nameE malL.data.toList = 0 := by
  have h : normalI [109, 97, 108, 108, 111, 114, 121] = ([109, 97, 108, 108, 111, 114, 121], 0) := by kernel_rfl
  unfold nameE
  rw [show malL.data.toList = [109, 97, 108, 108, 111, 114, 121] from rfl, h]
  rfl
def eve1 : LA := ⟨eveL, 1, 2⟩
def mal2 : LA := ⟨malL, 2, 2⟩
def eve3 : LA := ⟨eveL, 3, 2⟩
theorem err_of {x : LA} (h : nameE x.n.data.toList = 0) (k : 0 ≤ x.h ∧ x.h ≤ 6) : x.aud.err = 0 := by
  unfold AudS.err
  show (if nameE x.n.data.toList ≠ 0 then nameE x.n.data.toList else pubErr (keyO x.c) noughts20 x.h) = 0
  rw [h, if_neg (by decide), pubErr_key, if_pos k]
theorem add1 : addE [] eve1.aud = 0 := by
  unfold addE
  rw [if_neg (not_not_intro (err_of (x := eve1) eve_name ⟨by decide, by decide⟩))]
  rfl
theorem add2 : addE [eve1.aud] mal2.aud = 0 := by
  unfold addE
  rw [if_neg (not_not_intro (err_of (x := mal2) mal_name ⟨by decide, by decide⟩))]
  have : hasL [eve1.aud] mal2.aud = false := by
    show (mal2.aud.like eve1.aud || false) = false
    rw [like_key]
    have h1 : decide (eve1.n = mal2.n) = false := decide_eq_false (fun q => absurd (congrArg ByteArray.size q) (by decide))
    have h2 : decide (eve1.c = mal2.c) = false := by decide
    rw [h1, h2]
    rfl
  rw [this]
  rfl
theorem add3 : addE [eve1.aud, mal2.aud] eve3.aud = 19 := by
  unfold addE
  rw [if_neg (not_not_intro (err_of (x := eve3) eve_name ⟨by decide, by decide⟩))]
  have : hasL [eve1.aud, mal2.aud] eve3.aud = true := by
    show (eve3.aud.like eve1.aud || (eve3.aud.like mal2.aud || false)) = true
    rw [like_key]
    have h1 : decide (eve1.n = eve3.n) = true := decide_eq_true rfl
    rw [h1]
    rfl
  rw [this]
  rfl
set_option maxRecDepth 100000 in
set_option maxHeartbeats 3200000 in
theorem ros_speaks (w : World) (hN : NormAt w) :
    Calls Tryd.prog 28 #[] w fun e w' => e = .returned (.bool true) ∧ w.grownBy w' none := by
  have HN := Lib.hid hN
  have HK1 := Lib.hid (fun w' => key20_any 1 2 w')
  have HK2 := Lib.hid (fun w' => key20_any 2 2 w')
  have HK3 := Lib.hid (fun w' => key20_any 3 2 w')
  obtain ⟨n0, hn0⟩ : ∃ n0, w.heap.size = n0 := ⟨_, rfl⟩
  have HNN := Lib.hid hn0
  have HNW := Lib.hid (rnew_any w)
  rw [hn0] at HNW
  clear hN hn0
  go_enter Tryd.func28, Tryd.ntmps28
  go_wp2_with fail
  refine HNW.out.mono ?_
  rintro e w1 ⟨rfl, hr1, g1⟩
  have R1 : Hid (RosAt n0 n0 [] (.slice none 0 0) w1) := Lib.hid ⟨hr1, World.ownsRow_nil _ _ _ _, by simp [Value.ownBlock], Nat.le_refl _⟩
  have G1 := Lib.hid g1
  clear hr1 g1
  go_wp2_with fail
  refine (HK1.out _).mono ?_
  rintro e w2 ⟨rfl, g2⟩
  have R2 := Lib.hid (R1.out.go g2)
  have G2 := Lib.hid (grownBy_trans G1.out g2)
  have HA1 := Lib.hid (radd_fine eve1.aud (aud_small (by decide)) n0 n0 [] _ add1 w2 (HN.out.grown G2.out) R2.out)
  clear g2
  unfold AudS.val AudS.cells eve1 LA.aud eveL at HA1
  go_wp2_with fail
  refine HA1.out.mono ?_
  rintro e w3 ⟨rfl, v3, w3a, R3, g3, g3', _⟩
  have G3 := Lib.hid (grown_row (grown_row G2.out g3 (fun y q => by cases q)) g3' (fun y q => by cases q; exact Nat.le_of_eq HNN.out))
  have HR3 : Hid (RosAt n0 n0 [eve1.aud] v3 w3) := Lib.hid R3
  clear R3 g3 g3' HA1
  go_wp2_with fail
  refine (HK2.out _).mono ?_
  rintro e w4 ⟨rfl, g4⟩
  have R4 := Lib.hid (HR3.out.go g4)
  have G4 := Lib.hid (grownBy_trans G3.out g4)
  have HA2 := Lib.hid (radd_fine mal2.aud (aud_small (by decide)) n0 n0 [eve1.aud] _ add2 w4 (HN.out.grown G4.out) R4.out)
  clear g4
  unfold AudS.val AudS.cells mal2 LA.aud malL at HA2
  go_wp2_with fail
  refine HA2.out.mono ?_
  rintro e w5 ⟨rfl, v5, w5a, R5, g5, g5', _⟩
  have G5 := Lib.hid (grown_row (grown_row G4.out g5 (fun y q => by have h1 := (R4.out.o.lt y q).1; have := HNN.out; omega)) g5' (fun y q => by cases q; exact Nat.le_of_eq HNN.out))
  have HR5 : Hid (RosAt n0 n0 [eve1.aud, mal2.aud] v5 w5) := Lib.hid R5
  clear R5 g5 g5' HA2
  go_wp2_with fail
  refine (HK3.out _).mono ?_
  rintro e w6 ⟨rfl, g6⟩
  have R6 := Lib.hid (HR5.out.go g6)
  have G6 := Lib.hid (grownBy_trans G5.out g6)
  have HA3 := Lib.hid (radd_no eve3.aud (aud_small (by decide)) n0 n0 [eve1.aud, mal2.aud] _ (by decide) 19 add3 (by decide) w6 (HN.out.grown G6.out) R6.out)
  clear g6
  unfold AudS.val AudS.cells eve3 LA.aud eveL at HA3
  go_wp2_with fail
  refine HA3.out.mono ?_
  rintro e w7 ⟨rfl, g7⟩
  obtain ⟨a7, c7, hv7⟩ := (R6.out.go g7).form
  have hh7 := (R6.out.go g7).h
  rw [hv7] at hh7
  have HL := Lib.hid (rlen_any n0 a7 2 c7 w7 hh7)
  have G7 := Lib.hid (grownBy_trans G6.out g7)
  clear g7 hv7 hh7
  go_wp2_with fail
  refine HL.out.mono ?_
  rintro e w8 ⟨rfl, rfl⟩
  go_wp2_with fail
  go_ret
  exact ⟨rfl, G7.out⟩
end Go.Proofs.YtioahjdojgcfdaaDoor

namespace Go.Proofs.YtioahjdojgcfdaaDoor
open Go.RowKit

theorem step_append_row {P : Program} (w : World) {ops : Array Oper} {o : Oper} {a : Act} {K : Act → World → Prop} {Q : Exit → Act → World → Prop} {E : Prop} (hgd : o.guard = none) (s x : Operand) (t : TypeId)
    (ho : o.op = .call { callee := .builtin .append, args := #[s, x], argTypes := #[t, t] })
    (base : Nat) (e : TypeId) (i : TypeInfo) (z : Value) (size bytes : Nat) (ht : P.underlying t = some (.slice e)) (hi : P.info? e = some i) (hz : i.zero = some z)
    (hsize : i.size = size) (hby : i.bytes = bytes) (hzs : z.cells.size = size) (hsz : 0 < size)
    (v : Value) (n : Nat) (xs : List Value) (hs : a.eval s = v) (hown : w.ownsRow base e size v n xs)
    (B2 m : Nat) (mv : Value) (news : List Value) (hx : a.eval x = mv) (hm : w.ownsRow B2 e size mv m news) (h1 : ∀ u ∈ news, u.oneCell' = true)
    (h63 : n + m ≤ maxLen) (hbytes : (n + m) * bytes ≤ 140737488355328) (hbase : base ≤ w.heap.size)
    (h : ∀ v' w', w'.ownsRow base e size v' (n + m) (xs ++ news) → w.grownBy w' v.ownBlock → (v'.ownBlock = v.ownBlock ∨ v'.ownBlock = some w.heap.size) → K (a.put o.dst v') w') :
    if Region.wanted o (yielded ops a.tmps) = true then Oper.wp P o a w K Q else E := by
  have hw : Region.wanted o (yielded ops a.tmps) = true := by simp [Region.wanted, hgd]
  rw [if_pos hw]
  rcases hm.2 with ⟨rfl, h0⟩ | ⟨g, cap, cur, rfl, hB, hg, hnc, hmm, hcs, htake⟩
  · subst h0
    have hn : news = [] := List.length_eq_zero_iff.1 (by rw [hm.1]; simp)
    subst hn
    have hrun := run_append_owned_none (P := P) (w := w) base t o.type e i size ht hi v n xs hown
    unfold Oper.wp execOp
    simp only [ho, resolve, invoke, builtin, Sem.run_bind, Sem.run_pure, Result.andThen_ok, List.map_toArray, List.map_cons, List.map_nil, hs, hx, hrun]
    exact h v w (by rw [List.append_nil]; exact hown) (World.grownBy.refl _ _) (Or.inl rfl)
  · obtain ⟨v', w', hr, h2, h3, _, h5⟩ := run_append_own_at (P := P) w base t o.type e i z size bytes ht hi hz hsize hby hzs hsz v n xs hown ⟨g, 0, none⟩ m cap news hm.1 (fun j u hu => by
      have hj := (List.getElem?_eq_some_iff.1 hu).1
      rw [show (⟨g, 0, none⟩ : Addr).add j = ⟨g, j, none⟩ from (by unfold Addr.add; split <;> simp_all), hm.cellAt j (by rw [← hm.1]; exact hj), hu]) h1 h63 hbytes hbase
    unfold Oper.wp execOp
    simp only [ho, resolve, invoke, builtin, Sem.run_bind, Sem.run_pure, Result.andThen_ok, List.map_toArray, List.map_cons, List.map_nil, hs, hx, hr]
    exact h v' w' h2 h3 h5
theorem infoLA : (Tryd.prog.info? 77).map (fun i => (i.zero, i.size, i.bytes)) = some (some (.agg #[.string ⟨#[]⟩, .int .u8 0, .int .i64 0]), 3, 32) := by kernel_rfl
theorem own_emptyL (w : World) (base : Nat) (hb : base ≤ w.heap.size) : (w.alloc (.cells #[] 77)).ownsRow base 77 3 (.slice (some ⟨w.heap.size, 0, none⟩) 0 0) 0 [] :=
  ⟨rfl, .inr ⟨w.heap.size, 0, #[], rfl, hb, heap_alloc_at w _ _ rfl, Nat.le_refl _, Nat.zero_le _, rfl, rfl⟩⟩
theorem own_lowL {w : World} {B B' n s : Nat} {t : TypeId} {v : Value} {xs : List Value} (h : w.ownsRow B t s v n xs) (hb : B' ≤ B) : w.ownsRow B' t s v n xs := by
  refine ⟨h.1, ?_⟩
  rcases h.2 with h' | ⟨g, cap, cur, rfl, hB, r⟩
  · exact .inl h'
  · exact .inr ⟨g, cap, cur, rfl, Nat.le_trans hb hB, r⟩
/-- the list so far with one more behind, in a row just made -/
structure Two1 (wq : World) (BB : Nat) (M : List Value) (mn : Nat) (mv : Value) (xc : List Value) (W : World) : Prop where
  gr : wq.grownBy W none
  row : W.ownsRow 0 77 3 mv mn M
  bb : wq.heap.size = BB
end Go.Proofs.YtioahjdojgcfdaaDoor

namespace Go.Proofs.YtioahjdojgcfdaaDoor
open Go.RowKit Go.ChangeShapes Go.WideShapes

theorem cell_plain' {w : World} {a : Addr} {n : Nat} {v : Value} (h : w.cell? (a.add n) = some v) : w.cell? ⟨a.block, a.off + n, none⟩ = some v := by
  have hs := World.cell?_spot h
  obtain ⟨b, o, sp⟩ := a
  by_cases hn : n = 0
  · subst hn
    have : sp = none := by simpa [Addr.add] using hs
    subst this
    simpa [Addr.add] using h
  · simpa [Addr.add, hn] using h

section
variable {H : Type} {enc : TypeId × Value → H} {P : Program} {w : World} {base : Nat} {spare : Nat → Bool} {held : Bool}
def byteOf : Value → UInt8 | .int _ n => UInt8.ofNat n.toNat | _ => 0
/-- an array of bytes -/
theorem open_byte_array {r : Reach} {b0 : Nat} {t e : TypeId} {n : Nat} {v : Value} {d : DataW H} {p : List MemPlace} (hu : P.underlying t = some (.array n e)) (he : P.underlying e = some (.int .u8)) (hce : P.cellsOf e = 1) (hct : P.cellsOf t = n)
    (hval : Value.okWide P w r b0 t v) (h : DataW.Trod enc P w base spare held t v d p) : ∃ l : List UInt8, l.length = n ∧ v = .agg (bytesV l).toArray := by
  simp only [Value.okWide, hu] at hval
  obtain ⟨cs, rfl, hsz, -⟩ := hval
  obtain ⟨fuel, hf⟩ := h
  obtain ⟨xs, m, rfl, hx, hcl, hxl, hat⟩ := DataW.trod_array hu hf
  have hcs : cs.toList.length = n := by rw [← hct]; simpa using hsz
  refine ⟨cs.toList.map byteOf, by simpa using hcs, ?_⟩
  congr 1
  apply Array.toList_inj.1
  apply List.ext_getElem (by simp [bytesV])
  intro i h1 h2
  have hi : i < n := by omega
  have h3 := hat i hi
  have hxi : xs[i]? = some (xs[i]'(by omega)) := List.getElem?_eq_getElem (by omega)
  have h4 : ((Value.agg cs).cells.toList.drop (i * P.cellsOf e)).take (P.cellsOf e) = [cs.toList[i]] := by
    rw [hce, Nat.mul_one]
    show (cs.toList.drop i).take 1 = _
    rw [List.drop_eq_getElem_cons (by omega)]
    rfl
  rw [h4, hxi] at h3
  obtain ⟨a, ea, -, wa⟩ := DataW.trod_int he h3
  simp only [List.cons.injEq, and_true] at ea
  have hb : 0 ≤ a ∧ a ≤ 255 := by simpa [Lit.wf, IntKind.min, IntKind.max, IntKind.signed, IntKind.bits] using wa
  simp only [bytesV, List.getElem_map, List.getElem_toArray, ea, byteOf]
  congr 1
  simp
  omega
/-- a slice of integers: nil, or cells -/
theorem open_int_slice {t e : TypeId} {a0 : Option Addr} {len cap : Nat} {d : DataW H} {p : List MemPlace} (ht : P.underlying t = some (.slice e)) (he : P.underlying e = some (.int .i64)) (hc : P.cellsOf e = 1)
    (h : DataW.Trod enc P w base spare held t (.slice a0 len cap) d p) : ∃ L : List Int, L.length = len ∧ IntsAt w (.slice a0 len cap) L ∧ len ≤ cap ∧ cap ≤ maxLen ∧ ∀ x ∈ L, -9223372036854775808 ≤ x ∧ x ≤ 9223372036854775807 := by
  obtain ⟨fuel, hf⟩ := h
  rcases open_ints ht he hc hf with ⟨hcs, hx⟩ | ⟨a, len', cap', zs, hcs, _, hl, hm, hz, hx, hcell, hws⟩
  · have hv : Value.slice a0 len cap = .slice none 0 0 := by simpa [Value.cells] using hcs
    cases hv
    exact ⟨[], rfl, IntsAt.nil _ _ _, Nat.le_refl _, by unfold maxLen; omega, by simp⟩
  · have hv : Value.slice a0 len cap = .slice (some a) len' cap' := by simpa [Value.cells] using hcs
    cases hv
    have hls : len ≤ zs.length := by rw [hz]; split <;> omega
    have hlen : (zs.take len).length = len := by simp; omega
    refine ⟨zs.take len, hlen, ⟨some a, cap, by rw [hlen], fun i hi => ?_⟩, hl, hm, fun x hx => ?_⟩
    · have hc' := hcell i (by omega)
      have h00 := World.cell?_spot (hcell 0 (by omega))
      obtain ⟨g, o, sp⟩ := a
      obtain rfl : sp = none := by simpa [Addr.add] using h00
      refine ⟨g, o, rfl, ?_⟩
      rw [cell_plain' hc', List.getElem_take, List.getD_eq_getElem?_getD, List.getElem?_eq_getElem (by omega)]
      rfl
    · have := hws x (List.mem_of_mem_take hx)
      simpa [Lit.wf, IntKind.min, IntKind.max, IntKind.signed, IntKind.bits] using this
/-- an array of integers -/
theorem open_int_array {r : Reach} {b0 : Nat} {t e : TypeId} {n : Nat} {k : IntKind} {v : Value} {d : DataW H} {p : List MemPlace} (hu : P.underlying t = some (.array n e)) (he : P.underlying e = some (.int k)) (hce : P.cellsOf e = 1) (hct : P.cellsOf t = n)
    (hval : Value.okWide P w r b0 t v) (h : DataW.Trod enc P w base spare held t v d p) : ∃ l : List Int, l.length = n ∧ (∀ x ∈ l, (Lit.int k x).wf = true) ∧ v = .agg (l.map (Value.int k)).toArray := by
  simp only [Value.okWide, hu] at hval
  obtain ⟨cs, rfl, hsz, -⟩ := hval
  obtain ⟨fuel, hf⟩ := h
  obtain ⟨xs, m, rfl, hx, hcl, hxl, hat⟩ := DataW.trod_array hu hf
  have hcs : cs.toList.length = n := by rw [← hct]; simpa using hsz
  have each : ∀ i (hi : i < n), ∃ a, cs.toList[i]'(by omega) = .int k a ∧ (Lit.int k a).wf = true := by
    intro i hi
    have h3 := hat i hi
    have hxi : xs[i]? = some (xs[i]'(by omega)) := List.getElem?_eq_getElem (by omega)
    have h4 : ((Value.agg cs).cells.toList.drop (i * P.cellsOf e)).take (P.cellsOf e) = [cs.toList[i]'(by omega)] := by
      rw [hce, Nat.mul_one]
      show (cs.toList.drop i).take 1 = _
      rw [List.drop_eq_getElem_cons (by omega)]
      rfl
    rw [h4, hxi] at h3
    obtain ⟨a, ea, -, wa⟩ := DataW.trod_int he h3
    simp only [List.cons.injEq, and_true] at ea
    exact ⟨a, ea, wa⟩
  refine ⟨cs.toList.map intOf, by simpa using hcs, ?_, ?_⟩
  · intro x hx
    obtain ⟨v, hv, rfl⟩ := List.mem_map.1 hx
    obtain ⟨i, hi, rfl⟩ := List.getElem_of_mem hv
    obtain ⟨a, ea, wa⟩ := each i (by omega)
    rw [ea]
    exact wa
  · congr 1
    apply Array.toList_inj.1
    apply List.ext_getElem (by simp)
    intro i h1 h2
    obtain ⟨a, ea, wa⟩ := each i (by omega)
    simp only [List.getElem_map, ea, intOf]
end
end Go.Proofs.YtioahjdojgcfdaaDoor

namespace Go.Proofs.YtioahjdojgcfdaaDoor
open Go.ChangeShapes Go.WideShapes Go.ChangeAt Go.RowKit

variable {H : Type} {enc : TypeId × Value → H} {P : Program}

/-- The row's post where nothing that was there has turned ('again' is false: nothing is asked of what is frozen). -/
theorem post_of_below {f : Func} {s : ChangeSpec} {apart fresh handsOn : Bool} {W W' : World} {args : Array Value} {v : Value} {ds gs : List (DataW H)} {before pa pv : List MemPlace}
    (hW : DataW.Whole enc P f.params.toList s.vars apart W args.toList ds gs before)
    (hres : ∀ (b : Nat) (sp : Nat → Bool) (hd : Bool), DataW.TrodAll enc P W' b sp hd f.resultTypes.toList (v.resultList f.resultTypes.size) (s.fn H (ds ++ gs)).results [])
    (hargs : ∀ sp : Nat → Bool, (∀ p ∈ before, sp p.block = true) → DataW.TrodAll enc P W' 0 sp true f.params.toList args.toList (s.fn H (ds ++ gs)).args pa)
    (hvars : ∀ sp : Nat → Bool, (∀ p ∈ before, sp p.block = true) → DataW.TrodVars enc P W' sp s.vars (s.fn H (ds ++ gs)).vars pv)
    (hps : before = pa ++ pv) (hk : Below W.heap.size W W') :
    s.post enc P f apart fresh handsOn false W args v W' := by
  have hold : ∀ p ∈ before, (fun b => decide (b < W.heap.size)) p.block = true := fun p hp => by simpa using hW.lt p hp
  refine ⟨ds, gs, before, [], pa, pv, hW, hres _ _ _, hargs _ hold, hvars _ hold, World.keptBut_mono (fun p hp => ⟨hp, ?_⟩) (hk.frame (· ∈ before)), fun h => by cases h⟩
  rw [hps, List.mem_append] at hp
  exact Or.inr hp

/-- The same, what was handed in being read again by 'Below.trod'. -/
theorem post_of_below_at {f : Func} {s : ChangeSpec} {apart fresh handsOn : Bool} {W W' : World} {args : Array Value} {v : Value} {ds gs : List (DataW H)} {before pa pv : List MemPlace}
    (hW : DataW.Whole enc P f.params.toList s.vars apart W args.toList ds gs before)
    (hres : ∀ (b : Nat) (sp : Nat → Bool) (hd : Bool), DataW.TrodAll enc P W' b sp hd f.resultTypes.toList (v.resultList f.resultTypes.size) (s.fn H (ds ++ gs)).results [])
    (hargs : DataW.TrodAll enc P W' 0 (fun b => decide (b < W.heap.size)) true f.params.toList args.toList (s.fn H (ds ++ gs)).args pa)
    (hvars : DataW.TrodVars enc P W' (fun b => decide (b < W.heap.size)) s.vars (s.fn H (ds ++ gs)).vars pv)
    (hps : before = pa ++ pv) (hk : Below W.heap.size W W') :
    s.post enc P f apart fresh handsOn false W args v W' := by
  refine ⟨ds, gs, before, [], pa, pv, hW, hres _ _ _, hargs, hvars, World.keptBut_mono (fun p hp => ⟨hp, ?_⟩) (hk.frame (· ∈ before)), fun h => by cases h⟩
  rw [hps, List.mem_append] at hp
  exact Or.inr hp
end Go.Proofs.YtioahjdojgcfdaaDoor

namespace Go.Proofs.YtioahjdojgcfdaaDoor
open Go.RowKit Go.ChangeShapes Go.WideShapes Go.Deep

section
variable {H : Type} {enc : TypeId × Value → H} {P : Program} {w : World} {base : Nat} {spare : Nat → Bool} {held : Bool}
theorem open_slice_fieldsL {t e : TypeId} {fs : Array Field} {fuel : Nat} {cs : List Value} {x : DataW H × List MemPlace} (ht : P.underlying t = some (.slice e)) (he : P.underlying e = some (.struct fs))
    (hone : oneCellFields P fs = true) (hC : P.cellsOf e = fs.size) (h : DataW.trod enc P w base spare held fuel t cs = some x) :
    (cs = [.slice none 0 0]) ∨
    ∃ (a : Addr) (len cap m : Nat), cs = [.slice (some a) len cap] ∧ len ≤ cap ∧ cap ≤ maxLen ∧ len ≤ m ∧
      ∀ i, i < m → ∃ n : Nat, ∀ (j : Nat) (f : Field), fs[j]? = some f → ∃ (v : Value) (y : DataW H × List MemPlace), w.cell? (a.add (i * fs.size + j)) = some v ∧ DataW.trod enc P w base spare held n f.type [v] = some y := by
  rcases open_slice ht h with h0 | ⟨a, len, cap, m, n, D, Pl, hcs, hb, hl, hm, hmm, hx, hi⟩
  · exact .inl h0.1
  · refine .inr ⟨a, len, cap, m, hcs, hl, hm, by rw [hmm]; split <;> omega, fun i him => ?_⟩
    obtain ⟨cs', hc, ht'⟩ := hi i him
    rw [hC] at hc
    obtain ⟨ys, n', hn', hy, hlen, hyl, hf⟩ := DataW.trod_struct he ht'
    obtain ⟨_, hcl, hat⟩ := World.cells?_some hc
    refine ⟨n', fun j f hj => ?_⟩
    obtain ⟨ho, hk⟩ := hone_of hone j f hj
    have hjl : j < fs.size := (Array.getElem?_eq_some_iff.1 hj).1
    have hcell := hat j hjl
    have hv : cs'[j]? = some (cs'[j]'(by omega)) := List.getElem?_eq_getElem (by omega)
    have h1 := hf j f hj
    rw [ho, hk] at h1
    have hone' : (cs'.drop j).take 1 = [cs'[j]'(by omega)] := by
      rw [List.drop_eq_getElem_cons (by omega)]
      rfl
    rw [hone'] at h1
    have hys : ys[j]? = some (ys[j]'(by omega)) := List.getElem?_eq_getElem (by omega)
    refine ⟨_, _, ?_, h1.trans hys⟩
    rw [← Go.Deep.add_add, hcell, hv]
end
theorem cellsLA : Tryd.prog.cellsOf 77 = 3 := by kernel_rfl
/-- a list of auditors: nil, or cells -/
theorem open_las {H : Type} {enc : TypeId × Value → H} {w : World} {base : Nat} {spare : Nat → Bool} {held : Bool} {a0 : Option Addr} {len cap : Nat} {d : DataW H} {p : List MemPlace}
    (h : DataW.Trod enc Tryd.prog w base spare held 73 (.slice a0 len cap) d p) : ∃ L : List LA, LAsAt w (.slice a0 len cap) L ∧ (∀ x ∈ L, x.n.size ≤ maxLen) ∧ len ≤ maxLen := by
  obtain ⟨fuel, hf⟩ := h
  rcases open_slice_fieldsL Tryd.underlying73 Tryd.underlying77 (by kernel_rfl) cellsLA hf with hcs | ⟨a, len', cap', m, hcs, hl, hm, hmm, hi⟩
  · have hv : Value.slice a0 len cap = .slice none 0 0 := by simpa [Value.cells] using hcs
    cases hv
    exact ⟨[], ⟨none, 0, rfl, fun i h => absurd h (by simp)⟩, by simp, by unfold maxLen; omega⟩
  · have hv : Value.slice a0 len cap = .slice (some a) len' cap' := by simpa [Value.cells] using hcs
    cases hv
    have each : ∀ i, ∃ x : LA, i < len → ∃ g o, a = ⟨g, o, none⟩ ∧ w.cell? ⟨g, o + i * 3, none⟩ = some (.string x.n) ∧ w.cell? ⟨g, o + i * 3 + 1, none⟩ = some (.int .u8 (UInt8.toNat x.c)) ∧ w.cell? ⟨g, o + i * 3 + 2, none⟩ = some (.int .i64 x.h) ∧ x.n.size ≤ maxLen := by
      intro i
      by_cases hlt : i < len
      · obtain ⟨n, hj⟩ := hi i (by omega)
        obtain ⟨v0, y0, c0, t0⟩ := hj 0 _ rfl
        obtain ⟨v1, y1, c1, t1⟩ := hj 1 _ rfl
        obtain ⟨v2, y2, c2, t2⟩ := hj 2 _ rfl
        obtain ⟨x0, e0, f0, w0⟩ := DataW.trod_string Tryd.underlying9 t0
        obtain ⟨x1, e1, f1, w1⟩ := DataW.trod_int Tryd.underlying5 t1
        obtain ⟨x2, e2, f2, w2⟩ := DataW.trod_int Tryd.underlying3 t2
        simp only [List.cons.injEq, and_true] at e0 e1 e2
        subst e0 e1 e2
        obtain ⟨nz, hjz⟩ := hi 0 (by omega)
        obtain ⟨vz, yz, cz, _⟩ := hjz 0 _ rfl
        have hs := World.cell?_spot cz
        obtain ⟨g, o, sp⟩ := a
        have hsp : sp = none := by simpa [Addr.add] using hs
        subst hsp
        have b1 : 0 ≤ x1 ∧ x1 ≤ 255 := by simpa [Lit.wf, IntKind.min, IntKind.max, IntKind.signed, IntKind.bits] using w1
        have u1 : ((UInt8.ofNat x1.toNat).toNat : Int) = x1 := by rw [UInt8.toNat_ofNat_of_lt' (show x1.toNat < 256 by omega)]; omega
        refine ⟨⟨x0, UInt8.ofNat x1.toNat, x2⟩, fun _ => ⟨g, o, rfl, ?_, ?_, ?_, ?_⟩⟩
        · have := cell_plain' c0
          rw [← Nat.add_assoc, Nat.add_zero] at this
          exact this
        · have := cell_plain' c1
          rw [← Nat.add_assoc] at this
          rw [u1]
          exact this
        · have := cell_plain' c2
          rw [← Nat.add_assoc] at this
          exact this
        · simpa using w0
      · exact ⟨⟨ByteArray.empty, 0, 0⟩, fun h => absurd h hlt⟩
    obtain ⟨L, hL⟩ := Classical.axiomOfChoice each
    have hlen : ((List.range len).map L).length = len := by simp
    refine ⟨(List.range len).map L, ⟨some a, cap, by rw [hlen], fun i hi => ?_⟩, ?_, by omega⟩
    · rw [hlen] at hi
      obtain ⟨g, o, rfl, h1, h2, h3, _⟩ := hL i hi
      refine ⟨g, o, rfl, ?_, ?_, ?_⟩ <;> rw [List.getElem_map, List.getElem_range] <;> assumption
    · intro x hx
      obtain ⟨i, hi, rfl⟩ := List.mem_map.1 hx
      obtain ⟨_, _, _, _, _, _, h4⟩ := hL i (List.mem_range.1 hi)
      exact h4
end Go.Proofs.YtioahjdojgcfdaaDoor
