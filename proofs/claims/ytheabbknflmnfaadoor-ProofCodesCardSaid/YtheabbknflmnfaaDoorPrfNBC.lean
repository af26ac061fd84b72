/- The walk of a proof's Node, by what climb is said to do. · slices.Backward over texts. · The walk of proof's climb. · The walks of a proof's tells, Has, Lacks, by what climb is said to do. -/
import Derived.Test.YtheabbknflmnfaaDoorPrfAll
import Derived.Test.YtheabbknflmnfaaDoorTurn
import Derived.RangeFuncNested
import Derived.RangeFuncBound
import Derived.RangeFuncCalls
import Derived.RangeFuncLeaves
import Derived.Shelf.Abstract
import Derived.Shelf.RegionOpen
import Derived.OwnWalkIn
import Derived.TacticsInMore
import Derived.LoopNIn
import Derived.LoopIn
namespace Go.Proofs.YtheabbknflmnfaaDoor
open Go.RowKit Go.Maps
attribute [local irreducible] shaL

theorem strs_grown {w w' : World} {v : Value} {L : List ByteArray} (hv : StrsAt w v L) (q : w.grownBy w' none) : StrsAt w' v L := by
  obtain ⟨a, cap, e, hc⟩ := hv
  refine ⟨a, cap, e, fun i hi => ?_⟩
  obtain ⟨g, o, e2, h1⟩ := hc i hi
  exact ⟨g, o, e2, q.cell h1 (by simp)⟩
set_option maxRecDepth 100000 in
set_option maxHeartbeats 3200000 in
theorem pnode_fine (v : Value) (L : List ByteArray) (t : Bool) (pk pv key : ByteArray) (d : Nat) (w : World) (hr : ShaReady w) (hv : StrsAt w v L) (hs : ∀ s ∈ L, s.size ≤ maxLen) (hk : key.size = 16) (hd : d + L.length ≤ 128) (hpk : pk.size ≤ 1000) (hpv : pv.size ≤ 1000)
    (hC : ∀ (x : ByteArray) (w' : World), x.size ≤ 17 → w.grownBy w' none → Calls Tryd.prog 53 #[.string x, .string key, .int .i64 d, v] w' fun e w'' => e = .returned (.string (climbN key d L x)) ∧ w'.grownBy w'' none) :
    Calls Tryd.prog 30 #[.agg #[v, .bool t, .string pk, .string pv], .string key, .int .i64 d] w fun e w' => e = .returned (.string (if goodB L t pk pv key d then climbN key d L (if t then leafS pk pv else emptyS) else ⟨#[]⟩)) ∧ w.grownBy w' none := by
  have HGOOD := Lib.hid (fun (w' : World) (q : w.grownBy w' none) => good_fine v L t pk pv key d w' (strs_grown hv q) hs hk hd (by unfold maxLen; omega))
  have HLEAF := Lib.hid (fun (w' : World) (q : w.grownBy w' none) => tleaf_any pk pv (by omega) (by omega) w' (hr.grown q))
  have HC0 := Lib.hid (fun (w' : World) (q : w.grownBy w' none) => hC emptyS w' (by decide) q)
  have HC1 := Lib.hid (fun (w' : World) (q : w.grownBy w' none) => hC (leafS pk pv) w' (by rw [leafS_size]; omega) q)
  generalize leafS pk pv = LF at HLEAF HC1 ⊢
  obtain ⟨R0, hR0⟩ : ∃ R, climbN key d L emptyS = R := ⟨_, rfl⟩
  obtain ⟨R1, hR1⟩ : ∃ R, climbN key d L LF = R := ⟨_, rfl⟩
  rw [hR0] at HC0
  rw [hR1] at HC1
  obtain ⟨G, hG⟩ : ∃ G, goodB L t pk pv key d = G := ⟨_, rfl⟩
  rw [hG] at HGOOD ⊢
  have HRR := Lib.hid (And.intro hR0 hR1)
  have hg1 : w.grownBy (w.alloc (.cells #[v, .bool t, .string pk, .string pv] 51)) none := World.grownBy_alloc _ _ _
  have hb1 := heap_alloc_at w (.cells #[v, .bool t, .string pk, .string pv] 51) _ rfl
  clear hr hv hs hk hd hpk hpv hC hR0 hR1 hG
  go_enter Tryd.func30, Tryd.ntmps30
  go_wp2_with fail
  refine (HGOOD.out _ hg1).mono ?_
  rintro e w2 ⟨rfl, g2⟩
  have hb2 := g2.heap hb1 (by simp)
  have hg2 := grownBy_trans hg1 g2
  obtain ⟨XB, hXB⟩ : ∃ XB, w.heap.size = XB := ⟨_, rfl⟩
  rw [hXB] at hb2 ⊢
  have x0 := cell_of hb2 0
  have x1 := cell_of hb2 1
  have x2 := cell_of hb2 2
  have x3 := cell_of hb2 3
  simp at x0 x1 x2 x3
  have HG2 := Lib.hid hg2
  have HB2 := Lib.hid hb2
  clear hg1 hb1 hXB g2 hg2 hb2 HGOOD
  cases G
  · go_wp2_with fail
    go_ret
    exact ⟨rfl, HG2.out⟩
  · cases t
    · go_wp2_with fail
      refine (HC0.out _ HG2.out).mono ?_
      rintro e w3 ⟨rfl, g3⟩
      have HG3 := Lib.hid (grownBy_trans HG2.out g3)
      clear g3
      go_wp2_with fail
      go_ret
      exact ⟨by rw [← HRR.out.1]; rfl, HG3.out⟩
    · go_wp2_with fail
      refine (HLEAF.out _ HG2.out).mono ?_
      rintro e w3 ⟨rfl, g3⟩
      have x0 := cell_of (g3.heap HB2.out (by simp)) 0
      simp at x0
      have HG3 := Lib.hid (grownBy_trans HG2.out g3)
      clear g3
      go_wp2_with fail
      refine (HC1.out _ HG3.out).mono ?_
      rintro e w4 ⟨rfl, g4⟩
      have HG4 := Lib.hid (grownBy_trans HG3.out g4)
      clear g4
      go_wp2_with fail
      go_ret
      exact ⟨by rw [← HRR.out.2]; rfl, HG4.out⟩
end Go.Proofs.YtheabbknflmnfaaDoor

namespace Go.Proofs.YtheabbknflmnfaaDoor
open Go.RowKit Go.Shelf
attribute [local irreducible] shaL
attribute [local go_sem] Oper.semAt_some

/-- the places of a list, the last one first, as far as the k-th -/
def downs (m : Nat) (k : Nat) : List Nat := (List.range k).map fun j => m - 1 - j
theorem downs_succ (m k : Nat) : downs m (k + 1) = downs m k ++ [m - 1 - k] := by simp [downs, List.range_succ]
theorem downs_length (m k : Nat) : (downs m k).length = k := by simp [downs]
/-- the k-th text (behind the last one: none) -/
def entT (L : List ByteArray) (k : Nat) : ByteArray := L.getD k ⟨#[]⟩
theorem entT_at (L : List ByteArray) (k : Nat) (h : k < L.length) : L[k]? = some (entT L k) := by
  unfold entT
  rw [List.getD_eq_getElem?_getD, List.getElem?_eq_getElem h]
  rfl
theorem backwardT_any (a : Option Addr) (n c : Nat) (w : World) : Calls Tryd.prog 77 #[.slice a n c] w fun e w' => e = .returned (.func (.func 98) #[] #[.pointer (some ⟨w.heap.size, 0, none⟩)]) ∧ w.alloc (.cells #[.slice a n c] 34) = w' := by
  go_enter Tryd.func77, Tryd.ntmps77
  go_wp2_with fail
  go_ret
  exact ⟨rfl, rfl⟩
/-- all that lay when the loop began lies on, but for one block -/
def butOne (n0 n : Nat) (i : Nat) : Prop := n0 ≤ i ∨ i = n
set_option maxRecDepth 100000 in
set_option maxHeartbeats 2000000 in
theorem backwardT1_in (F : Fence) (n : Nat) (h27 : F.fn 98) (hro : F.round = none) (hn : 1 ≤ n) (l Bs n₀ nb m cw : Nat) (v0 : Option Addr) (es : List ByteArray) (hm : es.length = m) (hlen : m ≤ 1000000000) (hBs : Bs < n₀) (hBn : Bs ≠ nb) (J Jx : List Nat → World → Prop)
    (hY : ∀ pre x W, J pre W → pre.length < m → YieldAt F (n - 1) Tryd.prog l #[.int .i64 (min x m : Nat), .string (entT es x)] W fun e W' =>
      (e = .returned (.bool true) ∧ J (pre ++ [x]) W' ∧ Turn (butOne n₀ nb) W W') ∨ (e = .returned (.bool false) ∧ Jx (pre ++ [x]) W'))
    (W : World) (hnW : n₀ ≤ W.heap.size) (hBc : W.cell? ⟨Bs, 0, none⟩ = some (.slice v0 m cw)) (hv : ∀ i, (h : i < m) → ∃ g o, v0 = some ⟨g, o, none⟩ ∧ g < n₀ ∧ g ≠ nb ∧ W.cell? ⟨g, o + i, none⟩ = some (.string (entT es i))) (h0 : J [] W) :
    CallsIn F n Tryd.prog 98 #[.func (.yield l) #[] #[], .pointer (some ⟨Bs, 0, none⟩)] W fun e W' => (∃ v, e = .returned v) ∧
      ((∃ ys, ys = downs m m ∧ J ys W') ∨ (∃ pre, (∃ k, k < m ∧ pre = downs m (k + 1)) ∧ Jx pre W')) := by
  have HV := Lib.hid hv
  clear hv
  refine callsIn_of_wp Tryd.func98 rfl h27 ?_ hro
  simp only [Tryd.ntmps98, List.size_toArray, List.length_cons, List.length_nil, Nat.reduceAdd, Nat.reduceSub, Array.replicate_succ, Array.replicate_zero, List.push_toArray, List.append_toArray, List.nil_append, List.cons_append]
  gi_wp2
  gi_loopw [3] (fun i wr => ∃ (z : Int) (r : Nat), i = .int .i64 z ∧ Hid (z = (r : Int) - 1) ∧ r ≤ m ∧ J (downs m (m - r)) wr ∧ Turn (butOne n₀ nb) W wr)
    (fun i _ => (intOf i + 1).toNat)
  case atStart => exact ⟨_, m, rfl, rfl, Nat.le_refl _, by rw [Nat.sub_self]; exact h0, Turn.refl _ _⟩
  case round =>
    obtain ⟨z, r, rfl, HZ, hr, hJs, hnx⟩ := hrel
    have hBc' : wr.cell? ⟨Bs, 0, none⟩ = some (.slice v0 m cw) := (hnx.cell (by omega) (fun q => by rcases q with q | q <;> omega) 0).trans hBc
    cases r with
    | zero =>
      obtain rfl : z = -1 := by have := HZ.out; omega
      gi_wp2
      go_end0
      exact ⟨⟨_, rfl⟩, .inl ⟨_, rfl, by simpa using hJs⟩⟩
    | succ r =>
      obtain rfl : z = (r : Int) := by have := HZ.out; omega
      have hrm : r < m := hr
      have z0 : (0 : Int) ≤ (r : Int) := by omega
      have z1 : (r : Int) < (m : Int) := by omega
      obtain ⟨gw, ow, rfl, hgw, hgn, hcw⟩ := HV.out r hrm
      have hcr : wr.cell? ⟨gw, ow + r, none⟩ = some (.string (entT es r)) := (hnx.cell (by omega) (fun q => by rcases q with q | q <;> omega) _).trans hcw
      have hY2 := hY _ r wr hJs (by rw [downs_length]; omega)
      rw [Nat.min_eq_left (by omega : r ≤ m)] at hY2
      obtain ⟨fn, tmps, assign, body, hy, hR⟩ := hY2
      gi_wp2
      have hpre : downs m (m - (r + 1)) ++ [r] = downs m (m - r) := by
        have e1 : m - r = (m - (r + 1)) + 1 := by clear HV; omega
        have e2 : m - 1 - (m - (r + 1)) = r := by clear HV; omega
        rw [e1, downs_succ, e2]
      refine hR.mono ?_
      rintro e W3 (⟨rfl, hJ3, hk3⟩ | ⟨rfl, hJx3⟩)
      · rw [hpre] at hJ3
        gi_wp2
        go_roundw
        case rel => exact ⟨_, r, rfl, rfl, by omega, hJ3, hnx.then hk3⟩
        case measure => simp [intOf]
      · gi_wp2
        refine bodyPost_ret (results_none rfl _ _ _) rfl ?_
        exact ⟨⟨_, rfl⟩, .inr ⟨_, ⟨m - (r + 1), by omega, by rw [hpre, show m - r = m - (r + 1) + 1 from by omega]⟩, hJx3⟩⟩
/-- what a range over slices.Backward(s) hands on -/
def encT (es : List ByteArray) (x : Nat) : Array Value := #[.int .i64 (min x es.length : Nat), .string (entT es x)]
theorem backwardT_stops (F : Fence) (n : Nat) (h27 : F.fn 98) (hro : F.round = none) (hn : 1 ≤ n) (Bs n₀ nb : Nat) (v : Value) (es : List ByteArray) (hlen : es.length ≤ 1000000000) (w : World) (hBs : Bs < n₀) (hBn : Bs ≠ nb) (hn₀ : n₀ ≤ w.heap.size)
    (hc : w.cell? ⟨Bs, 0, none⟩ = some v) (hv : StrsAt w v es) (hvn : ∀ i g o, i < es.length → v.ownBlock = some g → w.cell? ⟨g, o, none⟩ = some (.string (entT es i)) → g < n₀ ∧ g ≠ nb) :
    SeqStopsK F n Tryd.prog 98 #[.pointer (some ⟨Bs, 0, none⟩)] (encT es) (Turn (butOne n₀ nb)) (fun ys => ys = downs es.length es.length) (fun pre => ∃ k, k < es.length ∧ pre = downs es.length (k + 1)) es.length w := fun l J Jx W hW _ _ hY h0 => by
  have hc' := (hW.cell (p := ⟨Bs, 0, none⟩) (Nat.lt_of_lt_of_le hBs hn₀)).trans hc
  obtain ⟨a, cap, rfl, hi⟩ := hv
  refine (backwardT1_in F n h27 hro hn l Bs n₀ nb es.length cap a es rfl hlen hBs hBn J Jx hY W (Nat.le_trans hn₀ hW.size) hc' (fun i h => ?_) h0).mono ?_
  · obtain ⟨g, o, rfl, h1⟩ := hi i h
    have e1 : es[i] = entT es i := by have := entT_at es i h; rw [List.getElem?_eq_getElem h] at this; exact Option.some.inj this
    rw [e1] at h1
    have hg := hvn i g (o + i) h rfl h1
    exact ⟨g, o, rfl, hg.1, hg.2, (hW.cell (p := ⟨g, o + i, none⟩) (Nat.lt_of_lt_of_le hg.1 hn₀)).trans h1⟩
  · rintro e W' ⟨he, ⟨ys, rfl, hj⟩ | ⟨pre, hk, hj⟩⟩
    · exact ⟨he, .inl ⟨_, rfl, hj⟩⟩
    · exact ⟨he, .inr ⟨_, hk, hj⟩⟩
end Go.Proofs.YtheabbknflmnfaaDoor

namespace Go.Proofs.YtheabbknflmnfaaDoor
open Go.RowKit Go.Shelf
attribute [local irreducible] shaL
attribute [local go_sem] Oper.semAt_some

theorem joinN_few (a b : ByteArray) (ha : a.size ≤ 1000) (hb : b.size ≤ 1000) : (joinN a b).size ≤ 1000 := by
  unfold joinN
  split
  · exact hb
  · split
    · exact ha
    · rw [bothS_size]; omega
theorem climb_few (key : ByteArray) : ∀ (L : List ByteArray) (d : Nat) (x : ByteArray), (∀ s ∈ L, s.size ≤ 1000) → x.size ≤ 1000 → (climbN key d L x).size ≤ 1000
  | [], _, _, _, hx => hx
  | b :: r, d, x, hL, hx => by
    have h1 := climb_few key r (d + 1) x (fun s hs => hL s (List.mem_cons_of_mem _ hs)) hx
    have h2 := hL b List.mem_cons_self
    unfold climbN
    split
    · exact joinN_few _ _ h2 h1
    · exact joinN_few _ _ h1 h2
/-- the node behind some rounds -/
def climbed (key : ByteArray) (d : Nat) (L : List ByteArray) (x : ByteArray) (k : Nat) : ByteArray := climbN key (d + (L.length - k)) (L.drop (L.length - k)) x
theorem climbed_zero (key : ByteArray) (d : Nat) (L : List ByteArray) (x : ByteArray) : climbed key d L x 0 = x := by
  unfold climbed
  rw [Nat.sub_zero, List.drop_length]
  rfl
theorem climbed_all (key : ByteArray) (d : Nat) (L : List ByteArray) (x : ByteArray) : climbed key d L x L.length = climbN key d L x := by
  unfold climbed
  rw [Nat.sub_self]
  rfl
theorem climbed_succ (key : ByteArray) (d : Nat) (L : List ByteArray) (x : ByteArray) (k : Nat) (hk : k < L.length) :
    climbed key d L x (k + 1) = if bitS key (d + (L.length - 1 - k)) = 1 then joinN (entT L (L.length - 1 - k)) (climbed key d L x k) else joinN (climbed key d L x k) (entT L (L.length - 1 - k)) := by
  have e1 : L.length - (k + 1) = L.length - 1 - k := by omega
  have e2 : L.length - k = (L.length - 1 - k) + 1 := by omega
  have hi : L.length - 1 - k < L.length := by omega
  have e3 : L.drop (L.length - 1 - k) = entT L (L.length - 1 - k) :: L.drop (L.length - 1 - k + 1) := by
    have h := entT_at L _ hi
    rw [List.getElem?_eq_getElem hi] at h
    rw [List.drop_eq_getElem_cons hi, Option.some.inj h]
  unfold climbed
  rw [e1, e3, e2]
  rfl
theorem climbed_few (key : ByteArray) (d : Nat) (L : List ByteArray) (x : ByteArray) (k : Nat) (hL : ∀ s ∈ L, s.size ≤ 1000) (hx : x.size ≤ 1000) : (climbed key d L x k).size ≤ 1000 :=
  climb_few _ _ _ _ (fun s hs => hL s (List.mem_of_mem_drop hs)) hx
theorem entT_few (L : List ByteArray) (k : Nat) (hL : ∀ s ∈ L, s.size ≤ 1000) : (entT L k).size ≤ 1000 := by
  by_cases h : k < L.length
  · exact hL _ (List.mem_of_getElem? (entT_at L k h))
  · unfold entT
    rw [List.getD_eq_getElem?_getD, List.getElem?_eq_none (by omega)]
    exact Nat.zero_le _
theorem results_climb {v : ByteArray} {tmps : Array Value} {w : World} (h : tmps[8]? = some (.string v)) : (results Tryd.f53 tmps).run Tryd.prog w = .ok (.string v) w := by
  simp [results, Tryd.results53, go_sem, h]
theorem read_put {w W : World} {n D : Nat} {o : Obj} (h : Below n w W) (hd : n ≤ D) : Below n w (W.putObj D o) :=
  h.trans ⟨rfl, rfl, rfl, by simp, fun k hk => World.putObj_heap_other (by omega)⟩
/-- a round: past what stands beside at a place -/
def stepC (key : ByteArray) (d : Nat) (L : List ByteArray) (nd : ByteArray) (i : Nat) : ByteArray := if bitS key (d + min i L.length) = 1 then joinN (entT L i) nd else joinN nd (entT L i)
theorem fold_climbed (key : ByteArray) (d : Nat) (L : List ByteArray) (x : ByteArray) : ∀ k, k ≤ L.length → (downs L.length k).foldl (stepC key d L) x = climbed key d L x k := by
  intro k
  induction k with
  | zero => intro _; rw [climbed_zero]; rfl
  | succ k ih =>
    intro hk
    rw [downs_succ, List.foldl_append, ih (by omega), climbed_succ key d L x k (by omega)]
    show stepC key d L _ _ = _
    unfold stepC
    rw [Nat.min_eq_left (by omega)]
theorem fold_few (key : ByteArray) (d : Nat) (L : List ByteArray) (hL : ∀ s ∈ L, s.size ≤ 1000) : ∀ (pre : List Nat) (x : ByteArray), x.size ≤ 1000 → (pre.foldl (stepC key d L) x).size ≤ 1000
  | [], _, hx => hx
  | i :: r, x, hx => fold_few key d L hL r _ (by
    unfold stepC
    split
    · exact joinN_few _ _ (entT_few L i hL) hx
    · exact joinN_few _ _ hx (entT_few L i hL))
set_option maxRecDepth 100000 in
set_option maxHeartbeats 4000000 in
theorem climb_any (v : Value) (L : List ByteArray) (x key : ByteArray) (d : Nat) (w : World) (hr : ShaReady w) (hv : StrsAt w v L) (hs : ∀ s ∈ L, s.size ≤ 1000) (hx : x.size ≤ 1000) (hk : key.size = 16) (hd : d + L.length ≤ 128) (hvb : ∀ g, v.ownBlock = some g → g < w.heap.size) :
    Calls Tryd.prog 53 #[.string x, .string key, .int .i64 d, v] w fun e w' => e = .returned (.string (climbN key d L x)) ∧ Below w.heap.size w w' := by
  obtain ⟨va, vn, vc, rfl⟩ : ∃ a n c, v = .slice a n c := by obtain ⟨a, c, rfl, _⟩ := hv; exact ⟨_, _, _, rfl⟩
  have HR := Lib.hid hr
  have HV := Lib.hid hv
  have HS := Lib.hid hs
  have HX := Lib.hid hx
  have HK := Lib.hid hk
  have HD := Lib.hid hd
  have HVB := Lib.hid hvb
  clear hr hv hs hx hk hd hvb
  refine (callsIn_wide (n := 6)).1 ?_
  refine callsIn_of_wp_marks Tryd.func53 rfl trivial ?_ rfl
  simp only [Tryd.ntmps53, List.size_toArray, List.length_cons, List.length_nil, Nat.reduceAdd, Nat.reduceSub, Array.replicate_succ, Array.replicate_zero, List.push_toArray, List.append_toArray, List.nil_append, List.cons_append]
  refine wpIn_wide.2 ?_
  go_wp2_with fail
  have bx := ((Boxed.new w 9 (.string x)).alloc (.cells #[.string key] 9)).alloc (.cells #[.int .i64 (d : Nat)] 3)
  have bk := (Boxed.new (w.alloc (.cells #[.string x] 9)) 9 (.string key)).alloc (.cells #[.int .i64 (d : Nat)] 3)
  have bd := Boxed.new ((w.alloc (.cells #[.string x] 9)).alloc (.cells #[.string key] 9)) 3 (.int .i64 (d : Nat))
  have hB3 : Below w.heap.size w (((w.alloc (.cells #[.string x] 9)).alloc (.cells #[.string key] 9)).alloc (.cells #[.int .i64 (d : Nat)] 3)) := ((Below.refl _ w).alloc (Nat.le_refl _) _).alloc (by simp) _ |>.alloc (by simp; omega) _
  have hs3 : (((w.alloc (.cells #[.string x] 9)).alloc (.cells #[.string key] 9)).alloc (.cells #[.int .i64 (d : Nat)] 3)).heap.size = w.heap.size + 3 := by simp
  simp only [World.size_alloc] at bk bd
  obtain ⟨W3, hW3⟩ : ∃ W3, ((w.alloc (.cells #[.string x] 9)).alloc (.cells #[.string key] 9)).alloc (.cells #[.int .i64 (d : Nat)] 3) = W3 := ⟨_, rfl⟩
  rw [hW3] at bx bk bd hB3 hs3 ⊢
  clear hW3
  generalize hn : w.heap.size = n at *
  have BI := Lib.hid (And.intro bx (And.intro bk bd))
  have HS3 := Lib.hid hs3
  have HN := Lib.hid hn
  clear bx bk bd hs3 hn
  refine (backwardT_any va vn vc _).mono ?_
  rintro e w1 ⟨rfl, rfl⟩
  go_wp2_with fail
  rw [HS3.out]
  obtain ⟨W4, hW4⟩ : ∃ W4, W3.alloc (.cells #[.slice va vn vc] 34) = W4 := ⟨_, rfl⟩
  have hs4 : W4.heap.size = n + 4 := by rw [← hW4]; simp [HS3.out]
  have hB4 : Below n w W4 := by rw [← hW4]; exact hB3.alloc (by rw [HS3.out]; omega) _
  have B4 : Hid (Boxed W4 n 9 (.string x) ∧ Boxed W4 (n + 1) 9 (.string key) ∧ Boxed W4 (n + 1 + 1) 3 (.int .i64 (d : Nat)) ∧ Boxed W4 (n + 3) 34 (.slice va vn vc)) := by
    rw [← hW4]
    exact ⟨BI.out.1.alloc _, BI.out.2.1.alloc _, BI.out.2.2.alloc _, by have := Boxed.new W3 34 (.slice va vn vc); rwa [HS3.out] at this⟩
  rw [hW4]
  clear hW4 hB3 HS3 BI
  have hg4 : w.grownBy W4 none := grownBy_below (by rw [HN.out]; exact hB4)
  have hv4 : StrsAt W4 (.slice va vn vc) L := strs_grown HV.out hg4
  have hl9 : L.length ≤ 1000000000 := by have := HD.out; omega
  refine (wpIn_wide (n := 6)).1 ?_
  refine wpIn_rangeFunc_ownH (F := Fence.wide) rfl (by decide) (gf := 98) (lb := #[.pointer (some ⟨n + 3, 0, none⟩)]) rfl trivial (enters_of Tryd.func98 (by kernel_rfl) rfl)
    (backwardT_stops Fence.wide 5 trivial rfl (by decide) (n + 3) (n + 4) n (.slice va vn vc) L hl9 W4 (by omega) (by omega) (by omega) B4.out.2.2.2.cell hv4 (fun i g o _ e _ => by have := HVB.out g e; omega)) (fun h k => h.then k) ?kb (Below.refl _ _) (fun _ => rfl)
    (fun pre W => ((Boxed W n 9 (.string (pre.foldl (stepC key d L) x)) ∧ Boxed W (n + 1) 9 (.string key) ∧ Boxed W (n + 1 + 1) 3 (.int .i64 (d : Nat)))) ∧ Below n W4 W)
    (fun c pre W => False)
    ?own ?ownx
    ⟨⟨B4.out.1, B4.out.2.1, B4.out.2.2.1⟩, Below.refl _ _⟩
    (fun x' a' W => a' = { tmps := #[.string x, .string key, .int .i64 (d : Nat), .slice va vn vc, .pointer (some ⟨n, 0, none⟩), .pointer (some ⟨n + 1, 0, none⟩), .pointer (some ⟨n + 1 + 1, 0, none⟩), undef, .string ⟨#[]⟩, .int .i64 (min x' L.length : Nat), .string (entT L x'), .slice va vn vc, .func (.func 98) #[] #[.pointer (some ⟨n + 3, 0, none⟩)], .int .i64 (min x' L.length : Nat), .string (entT L x'), undef, undef, undef, undef, undef, undef, undef, undef, undef, undef, undef, undef, undef], defers := [] })
    (fun x' a' _ X Y row hs hg hr => hs)
    ?assign ?body ?done ?stop
  case kb => exact fun W l o o' hl ho h1 h2 => ⟨rfl, rfl, rfl, by simp, fun k hk hn2 => World.putObj_heap_other (fun e => hn2 (Or.inl (by omega)))⟩
  case own => exact OwnFrom.and (OwnFrom.and (Own.from (boxed_own _ _ _) _) (OwnFrom.and (Own.from (boxed_own _ _ _) _) (Own.from (boxed_own _ _ _) _))) (ownFrom_below (by omega) (by omega))
  case ownx => exact fun c s X Y row hs _ _ => hs
  case assign =>
    rintro l pre x' W K ⟨⟨b1, b2, b3⟩, hB⟩ hK
    unfold encT
    gi_wp2
    exact hK _ _ (KeepsFrom.refl _ _) (Turn.refl _ _) ⟨⟨b1, b2, b3⟩, hB⟩ rfl
  case body =>
    rintro l pre x' a' W hl ⟨r, hr⟩ ⟨⟨b1, b2, b3⟩, hB⟩ rfl hlt
    have ck := b2.cell
    have cd := b3.cell
    have cx := b1.cell
    have fx := b1.frozen
    have hsz := hB.size
    have hml : min x' L.length ≤ L.length := Nat.min_le_right _ _
    have hwW : w.grownBy W none := grownBy_below (by rw [HN.out]; exact hB4.trans hB)
    obtain ⟨q, hq⟩ : ∃ q, min x' L.length = q := ⟨_, rfl⟩
    obtain ⟨E, hE⟩ : ∃ E, entT L x' = E := ⟨_, rfl⟩
    obtain ⟨Y, hY⟩ : ∃ Y, pre.foldl (stepC key d L) x = Y := ⟨_, rfl⟩
    obtain ⟨Z, hZ⟩ : ∃ Z, (pre ++ [x']).foldl (stepC key d L) x = Z := ⟨_, rfl⟩
    have hstep : (if bitS key (d + q) = 1 then joinN E Y else joinN Y E) = Z := by
      rw [← hZ, List.foldl_append, hY, ← hq, ← hE]
      rfl
    have hyf : Y.size ≤ 1000 := by rw [← hY]; exact fold_few key d L HS.out pre x HX.out
    have hef : E.size ≤ 1000 := by rw [← hE]; exact entT_few L x' HS.out
    rw [hq, hE]
    rw [hq] at hml
    rw [hY] at b1 cx
    have hbit := Lib.hid (fun (w0 : World) => bit_any key (by have := HK.out; unfold maxLen; omega) (d + q) (by have := HD.out; omega) w0)
    rw [Int.natCast_add] at hbit
    have hj1 := Lib.hid (fun (w0 : World) (g : w.grownBy w0 none) => join_any E Y (by omega) (by omega) w0 (HR.out.grown g))
    have hj2 := Lib.hid (fun (w0 : World) (g : w.grownBy w0 none) => join_any Y E (by omega) (by omega) w0 (HR.out.grown g))
    have HST := Lib.hid hstep
    have HZ := Lib.hid hZ
    have HD2 : Hid (d + q ≤ 128) := Lib.hid (by have := HD.out; omega)
    have hw1 : IntKind.i64.wrap ((d : Int) + (q : Int)) = ((d + q : Nat) : Int) := by rw [IntWalk.i64_in _ (by have := HD2.out; omega)]; rfl
    clear hY hZ hE hq hstep hyf hef hml
    have hpost : ∀ w3 : World, W.grownBy w3 none → KeepsFrom W4.heap.size W (w3.setCell ⟨n, 0, none⟩ (.string Z)) ∧ Turn (butOne (n + 4) n) W (w3.setCell ⟨n, 0, none⟩ (.string Z)) ∧ ((Boxed (w3.setCell ⟨n, 0, none⟩ (.string Z)) n 9 (.string ((pre ++ [x']).foldl (stepC key d L) x)) ∧ Boxed (w3.setCell ⟨n, 0, none⟩ (.string Z)) (n + 1) 9 (.string key) ∧ Boxed (w3.setCell ⟨n, 0, none⟩ (.string Z)) (n + 1 + 1) 3 (.int .i64 (d : Nat))) ∧ Below n W4 (w3.setCell ⟨n, 0, none⟩ (.string Z))) := by
      intro w3 g3
      refine ⟨(KeepsFrom.of_grownBy g3 (fun j e => by cases e)).trans ((KeepsOthers.setCell _ _ _).from _), (Turn.of_grown g3).setCell (fun _ => Or.inr rfl) _ _, ⟨?_, (b2.kept g3 (by simp)).other (by omega) _, (b3.kept g3 (by simp)).other (by omega) _⟩, ?_⟩
      · rw [HZ.out]; exact (b1.kept g3 (by simp)).set _
      · exact (hB.grown g3 (by omega) (fun k e => by cases e)).setCell (p := ⟨n, 0, none⟩) (by simp) _
    have hbl : bitS key (d + q) ≤ 1 := bitS_le key (d + q)
    gi_wp2_with fail
    refine ⟨trivial, ((callsIn_wide (n := 3)).2 (hbit.out W)).inRound l |>.mono ?_⟩
    rintro e w2 ⟨rfl, g2⟩
    have ck2 : w2.cell? ⟨n, 0, none⟩ = some (.string Y) := g2.cell cx (by simp)
    have hf2 : w2.frozen? ⟨n, 0, none⟩ = false := (b1.kept g2 (by simp)).frozen
    have HG2 := Lib.hid g2
    clear g2
    by_cases h1 : bitS key (d + q) = 1
    · rw [if_pos h1] at HST
      rw [h1]
      clear hbl h1
      gi_wp2_with fail
      refine ⟨trivial, ((callsIn_wide (n := 3)).2 (hj1.out w2 (grownBy_trans hwW HG2.out))).inRound l |>.mono ?_⟩
      rintro e w3 ⟨rfl, g3⟩
      have g23 := grownBy_trans HG2.out g3
      have ck3 : w3.cell? ⟨n, 0, none⟩ = some (.string Y) := g3.cell ck2 (by simp)
      have hf3 : w3.frozen? ⟨n, 0, none⟩ = false := (b1.kept g23 (by simp)).frozen
      gi_wp2_with fail
      rw [HST.out]
      exact hpost w3 g23
    · have h0 : bitS key (d + q) = 0 := by omega
      rw [if_neg h1] at HST
      rw [h0]
      clear hbl h1 h0
      gi_wp2_with fail
      refine ⟨trivial, ((callsIn_wide (n := 3)).2 (hj2.out w2 (grownBy_trans hwW HG2.out))).inRound l |>.mono ?_⟩
      rintro e w3 ⟨rfl, g3⟩
      have g23 := grownBy_trans HG2.out g3
      have ck3 : w3.cell? ⟨n, 0, none⟩ = some (.string Y) := g3.cell ck2 (by simp)
      have hf3 : w3.frozen? ⟨n, 0, none⟩ = false := (b1.kept g23 (by simp)).frozen
      gi_wp2_with fail
      rw [HST.out]
      exact hpost w3 g23
  case done =>
    rintro D' xs W hD rfl ⟨⟨b1, b2, b3⟩, hB⟩ hK
    have cx := b1.cell
    rw [fold_climbed key d L x _ (Nat.le_refl _), climbed_all] at cx
    go_wp2_with fail
    refine ⟨by simp, .inl ⟨_, _, rfl, run_takeDeferred hK, ?_⟩⟩
    refine ⟨_, results_climb rfl, rfl, ?_⟩
    rw [HN.out]
    exact read_put (hB4.trans hB) (by omega)
  case stop =>
    rintro D' c pre W _ _ h
    exact h.elim
end Go.Proofs.YtheabbknflmnfaaDoor

namespace Go.Proofs.YtheabbknflmnfaaDoor
open Go.RowKit Go.Maps
attribute [local irreducible] shaL

theorem str_same (a b : ByteArray) : (a.toList == b.toList) = decide (a = b) := by
  rw [ByteArray.toList_eq, ByteArray.toList_eq, Bool.eq_iff_iff, beq_iff_eq, decide_eq_true_iff]
  exact ⟨fun h => ByteArray.ext (Array.toList_inj.1 h), fun h => by rw [h]⟩
def tellsB (L : List ByteArray) (t : Bool) (pk pv node key : ByteArray) (d : Nat) : Bool := goodB L t pk pv key d && decide (climbN key d L (if t then leafS pk pv else emptyS) = node)
set_option maxRecDepth 100000 in
set_option maxHeartbeats 3200000 in
theorem tells_fine (v : Value) (L : List ByteArray) (t : Bool) (pk pv node key : ByteArray) (d : Nat) (w : World) (hr : ShaReady w) (hv : StrsAt w v L) (hs : ∀ s ∈ L, s.size ≤ maxLen) (hk : key.size = 16) (hd : d + L.length ≤ 128) (hpk : pk.size ≤ 1000) (hpv : pv.size ≤ 1000)
    (hC : ∀ (x : ByteArray) (w' : World), x.size ≤ 17 → w.grownBy w' none → Calls Tryd.prog 53 #[.string x, .string key, .int .i64 d, v] w' fun e w'' => e = .returned (.string (climbN key d L x)) ∧ w'.grownBy w'' none) :
    Calls Tryd.prog 54 #[.agg #[v, .bool t, .string pk, .string pv], .string node, .string key, .int .i64 d] w fun e w' => e = .returned (.bool (tellsB L t pk pv node key d)) ∧ w.grownBy w' none := by
  have HGOOD := Lib.hid (fun (w' : World) (q : w.grownBy w' none) => good_fine v L t pk pv key d w' (strs_grown hv q) hs hk hd (by unfold maxLen; omega))
  have HNODE := Lib.hid (fun (w' : World) (q : w.grownBy w' none) => pnode_fine v L t pk pv key d w' (hr.grown q) (strs_grown hv q) hs hk hd hpk hpv (fun x w'' hx q2 => hC x w'' hx (grownBy_trans q q2)))
  have HT := Lib.hid (show tellsB L t pk pv node key d = (goodB L t pk pv key d && decide (climbN key d L (if t then leafS pk pv else emptyS) = node)) from rfl)
  generalize tellsB L t pk pv node key d = TB at HT ⊢
  generalize climbN key d L (if t then leafS pk pv else emptyS) = R at HNODE HT
  generalize goodB L t pk pv key d = G at HGOOD HNODE HT
  have hg1 : w.grownBy (w.alloc (.cells #[v, .bool t, .string pk, .string pv] 51)) none := World.grownBy_alloc _ _ _
  have hb1 := heap_alloc_at w (.cells #[v, .bool t, .string pk, .string pv] 51) _ rfl
  have es := str_same R node
  clear hr hv hs hk hd hpk hpv hC
  go_enter Tryd.func54, Tryd.ntmps54
  go_wp2_with fail
  refine (HGOOD.out _ hg1).mono ?_
  rintro e w2 ⟨rfl, g2⟩
  have hb2 := g2.heap hb1 (by simp)
  have hg2 := grownBy_trans hg1 g2
  obtain ⟨XB, hXB⟩ : ∃ XB, w.heap.size = XB := ⟨_, rfl⟩
  rw [hXB] at hb2 ⊢
  have x0 := cell_of hb2 0
  have x1 := cell_of hb2 1
  have x2 := cell_of hb2 2
  have x3 := cell_of hb2 3
  simp at x0 x1 x2 x3
  have HG2 := Lib.hid hg2
  clear hg1 hb1 hXB g2 hg2 hb2 HGOOD
  cases G
  · have HE : Hid (TB = false) := Lib.hid (by rw [HT.out]; rfl)
    clear es
    go_wp2_with fail
    go_ret
    exact ⟨by rw [HE.out]; rfl, HG2.out⟩
  · have HE : Hid (TB = (R.toList == node.toList)) := Lib.hid (by rw [HT.out, es]; simp)
    clear es
    go_wp2_with fail
    refine (HNODE.out _ HG2.out).mono ?_
    rintro e w3 ⟨rfl, g3⟩
    have HG3 := Lib.hid (grownBy_trans HG2.out g3)
    clear g3
    go_wp2_with fail
    go_ret
    exact ⟨by rw [HE.out]; rfl, HG3.out⟩
set_option maxRecDepth 100000 in
set_option maxHeartbeats 3200000 in
theorem has_fine (v : Value) (L : List ByteArray) (t : Bool) (pk pv node key value : ByteArray) (d : Nat) (w : World) (hr : ShaReady w) (hv : StrsAt w v L) (hs : ∀ s ∈ L, s.size ≤ maxLen) (hk : key.size = 16) (hd : d + L.length ≤ 128) (hpk : pk.size ≤ 1000) (hpv : pv.size ≤ 1000)
    (hC : ∀ (x : ByteArray) (w' : World), x.size ≤ 17 → w.grownBy w' none → Calls Tryd.prog 53 #[.string x, .string key, .int .i64 d, v] w' fun e w'' => e = .returned (.string (climbN key d L x)) ∧ w'.grownBy w'' none) :
    Calls Tryd.prog 31 #[.agg #[v, .bool t, .string pk, .string pv], .string node, .string key, .string value, .int .i64 d] w fun e w' => e = .returned (.bool (tellsB L t pk pv node key d && t && decide (pk = key) && decide (pv = value))) ∧ w.grownBy w' none := by
  have HTELL := Lib.hid (fun (w' : World) (q : w.grownBy w' none) => tells_fine v L t pk pv node key d w' (hr.grown q) (strs_grown hv q) hs hk hd hpk hpv (fun x w'' hx q2 => hC x w'' hx (grownBy_trans q q2)))
  generalize tellsB L t pk pv node key d = TB at HTELL ⊢
  have hg1 : w.grownBy (w.alloc (.cells #[v, .bool t, .string pk, .string pv] 51)) none := World.grownBy_alloc _ _ _
  have hb1 := heap_alloc_at w (.cells #[v, .bool t, .string pk, .string pv] 51) _ rfl
  have ek := str_same pk key
  have ev := str_same pv value
  rw [← ek, ← ev]
  clear ek ev
  obtain ⟨q1, hq1⟩ : ∃ q, (pk.toList == key.toList) = q := ⟨_, rfl⟩
  obtain ⟨q2, hq2⟩ : ∃ q, (pv.toList == value.toList) = q := ⟨_, rfl⟩
  rw [hq1, hq2]
  clear hr hv hs hk hd hpk hpv hC
  go_enter Tryd.func31, Tryd.ntmps31
  go_wp2_with fail
  refine (HTELL.out _ hg1).mono ?_
  rintro e w2 ⟨rfl, g2⟩
  have hb2 := g2.heap hb1 (by simp)
  have hg2 := grownBy_trans hg1 g2
  obtain ⟨XB, hXB⟩ : ∃ XB, w.heap.size = XB := ⟨_, rfl⟩
  rw [hXB] at hb2 ⊢
  have x0 := cell_of hb2 0
  have x1 := cell_of hb2 1
  have x2 := cell_of hb2 2
  have x3 := cell_of hb2 3
  simp at x0 x1 x2 x3
  have HG2 := Lib.hid hg2
  clear hg1 hb1 hXB g2 hg2 hb2 HTELL
  cases TB
  · cases t
    · go_wp2_with fail
      go_ret
      exact ⟨by rfl, HG2.out⟩
    · go_wp2_with fail
      go_ret
      exact ⟨by rfl, HG2.out⟩
  · cases t
    · go_wp2_with fail
      go_ret
      exact ⟨by rfl, HG2.out⟩
    · cases q1
      · go_wp2_with fail
        go_ret
        exact ⟨by rfl, HG2.out⟩
      · cases q2
        · go_wp2_with fail
          go_ret
          exact ⟨by rfl, HG2.out⟩
        · go_wp2_with fail
          go_ret
          exact ⟨by rfl, HG2.out⟩
set_option maxRecDepth 100000 in
set_option maxHeartbeats 3200000 in
theorem lacks_fine (v : Value) (L : List ByteArray) (t : Bool) (pk pv node key : ByteArray) (d : Nat) (w : World) (hr : ShaReady w) (hv : StrsAt w v L) (hs : ∀ s ∈ L, s.size ≤ maxLen) (hk : key.size = 16) (hd : d + L.length ≤ 128) (hpk : pk.size ≤ 1000) (hpv : pv.size ≤ 1000)
    (hC : ∀ (x : ByteArray) (w' : World), x.size ≤ 17 → w.grownBy w' none → Calls Tryd.prog 53 #[.string x, .string key, .int .i64 d, v] w' fun e w'' => e = .returned (.string (climbN key d L x)) ∧ w'.grownBy w'' none) :
    Calls Tryd.prog 32 #[.agg #[v, .bool t, .string pk, .string pv], .string node, .string key, .int .i64 d] w fun e w' => e = .returned (.bool (tellsB L t pk pv node key d && (!t || !decide (pk = key)))) ∧ w.grownBy w' none := by
  have HTELL := Lib.hid (fun (w' : World) (q : w.grownBy w' none) => tells_fine v L t pk pv node key d w' (hr.grown q) (strs_grown hv q) hs hk hd hpk hpv (fun x w'' hx q2 => hC x w'' hx (grownBy_trans q q2)))
  generalize tellsB L t pk pv node key d = TB at HTELL ⊢
  have hg1 : w.grownBy (w.alloc (.cells #[v, .bool t, .string pk, .string pv] 51)) none := World.grownBy_alloc _ _ _
  have hb1 := heap_alloc_at w (.cells #[v, .bool t, .string pk, .string pv] 51) _ rfl
  have ek := str_same pk key
  rw [← ek]
  clear ek
  obtain ⟨q1, hq1⟩ : ∃ q, (pk.toList == key.toList) = q := ⟨_, rfl⟩
  rw [hq1]
  clear hr hv hs hk hd hpk hpv hC
  go_enter Tryd.func32, Tryd.ntmps32
  go_wp2_with fail
  refine (HTELL.out _ hg1).mono ?_
  rintro e w2 ⟨rfl, g2⟩
  have hb2 := g2.heap hb1 (by simp)
  have hg2 := grownBy_trans hg1 g2
  obtain ⟨XB, hXB⟩ : ∃ XB, w.heap.size = XB := ⟨_, rfl⟩
  rw [hXB] at hb2 ⊢
  have x0 := cell_of hb2 0
  have x1 := cell_of hb2 1
  have x2 := cell_of hb2 2
  have x3 := cell_of hb2 3
  simp at x0 x1 x2 x3
  have HG2 := Lib.hid hg2
  clear hg1 hb1 hXB g2 hg2 hb2 HTELL
  cases TB
  · cases t
    · go_wp2_with fail
      go_ret
      exact ⟨by rfl, HG2.out⟩
    · go_wp2_with fail
      go_ret
      exact ⟨by rfl, HG2.out⟩
  · cases t
    · go_wp2_with fail
      go_ret
      exact ⟨by rfl, HG2.out⟩
    · cases q1
      · go_wp2_with fail
        go_ret
        exact ⟨by rfl, HG2.out⟩
      · go_wp2_with fail
        go_ret
        exact ⟨by rfl, HG2.out⟩
end Go.Proofs.YtheabbknflmnfaaDoor
