/- Read, where there is an error; slices.Backward over what waits. -/
import Derived.Test.YtfomchkmedoenaaSecX
import Derived.RangeFuncNested
import Derived.RangeFuncBound
import Derived.RangeFuncCalls
import Derived.RangeFuncLeaves
import Derived.Shelf.Abstract
import Derived.Shelf.RegionOpen
import Derived.OwnWalkIn
import Derived.TacticsInMore
import Derived.LoopNIn
import Derived.LoopIn
namespace Go.Proofs.Ytfomchkmedoenaa
open Go.RowKit Go.Shelf

attribute [local go_sem] Oper.semAt_some

theorem grown3S {w : World} (a b c : Obj) : w.grownBy (((w.alloc a).alloc b).alloc c) none := grownBy_alloc' (grownBy_alloc' (World.grownBy_alloc _ _ _) _) _
theorem read_nil (i : Int) (w : World) : Calls Try.prog 9 #[.pointer none, .int .i64 i] w fun e w' => e = .returned (.tuple #[.string ⟨#[]⟩, .int .i64 1]) ∧ w.grownBy w' none := by
  go_enter Try.func9, Try.ntmps9
  go_wp2_with fail
  refine (reaches_nil i _).mono ?_
  rintro e w1 ⟨rfl, rfl⟩
  go_wp2_with fail
  go_returns
  exact ⟨rfl, grown3S _ _ _⟩
theorem read_off (F : Nat → Prop) (b : Nat) (D : DiskS) (i : Int) (w : World) (hm : DiskAt F w b D) (h : D.on = false) : Calls Try.prog 9 #[.pointer (some ⟨b, 0, none⟩), .int .i64 i] w fun e w' => e = .returned (.tuple #[.string ⟨#[]⟩, .int .i64 8]) ∧ w.grownBy w' none := by
  have C := Lib.hid (fun w' (g : w.grownBy w' none) => reaches_at_off F b D i w' (hm.grown g) h)
  clear hm h
  go_enter Try.func9, Try.ntmps9
  go_wp2_with fail
  refine (C.out _ (grown3S _ _ _)).mono ?_
  rintro e w1 ⟨rfl, rfl⟩
  go_wp2_with fail
  go_returns
  exact ⟨rfl, grown3S _ _ _⟩
theorem read_out (F : Nat → Prop) (b : Nat) (D : DiskS) (i : Int) (w : World) (hm : DiskAt F w b D) (h : D.on = true) (hi : i < 0 ∨ (D.last.length : Int) ≤ i) : Calls Try.prog 9 #[.pointer (some ⟨b, 0, none⟩), .int .i64 i] w fun e w' => e = .returned (.tuple #[.string ⟨#[]⟩, .int .i64 10]) ∧ w.grownBy w' none := by
  have C := Lib.hid (fun w' (g : w.grownBy w' none) => reaches_at_out F b D i w' (hm.grown g) h hi)
  clear hm h hi
  go_enter Try.func9, Try.ntmps9
  go_wp2_with fail
  refine (C.out _ (grown3S _ _ _)).mono ?_
  rintro e w1 ⟨rfl, rfl⟩
  go_wp2_with fail
  go_returns
  exact ⟨rfl, grown3S _ _ _⟩

/-! ### slices.Backward -/
theorem wpListIn_load_mid {F : Fence} {n : Nat} {P : Program} {ops : Array Oper} {rest : List Oper} {o : Oper} {a : Act} {w : World} {Q : Exit → Act → World → Prop} (hgd : o.guard = none) (ty : TypeId) (x : Operand) (ho : o.op = .load ty x)
    (b f : Nat) (hx : a.eval x = .pointer (some ⟨b, f, none⟩)) (cs : List Value) (d : TypeDesc) (hc : w.rangeAt b f cs)
    (hu : P.underlying ty = some d) (hd : d.isRow = true) (hi : (P.info? ty).map (·.size) = some cs.length)
    (h : wpListIn F n P ops Q rest (a.put o.dst (.agg cs.toArray)) w) : wpListIn F n P ops Q (o :: rest) a w := by
  refine wpListIn_plain hgd fun K hK => ?_
  unfold Oper.wpIn
  refine ⟨?_, ?_⟩
  · simp [Oper.about, ho]
  · rw [Oper.semAt_plain F _ _ (by rw [ho]; intro c hc'; cases hc')]
    unfold execOp
    simp only [ho, hx, Instr.loadAt, Instr.sureAddr, Sem.run_bind, Sem.run_pure, Result.andThen_ok, run_loadVar_mid w b f ty cs d hc hu hd hi]
    exact hK _ _ h

/-- the k-th writing (behind the last one: noughts) -/
def ent (es : List (Nat × List UInt8)) (k : Nat) : Nat × List UInt8 := es.getD k (0, zeros 64)
theorem ent_at (es : List (Nat × List UInt8)) (k : Nat) (h : k < es.length) : ent es k = es[k] := by
  unfold ent
  rw [List.getD_eq_getElem?_getD, List.getElem?_eq_getElem h]
  rfl
theorem ent_len {N : Nat} (es : List (Nat × List UInt8)) (h : Waits N es) (k : Nat) : (ent es k).2.length = 64 := by
  by_cases hk : k < es.length
  · rw [ent_at es k hk]; exact (h _ (List.getElem_mem hk)).2
  · unfold ent; rw [List.getD_eq_getElem?_getD, List.getElem?_eq_none (by omega)]; rfl

theorem backward_any (a : Option Addr) (n c : Nat) (w : World) : Calls Try.prog 19 #[.slice a n c] w fun e w' => e = .returned (.func (.func 25) #[] #[.pointer (some ⟨w.heap.size, 0, none⟩)]) ∧ w.alloc (.cells #[.slice a n c] 47) = w' := by
  go_enter Try.func19, Try.ntmps19
  go_wp2_with fail
  go_ret
  exact ⟨rfl, rfl⟩

set_option maxRecDepth 100000 in
set_option maxHeartbeats 2000000 in
theorem backward1_in (F : Fence) (n : Nat) (h27 : F.fn 25) (hro : F.round = none) (hn : 1 ≤ n) (l Bs n₀ N gw cw m : Nat) (es : List (Nat × List UInt8)) (hm : es.length = m) (hes : Waits N es) (hlen : m ≤ 1000000000) (hBs : Bs < n₀) (hgw : gw < n₀) (J Jx : List Nat → World → Prop)
    (hY : ∀ pre x W, J pre W → pre.length < m → YieldAt F (n - 1) Try.prog l #[.int .i64 (x : Nat), .agg (wcells (ent es x)).toArray] W fun e W' =>
      (e = .returned (.bool true) ∧ J (pre ++ [x]) W' ∧ Below n₀ W W') ∨ (e = .returned (.bool false) ∧ Jx (pre ++ [x]) W'))
    (W : World) (hBc : W.cell? ⟨Bs, 0, none⟩ = some (.slice (some ⟨gw, 0, none⟩) m cw)) (hv : W.ownsRow 0 57 65 (.slice (some ⟨gw, 0, none⟩) m cw) m (wflat es)) (h0 : J [] W) :
    CallsIn F n Try.prog 25 #[.func (.yield l) #[] #[], .pointer (some ⟨Bs, 0, none⟩)] W fun e W' => (∃ v, e = .returned v) ∧
      ((∃ ys, ys = downs m m ∧ J ys W') ∨ (∃ pre, (∃ k, k < m ∧ pre = downs m (k + 1)) ∧ Jx pre W')) := by
  have hu61 := Try.underlying57
  refine callsIn_of_wp Try.func25 rfl h27 ?_ hro
  simp only [Try.ntmps25, List.size_toArray, List.length_cons, List.length_nil, Nat.reduceAdd, Nat.reduceSub, Array.replicate_succ, Array.replicate_zero, List.push_toArray, List.append_toArray, List.nil_append, List.cons_append]
  gi_wp2
  gi_loopw [3] (fun i wr => ∃ (z : Int) (r : Nat), i = .int .i64 z ∧ Hid (z = (r : Int) - 1) ∧ r ≤ m ∧ J (downs m (m - r)) wr ∧ Below n₀ W wr)
    (fun i _ => (intOf i + 1).toNat)
  case atStart => exact ⟨_, m, rfl, rfl, Nat.le_refl _, by rw [Nat.sub_self]; exact h0, Below.refl _ _⟩
  case round =>
    obtain ⟨z, r, rfl, HZ, hr, hJs, hnx⟩ := hrel
    have hBc' : wr.cell? ⟨Bs, 0, none⟩ = some (.slice (some ⟨gw, 0, none⟩) m cw) := (hnx.cell (p := ⟨Bs, 0, none⟩) hBs).trans hBc
    cases r with
    | zero =>
      obtain rfl : z = -1 := by have := HZ.out; omega
      gi_wp2
      go_end0
      exact ⟨⟨_, rfl⟩, .inl ⟨_, rfl, by simpa using hJs⟩⟩
    | succ r =>
      obtain rfl : z = (r : Int) := by have := HZ.out; omega
      have hrm : r < m := hr
      have z0 : (0 : Int) ≤ (r : Int) := by omega
      have z1 : (r : Int) < (m : Int) := by omega
      have hxl := wcells_length (ent es r) (ent_len es hes r)
      have HC : Hid (wr.rangeAt gw (r * 65) (wcells (ent es r))) := by
        intro j v hv'
        have hj : j < 65 := by rw [← hxl]; exact (List.getElem?_eq_some_iff.1 hv').1
        have h2 : (r + 1) * 65 ≤ m * 65 := Nat.mul_le_mul_right 65 hrm
        have hre : r < es.length := by omega
        rw [hnx.cell (p := ⟨gw, r * 65 + j, none⟩) hgw, World.ownsRow.cellAt hv (r * 65 + j) (by omega)]
        refine (wflat_at es hes r hre j hj).trans ?_
        rw [← ent_at es r hre]
        exact hv'
      have HI : Hid ((Try.prog.info? 57).map (·.size) = some (wcells (ent es r)).length) := by
        show _ = _
        rw [hxl]; kernel_rfl
      obtain ⟨fn, tmps, assign, body, hy, hR⟩ := hY _ r wr hJs (by rw [downs_length]; omega)
      clear hxl
      gi_wp2_with (refine wpListIn_load_mid (by rfl) 57 (.tmp 15) (by rfl) gw (r * 65) (by rfl) _ _ HC.out hu61 (by rfl) HI.out ?_)
      have hpre : downs m (m - (r + 1)) ++ [r] = downs m (m - r) := by
        have e1 : m - r = (m - (r + 1)) + 1 := by clear HI HC; omega
        have e2 : m - 1 - (m - (r + 1)) = r := by clear HI HC; omega
        rw [e1, downs_succ, e2]
      refine hR.mono ?_
      rintro e W3 (⟨rfl, hJ3, hk3⟩ | ⟨rfl, hJx3⟩)
      · rw [hpre] at hJ3
        gi_wp2
        go_roundw
        case rel => exact ⟨_, r, rfl, rfl, by omega, hJ3, hnx.trans hk3⟩
        case measure => simp [intOf]
      · gi_wp2
        refine bodyPost_ret (results_none rfl _ _ _) rfl ?_
        exact ⟨⟨_, rfl⟩, .inr ⟨_, ⟨m - (r + 1), by omega, by rw [hpre, show m - r = m - (r + 1) + 1 from by omega]⟩, hJx3⟩⟩

set_option maxRecDepth 100000 in
set_option maxHeartbeats 1000000 in
theorem backward0_in (F : Fence) (n : Nat) (h27 : F.fn 25) (hro : F.round = none) (l Bs : Nat) (J : List Nat → World → Prop)
    (W : World) (hBc : W.cell? ⟨Bs, 0, none⟩ = some (.slice none 0 0)) (h0 : J [] W) :
    CallsIn F n Try.prog 25 #[.func (.yield l) #[] #[], .pointer (some ⟨Bs, 0, none⟩)] W fun e W' => (∃ v, e = .returned v) ∧ J [] W' := by
  refine callsIn_of_wp Try.func25 rfl h27 ?_ hro
  simp only [Try.ntmps25, List.size_toArray, List.length_cons, List.length_nil, Nat.reduceAdd, Nat.reduceSub, Array.replicate_succ, Array.replicate_zero, List.push_toArray, List.append_toArray, List.nil_append, List.cons_append]
  gi_wp2
  gi_loopw [3] (fun i wr => i = .int .i64 (-1) ∧ J [] wr) (fun _ _ => 0)
  case atStart => exact ⟨rfl, h0⟩
  case round =>
    obtain ⟨rfl, hJs⟩ := hrel
    gi_wp2
    go_end0
    exact ⟨⟨_, rfl⟩, hJs⟩

/-- what a range over slices.Backward(s) hands on -/
def encW (es : List (Nat × List UInt8)) (x : Nat) : Array Value := #[.int .i64 (x : Nat), .agg (wcells (ent es x)).toArray]
theorem backward_stops (F : Fence) (n : Nat) (h27 : F.fn 25) (hro : F.round = none) (hn : 1 ≤ n) (Bs n₀ N : Nat) (v : Value) (es : List (Nat × List UInt8)) (hes : Waits N es) (hlen : es.length ≤ 1000000000) (w : World) (hBs : Bs < n₀) (hn₀ : n₀ ≤ w.heap.size)
    (hc : w.cell? ⟨Bs, 0, none⟩ = some v) (hv : w.ownsRow 0 57 65 v es.length (wflat es)) (hvn : ∀ g, v.ownBlock = some g → g < n₀) :
    SeqStopsK F n Try.prog 25 #[.pointer (some ⟨Bs, 0, none⟩)] (encW es) (Below n₀) (fun ys => ys = downs es.length es.length) (fun pre => ∃ k, k < es.length ∧ pre = downs es.length (k + 1)) es.length w := fun l J Jx W hW _ _ hY h0 => by
  have hc' := (hW.cell (p := ⟨Bs, 0, none⟩) (Nat.lt_of_lt_of_le hBs hn₀)).trans hc
  have hv' : W.ownsRow 0 57 65 v es.length (wflat es) := by
    refine ⟨hv.1, ?_⟩
    rcases hv.2 with h | ⟨g, cap, cur, rfl, hb, hg, r⟩
    · exact .inl h
    · refine .inr ⟨g, cap, cur, rfl, hb, ?_, r⟩
      rw [hW.block g (Array.getElem?_eq_some_iff.1 hg).1]
      exact hg
  rcases own_form hv with ⟨rfl, hz⟩ | ⟨gw, cw, rfl⟩
  · refine (backward0_in F n h27 hro l Bs J W hc' h0).mono ?_
    rintro e W' ⟨he, hj⟩
    exact ⟨he, .inl ⟨_, by rw [hz]; rfl, hj⟩⟩
  · refine (backward1_in F n h27 hro hn l Bs n₀ N gw cw es.length es rfl hes hlen hBs (hvn gw rfl) J Jx hY W hc' hv' h0).mono ?_
    rintro e W' ⟨he, ⟨ys, rfl, hj⟩ | ⟨pre, hk, hj⟩⟩
    · exact ⟨he, .inl ⟨_, rfl, hj⟩⟩
    · exact ⟨he, .inr ⟨_, hk, hj⟩⟩
end Go.Proofs.Ytfomchkmedoenaa
