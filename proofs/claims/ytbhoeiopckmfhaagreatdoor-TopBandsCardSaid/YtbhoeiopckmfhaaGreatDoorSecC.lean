/- The walk of Cut. -/
import Derived.Test.YtbhoeiopckmfhaaGreatDoorTopBandsB2
import Derived.Deep.RegionLaw
import Derived.Deep.MidRow
import Derived.Great.BuildSlice
import Derived.LoopTactic
import Derived.RegionTactic
import Derived.Laws.CopyOwn
import Derived.Deep.WholeRow
import Derived.IntWalk
import Derived.Deep.DeepCutAuto
import Derived.Deep.CutBlock
import Derived.Deep.RegionHeld3
namespace Go.Proofs.YtbhoeiopckmfhaaGreatDoor
open Go.RowKit

/-- a slice that holds these bytes -/
def BytesAt (w : World) (v : Value) (l : List UInt8) : Prop :=
  ∃ a cap, v = .slice a l.length cap ∧ ∀ i (h : i < l.length), ∃ g o, a = some ⟨g, o, none⟩ ∧ w.cell? ⟨g, o + i, none⟩ = some (.int .u8 (l[i]).toNat)

/-- a copy into a block, as one step of a region that draws: nothing else turns -/
theorem step_copy_row {P : Program} {ops : Array Oper} {o : Oper} {a : Act} {w : World} {K : Act → World → Prop} {Q : Exit → Act → World → Prop} {E : Prop} (hgd : o.guard = none) (d s : Operand) (dT sT : TypeId)
    (ho : o.op = .call { callee := .builtin .copy, args := #[d, s], argTypes := #[dT, sT] }) (elem : TypeId) (hu : P.underlying dT = some (.slice elem)) (hsz : (P.info? elem).map (·.size) = some 1)
    (dp sp : Option Addr) (dLen dCap sLen sCap : Nat) (hd : a.eval d = .slice dp dLen dCap) (hs : a.eval s = .slice sp sLen sCap)
    (g off : Nat) (cur : List Value) (t : TypeId) (hg : w.heap[g]? = some (.cells cur.toArray t (0, 0))) (cs : List Value) (hn : cs.length = Nat.min sLen dLen)
    (hpos : 0 < cs.length → dp = some ⟨g, off, none⟩ ∧ ∃ ad, sp = some ad ∧ ∀ j v, cs[j]? = some v → w.cell? (ad.add j) = some v)
    (hfit : off + cs.length ≤ cur.length) (h1 : ∀ v ∈ cs, v.oneCell' = true)
    (h : ∀ w', Hid (w'.heap[g]? = some (.cells (splice cur off cs).toArray t (0, 0))) → w.grownBy w' (some g) → K (a.put o.dst (goInt cs.length)) w') :
    if Region.wanted o (yielded ops a.tmps) = true then Oper.wp P o a w K Q else E := by
  have hw : Region.wanted o (yielded ops a.tmps) = true := by simp [Region.wanted, hgd]
  rw [if_pos hw]
  by_cases h0 : cs.length = 0
  · obtain rfl : cs = [] := List.eq_nil_of_length_eq_zero h0
    have hrun := run_copy_none (P := P) w dT sT o.type elem dp sp dLen dCap sLen sCap hu hsz (by simpa using hn.symm)
    unfold Oper.wp
    simp [execOp, ho, resolve, invoke, builtin, hd, hs, hrun, Result.andThen]
    exact h w (show _ = _ by simpa [splice] using hg) (World.grownBy.refl _ _)
  · obtain ⟨rfl, ad, rfl, hsrc⟩ := hpos (by omega)
    have hrun := run_copy_row (P := P) w dT sT o.type elem g off dLen dCap ad sLen sCap cur.toArray t cs hu hsz hg hn hsrc (by simpa using hfit) h1
    unfold Oper.wp
    simp [execOp, ho, resolve, invoke, builtin, hd, hs, hrun, Result.andThen]
    exact h _ (show _ = _ by simpa [splice] using setRow_heap w g _ _ t _ hg) ⟨rfl, rfl, rfl, by simp [World.setRow], fun k _ hk => setRow_other w g k _ (by intro e; exact hk (by rw [e]))⟩

/-- a torn writing, laid over the cells -/
theorem splice_torn (L : List (List UInt8)) (rest : List Value) (q : Nat) (hs : Secs L) (hq : q < L.length) (y : List UInt8) (hy : y.length = 64) (p : Nat) (hp : p ≤ 64) :
    splice (bytesV (sflat L) ++ rest) (q * 64) ((bytesV y).take p) = bytesV (sflat (L.set q (tornL (L.getD q []) y p))) ++ rest := by
  have hl := sflat_length L hs
  have ht : ((bytesV y).take p).length = p := by rw [bytesV_take, bytesV_length, List.length_take]; omega
  have h1 : (q + 1) * 64 ≤ L.length * 64 := Nat.mul_le_mul_right 64 hq
  rw [sflat_set L hs q hq, List.getD_eq_getElem?_getD, List.getElem?_eq_getElem hq, Option.getD_some]
  unfold splice
  rw [ht, List.take_append_of_le_length (by rw [bytesV_length]; omega), List.drop_append_of_le_length (by rw [bytesV_length]; omega)]
  rw [bytesV_append, bytesV_append, bytesV_take, bytesV_take, bytesV_drop]
  simp only [List.append_assoc]
  congr 1
  unfold tornL
  rw [bytesV_append, List.append_assoc]
  congr 1
  rw [← List.append_assoc, ← bytesV_append]
  congr 2
  have hm := sflat_mid L hs q hq
  have hz : (L[q]).length = 64 := hs _ (List.getElem_mem hq)
  rw [← List.drop_drop]
  have e : (sflat L).drop (q * 64) = L[q] ++ (sflat L).drop (q * 64 + 64) := (congrArg (List.drop (q * 64)) hm).trans (List.drop_left' (by rw [List.length_take]; omega))
  rw [e, List.drop_append, hz, show p - 64 = 0 from by omega, List.drop_zero]
theorem addr_add (b o j : Nat) : (⟨b, o, none⟩ : Addr).add j = ⟨b, o + j, none⟩ := by unfold Addr.add; split <;> simp_all
theorem infoU8 : (Tryz.prog.info? 5).map (·.size) = some 1 := by kernel_rfl
theorem cut_nil (v : Value) (w : World) : Calls Tryz.prog 18 #[.pointer none, v] w fun e w' => e = .returned (.tuple #[]) ∧ w = w' := by
  go_enter Tryz.func18, Tryz.ntmps18
  go_wp2_with fail
  exact bodyPost_ret (results_none rfl _ _ _) rfl ⟨rfl, rfl⟩

theorem DiskMem.setHead {w w' : World} {b : Nat} {D : DiskS} {lv wv kv : Value} (h : DiskMem w b D lv wv kv) (k : Turn (fun i => i = b) w w') {on : Bool} {fuse : Int}
    (hd : w'.heap[b]? = some (.cells #[lv, wv, .bool on, .int .i64 fuse, kv] 101 (0, 0))) : DiskMem w' b { D with on := on, fuse := fuse } lv wv kv :=
  ⟨hd, own_turn h.last k (fun g e q => h.lb (by rw [e, q])), own_turn h.wait k (fun g e q => h.wb (by rw [e, q])), own_turn h.keep k (fun g e q => h.kb (by rw [e, q])), h.secs, h.waits, h.lb, h.wb, h.kb, h.lw, h.lk, h.wk⟩

theorem cut_step {b gl cl gw cw k m q p : Nat} {D : DiskS} {kv : Value} {ks : List UInt8} {L : List (List UInt8)} {y : List UInt8} {c : UInt8} {rest : List Value} {w2 w4 : World}
    (h : DiskMem w2 b { D with last := L } (.slice (some ⟨gl, 0, none⟩) D.last.length cl) (.slice (some ⟨gw, 0, none⟩) D.wait.length cw) kv) (hg : w2.grownBy w4 (some gl))
    (hr : w4.heap[gl]? = some (.cells (bytesV (sflat (L.set q (tornL (L.getD q []) y p))) ++ rest).toArray 126 (0, 0))) (hLl : L.length = D.last.length) (hq : q < L.length) (hy : y.length = 64) (hL : cutL D.last (D.wait.take k) ks = L)
    (hx : D.wait[k]? = some (q, y)) (hm : D.wait.length = m) (hk : k < ks.length) (hc : ks[k] = c) (hp : min c.toNat 64 = p) (hz : (bytesV (sflat L) ++ rest).length = cl * 64) (hcl : D.last.length ≤ cl) (hcm : cl ≤ maxLen) :
    DiskMem w4 b { D with last := cutL D.last (D.wait.take (k + 1)) ks } (.slice (some ⟨gl, 0, none⟩) D.last.length cl) (.slice (some ⟨gw, 0, none⟩) D.wait.length cw) kv := by
  have hkw : k < D.wait.length := (List.getElem?_eq_some_iff.1 hx).1
  have hxe : D.wait[k] = (q, y) := (List.getElem?_eq_some_iff.1 hx).2
  have hlen : (D.wait.take k).length = k := by rw [List.length_take]; omega
  have e : cutL D.last (D.wait.take (k + 1)) ks = L.set q (tornL (L.getD q []) y p) := by
    rw [← List.take_append_getElem hkw, cutL_snoc _ _ _ _ (by omega), hL, hxe]
    simp only [hlen]
    rw [hc, hp]
  rw [e]
  have t : Turn (fun i => i = gl) w2 w4 := (Turn.refl _ w2).row hg (fun i _ e => by cases e; rfl)
  have n1 : gl ≠ b := fun e => h.lb (by rw [e]; rfl)
  have n2 : gw ≠ gl := fun e => h.lw gl rfl (by rw [e]; rfl)
  have hp64 : p ≤ 64 := by omega
  have hs2 : Secs (L.set q (tornL (L.getD q []) y p)) := h.secs.set q (tornL_length _ _ _ (h.secs.at hq) hy)
  have hsz : (bytesV (sflat (L.set q (tornL (L.getD q []) y p))) ++ rest).length = cl * 64 := by
    rw [← hz, List.length_append, List.length_append, bytesV_length, bytesV_length, sflat_length _ hs2, sflat_length _ h.secs, List.length_set]
  have hl2 : (L.set q (tornL (L.getD q []) y p)).length = D.last.length := by rw [List.length_set, hLl]
  exact ⟨t.heap h.disk (fun e => n1 e.symm), (by show w4.ownsRow 0 _ 64 _ (L.set q (tornL (L.getD q []) y p)).length _; rw [hl2]; exact own_of hr hsz (by rw [bytesV_length, sflat_length _ hs2, hl2]) hcl hcm (Nat.zero_le _)), own_turn h.wait t (fun g e => by cases e; exact n2), own_turn h.keep t (fun g e q => h.lk gl rfl (by rw [e, q])), hs2, (by show Waits (L.set q (tornL (L.getD q []) y p)).length _; rw [hl2, ← hLl]; exact h.waits), h.lb, h.wb, h.kb, h.lw, h.lk, h.wk⟩

set_option maxHeartbeats 1000000 in
set_option maxRecDepth 100000 in
theorem cut_core (b gl cl gw cw : Nat) (D : DiskS) (kv : Value) (ka : Option Addr) (kc : Nat) (ks : List UInt8) (w : World)
    (hm : DiskMem w b D (.slice (some ⟨gl, 0, none⟩) D.last.length cl) (.slice (some ⟨gw, 0, none⟩) D.wait.length cw) kv) (hk : BytesAt w (.slice ka ks.length kc) ks) (hkl : ks.length ≤ 9223372036854775807) (hwl : D.wait.length ≤ 1000000000000)
    (hkg : 0 < ks.length → ∀ g o, ka = some ⟨g, o, none⟩ → g ≠ gl ∧ g ≠ b) :
    Calls Tryz.prog 18 #[.pointer (some ⟨b, 0, none⟩), .slice ka ks.length kc] w fun e w' => e = .returned (.tuple #[]) ∧
      DiskMem w' b ⟨cutL D.last D.wait ks, [], false, -1, []⟩ (.slice (some ⟨gl, 0, none⟩) D.last.length cl) (.slice none 0 0) (.slice none 0 0) ∧ Turn (fun i => i = b ∨ i = gl) w w' := by
  obtain ⟨n, hn⟩ : ∃ n, ks.length = n := ⟨_, rfl⟩
  obtain ⟨m, hmm⟩ : ∃ m, D.wait.length = m := ⟨_, rfl⟩
  have HM := Lib.hid hm
  have c1 : w.cell? ⟨b, 1, none⟩ = some (.slice (some ⟨gw, 0, none⟩) m cw) := by rw [cell_of hm.disk]; simp [hmm]
  have hmc : m ≤ cw := by obtain ⟨_, _, _, _, h, _⟩ := own_block hm.wait; omega
  rw [hn]
  obtain ⟨N, hN⟩ : ∃ N, min n m = N := ⟨_, rfl⟩
  have b2 : (0 : Int) ≤ (N : Int) := by omega
  have b3 : (N : Int) ≤ (cw : Int) := by omega
  have HNN := Lib.hid hN
  have HKS := Lib.hid hn
  have HWS := Lib.hid hmm
  have HK := Lib.hid hk
  rw [hn] at hkl
  rw [hmm] at hwl
  have hNm : N ≤ m := by omega
  have hNn : N ≤ n := by omega
  clear hm hk hN hn hmm
  go_enter Tryz.func18, Tryz.ntmps18
  go_upto_region 1 with (fail)
  go_cut [21, 22, 23] (fun v21 v22 v23 wx => v21 = .slice (some ⟨gw, 0, none⟩) N cw ∧ v22 = .int .i64 N ∧ v23 = .int .i64 0 ∧ Hid (w.grownBy wx none))
  case first =>
    by_cases hnm : n ≤ m
    · obtain rfl : N = n := by have := HNN.out; omega
      clear hNm hNn
      have b4 : (N : Int) ≤ (m : Int) := by omega
      go_region
      all_goals
        go_wp2_with fail
        go_meet
        case rel => exact ⟨by first | rfl | (congr 1; omega), by first | rfl | (congr 1; omega), by first | rfl | (congr 1; omega), grownBy_drew (World.grownBy.refl _ _)⟩
    · obtain rfl : N = m := by have := HNN.out; omega
      clear hNm hNn
      have b4 : ¬ (n : Int) ≤ (N : Int) := by omega
      have b5 : (N : Int) < (n : Int) := by omega
      go_region
      all_goals
        go_wp2_with fail
        go_meet
        case rel => exact ⟨by first | rfl | (congr 1; omega), by first | rfl | (congr 1; omega), by first | rfl | (congr 1; omega), grownBy_drew (World.grownBy.refl _ _)⟩
  case rest =>
    obtain ⟨rfl, rfl, rfl, HG0⟩ := hcut
    go_wp2_with fail
    go_loopw [4, 5, 6, 23] (fun _ _ _ iv wr => ∃ k : Nat, k ≤ N ∧ iv = .int .i64 k ∧ Hid (DiskMem wr b { D with last := cutL D.last (D.wait.take k) ks } (.slice (some ⟨gl, 0, none⟩) D.last.length cl) (.slice (some ⟨gw, 0, none⟩) D.wait.length cw) kv) ∧ Hid (Turn (fun i => i = b ∨ i = gl) w wr)) (fun _ _ _ iv _ => N - (intOf iv).toNat)
    case atStart => exact ⟨0, Nat.zero_le _, rfl, by rw [List.take_zero, cutL]; exact HM.out.turn (S := fun _ => False) (Turn.of_grown HG0.out) (fun q => q) (fun _ _ q => q) (fun _ _ q => q) (fun _ _ q => q), Turn.of_grown HG0.out⟩
    case round =>
      obtain ⟨k, hk, rfl, HD, HT⟩ := hrel
      by_cases hlt : k < N
      · have hx := HD.out.waits
        obtain ⟨x, hxe⟩ : ∃ x, D.wait[k]? = some x := ⟨_, List.getElem?_eq_getElem (by have := HWS.out; omega)⟩
        have hkn : k < ks.length := by have := HKS.out; omega
        have d1 : (k : Int) < (N : Int) := by omega
        have d2 : (k : Int) < (n : Int) := by omega
        have d0 : (0 : Int) ≤ (k : Int) := by omega
        have hxl := wcells_length x (hx x (List.mem_of_getElem? hxe)).2
        have HC : Hid (wr.rangeAt gw (k * 65) (wcells x)) := by
          intro j v hv
          have hj : j < 65 := by rw [← hxl]; exact (List.getElem?_eq_some_iff.1 hv).1
          have hkw : k < D.wait.length := by have := HWS.out; omega
          have h2 : (k + 1) * 65 ≤ D.wait.length * 65 := Nat.mul_le_mul_right 65 hkw
          rw [World.ownsRow.cellAt HD.out.wait (k * 65 + j) (by show k * 65 + j < D.wait.length * 65; omega)]
          refine (wflat_at D.wait hx k hkw j hj).trans ?_
          rw [(List.getElem?_eq_some_iff.1 hxe).2]
          exact hv
        have HI : Hid ((Tryz.prog.info? 128).map (·.size) = some (wcells x).toArray.size) := by
          show _ = _
          rw [List.size_toArray, hxl]; kernel_rfl
        have H1 : Hid ((wcells x).toArray.all (·.oneCell') = true) := all_oneCell_toArray (wcells_one x)
        have HL0 : Hid ((wcells x).toArray.size = 65) := by show _ = _; rw [List.size_toArray, hxl]
        clear hxl
        have hz1 := wZ_size
        have hz2 := wZ_ne
        have hz3 := zero_writing
        go_upto_region 4 with (first
          | (refine wpList_load_mid (by rfl) 128 (.tmp 26) (by rfl) gw (k * 65) (by rfl) _ _ HC.out Tryz.underlying128 (by rfl) (by exact HI.out) ?_)
          | (refine wpList_store_rowTo (by rfl) 128 (.tmp 5) (.tmp 27) (by rfl) (by rfl) wr.heap.size (wcells x).toArray (by rfl) (by rfl) 128 _ (heap_alloc_new wr _) HI.out (by exact HL0.out.symm) H1.out ?_))
        generalize hW : World.setRow (World.alloc wr _) wr.heap.size _ = w2
        rw [World.setRow_alloc_new] at hW
        have g2 : wr.grownBy w2 none := by rw [← hW]; exact World.grownBy_alloc _ _ _
        have hA : w2.heap[wr.heap.size]? = some (.cells (wcells x).toArray 128 (0, 0)) := by rw [← hW]; exact heap_alloc_at _ _ _ rfl
        clear hW hz1 hz2 hz3
        have hgl : gl < wr.heap.size := (HD.out.last.lt gl rfl).2
        generalize wr.heap.size = A at *
        have HA := Lib.hid hA
        obtain ⟨L, hL⟩ : ∃ L, cutL D.last (D.wait.take k) ks = L := ⟨_, rfl⟩
        have hLl : L.length = D.last.length := by rw [← hL, cutL_length]
        have hd2 := HD.out.turn (S := fun _ => False) (Turn.of_grown g2) (fun q => q) (fun _ _ q => q) (fun _ _ q => q) (fun _ _ q => q)
        rw [hL] at hd2
        have HL := Lib.hid hL
        have HLL := Lib.hid hLl
        have HD2 := Lib.hid hd2
        clear hL hLl hd2
        have HT2 := Lib.hid (HT.out.grown g2)
        clear hA HD HT g2
        have hxw := HD2.out.waits x (List.mem_of_getElem? hxe)
        obtain ⟨q, y, s⟩ : ∃ q : Nat, ∃ y : List UInt8, x = (q, y) := ⟨x.1, x.2, rfl⟩
        subst s
        obtain ⟨hq, hy⟩ := hxw
        obtain ⟨g, o, hka, hcell⟩ : ∃ g o, ka = some ⟨g, o, none⟩ ∧ w2.cell? ⟨g, o + k, none⟩ = some (.int .u8 (ks[k]).toNat) := by
          obtain ⟨a', c', he, hc⟩ := HK.out
          cases he
          obtain ⟨g, o, e, hc⟩ := hc k hkn
          refine ⟨g, o, e, ?_⟩
          have hg := hkg (Nat.lt_of_le_of_lt (Nat.zero_le k) hkn) g o e
          have hlt := (cell_lt hc)
          rw [HT2.out.cell hlt (fun q => by rcases q with q | q <;> omega)]
          exact hc
        subst hka
        obtain ⟨c, hcc⟩ : ∃ c, ks[k] = c := ⟨_, rfl⟩
        rw [hcc] at hcell
        obtain ⟨p, hp⟩ : ∃ p, min c.toNat 64 = p := ⟨_, rfl⟩
        have hp64 : p ≤ 64 := by omega
        have HP := Lib.hid hp
        have HCC := Lib.hid hcc
        have hc255 : c.toNat ≤ 255 := by have := c.toNat_lt; omega
        clear hcc hp HC H1 HL0 HI
        go_cut [6] (fun v6 wx => v6 = .int .i64 p ∧ w2 = wx)
        case first =>
          by_cases hc64 : c.toNat ≤ 64
          · obtain rfl : p = c.toNat := by have := HP.out; omega
            have e1 : ((c.toNat : Int)) ≤ 64 := by omega
            go_wp2_with fail
            go_meet
            case rel => exact ⟨by first | rfl | (congr 1; omega), by first | rfl | (congr 1; omega)⟩
          · obtain rfl : p = 64 := by have := HP.out; omega
            have e1 : ¬ ((c.toNat : Int)) ≤ 64 := by omega
            have e2 : (64 : Int) < (c.toNat : Int) := by omega
            go_wp2_with fail
            go_meet
            case rel => exact ⟨by first | rfl | (congr 1; omega), by first | rfl | (congr 1; omega)⟩
        case rest =>
          obtain ⟨rfl, rfl⟩ := hcut
          have hq0 : (q : Int) < (D.last.length : Int) := by have := hq; rw [HLL.out] at this; omega
          have z0 : (0 : Int) ≤ (q : Int) := by omega
          have z1 : (0 : Int) ≤ (p : Int) := by omega
          have z2 : (p : Int) ≤ 64 := by omega
          obtain ⟨rest, hrow, hrz, hrl, hrc, hrm, _⟩ := own_block (by have := HD2.out.last; rw [HLL.out] at this; exact this)
          have hc0 : w2.cell? ⟨b, 0, none⟩ = some (.slice (some ⟨gl, 0, none⟩) D.last.length cl) := by rw [cell_of HD2.out.disk]; rfl
          have hcA : w2.cell? ⟨A, 0, none⟩ = some (.int .i64 (q : Nat)) := by rw [cell_of HA.out]; rfl
          have HROW := Lib.hid hrow
          have Z1 : Hid (((bytesV y).take p).length = Nat.min p 64) := by
            show _ = _
            rw [bytesV_take, bytesV_length, List.length_take, hy]
          have Z2 : Hid (∀ j v, ((bytesV y).take p)[j]? = some v → w2.cell? ((⟨A, 1, none⟩ : Addr).add j) = some v) := by
            intro j v hv
            rw [List.getElem?_take] at hv
            split at hv
            · rw [addr_add, cell_of HA.out, List.getElem?_toArray, Nat.add_comm]
              exact hv
            · cases hv
          have Z3 : Hid (q * 64 + ((bytesV y).take p).length ≤ (bytesV (sflat L) ++ rest).length) := by
            show _ ≤ _
            rw [bytesV_take, bytesV_length, List.length_take, hy, List.length_append, bytesV_length, sflat_length L HD2.out.secs]
            have h1 : (q + 1) * 64 ≤ L.length * 64 := Nat.mul_le_mul_right 64 hq
            omega
          have Z4 : Hid (∀ v ∈ (bytesV y).take p, v.oneCell' = true) := fun v hv => bytesV_one y v (List.mem_of_mem_take hv)
          have HQ := Lib.hid hq
          have HY := Lib.hid hy
          have HRZ := Lib.hid hrz
          clear hrow hcell hrz hrl hq hy
          go_wp2_with fail
          go_region_law (refine step_copy_row rfl (.tmp 41) (.tmp 44) 23 23 rfl 5 Tryz.underlying23 infoU8 _ _ _ _ _ _ rfl rfl gl (q * 64) _ 126 HROW.out ((bytesV y).take p) Z1.out (fun _ => ⟨rfl, _, rfl, Z2.out⟩) Z3.out Z4.out ?_; intro w4 HR4 hg4; have HG4 : Hid (w2.grownBy w4 (some gl)) := ⟨hg4.os, hg4.tape, hg4.output, hg4.size, hg4.block⟩; clear hg4)
          all_goals
            go_wp2_with fail
            go_roundw
            case rel =>
              have hr := HR4.out
              rw [splice_torn L rest q HD2.out.secs HQ.out y HY.out p hp64] at hr
              exact ⟨k + 1, by omega, by go_num, cut_step HD2.out HG4.out hr HLL.out HQ.out HY.out HL.out hxe HWS.out (by have := HKS.out; omega) HCC.out HP.out HRZ.out hrc hrm, HT2.out.row HG4.out (fun i _ e => by cases e; exact .inr rfl)⟩
            case measure => simp [intOf]; omega
      · have hkN : k = N := by omega
        have hhd := HD.out.disk
        have f0 := fun j => free_of hhd j
        have e1 : wr.cell? ⟨b, 1, none⟩ = some (.slice (some ⟨gw, 0, none⟩) D.wait.length cw) := by rw [cell_of hhd]; rfl
        have e2 : wr.cell? ⟨b, 2, none⟩ = some (.bool D.on) := by rw [cell_of hhd]; rfl
        have e3 : wr.cell? ⟨b, 3, none⟩ = some (.int .i64 D.fuse) := by rw [cell_of hhd]; rfl
        have e4 : wr.cell? ⟨b, 4, none⟩ = some kv := by rw [cell_of hhd]; rfl
        have HH := Lib.hid hhd
        clear hhd
        have d3 : ¬ (k : Int) < (N : Int) := by omega
        go_wp2_with fail
        go_end0
        refine ⟨rfl, ?_⟩
        have t : Turn (fun i => i = b) wr ((((wr.setCell ⟨b, 1, none⟩ (.slice none 0 0)).setCell ⟨b, 2, none⟩ (.bool false)).setCell ⟨b, 3, none⟩ (.int .i64 (-1))).setCell ⟨b, 4, none⟩ (.slice none 0 0)) :=
          ((((Turn.refl (fun i => i = b) wr).setCell (fun _ => rfl) _ _).setCell (fun _ => rfl) _ _).setCell (fun _ => rfl) _ _).setCell (fun _ => rfl) _ _
        have hE : cutL D.last (D.wait.take k) ks = cutL D.last D.wait ks := by
          rw [hkN, ← HNN.out, ← HKS.out, ← HWS.out]; exact cutL_take _ _ _
        have hm := HD.out
        rw [hE] at hm
        have hl : (cutL D.last D.wait ks).length = D.last.length := cutL_length _ _ _
        exact ⟨⟨heap_setCell (heap_setCell (heap_setCell (heap_setCell HH.out 1 _) 2 _) 3 _) 4 _, own_turn hm.last t (fun g e q => hm.lb (by rw [e, q])), World.ownsRow_nil _ _ _ _, World.ownsRow_nil _ _ _ _, hm.secs, fun x hx => by simp at hx, hm.lb, by simp [Value.ownBlock], by simp [Value.ownBlock], fun _ _ => by simp [Value.ownBlock], fun _ _ => by simp [Value.ownBlock], fun _ _ => by simp [Value.ownBlock]⟩, HT.out.then (t.mono (fun i _ e => .inl e))⟩
end Go.Proofs.YtbhoeiopckmfhaaGreatDoor
