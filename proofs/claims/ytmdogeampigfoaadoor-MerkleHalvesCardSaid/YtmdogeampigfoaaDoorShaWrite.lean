/- The walks of a hash's writing: writeByte, write, writeNum. -/
import Derived.Test.YtmdogeampigfoaaDoorShaMix
import Derived.Test.YtmdogeampigfoaaDoorShaTook
import Derived.Lib.BufferWrite
import Derived.Laws.CopyOwn
namespace Go.Proofs.YtmdogeampigfoaaDoor
open Go.RowKit
attribute [local irreducible] sched

/-- block b is a hash that has taken these bytes -/
def Took (w : World) (b : Nat) (l : List UInt8) : Prop := 1 < b ∧ RootsAt w ∧ ∃ st blk, Good l st blk ∧ HashAt w b st blk l.length
theorem Took.lt {w : World} {b : Nat} {l : List UInt8} (h : Took w b l) : b < w.heap.size := by
  obtain ⟨_, _, _, _, _, h⟩ := h
  exact h.lt
theorem Took.kept {w w' : World} {row : Option Nat} {b : Nat} {l : List UInt8} (h : Took w b l) (hg : w.grownBy w' row) (hb : row ≠ some b) (hr : row ≠ some 1) : Took w' b l := by
  obtain ⟨h1, h2, st, blk, h3, h4⟩ := h
  exact ⟨h1, h2.kept hg hr, st, blk, h3, h4.kept hg hb⟩

theorem HashAt.drew {w : World} {b : Nat} {s : St} {blk : List UInt8} {n : Nat} (h : HashAt w b s blk n) : HashAt w.drew b s blk n := h
theorem HashAt.sized {w : World} {b : Nat} {s : St} {blk : List UInt8} {n : Nat} (h : HashAt w b s blk n) (m : Nat) : HashAt (w.setCell ⟨b, 72, none⟩ (.int .u64 m)) b s blk m := by
  refine ⟨h.1, ?_⟩
  rw [heap_setCell h.2, List.setIfInBounds_toArray]
  congr 2
  have h1 := h.1
  congr 1
  rw [List.set_append_right _ _ (by simp [u32s_length, St.list_length]), u32s_length, St.list_length, List.set_append_right _ _ (by simp [u8s_length, h1]), u8s_length, h1]
  rfl
theorem HashAt.laid {w : World} {b : Nat} {s : St} {blk : List UInt8} {n : Nat} (h : HashAt w b s blk n) (i : Nat) (c : UInt8) (hi : i < 64) : HashAt (w.setCell ⟨b, 8 + i, none⟩ (.int .u8 c.toNat)) b s (lay blk i [c]) n := by
  have h1 := h.1
  refine ⟨by rw [lay_length _ _ _ (by simp; omega)]; exact h1, ?_⟩
  rw [heap_setCell h.2, List.setIfInBounds_toArray]
  congr 2
  congr 1
  rw [List.set_append_right _ _ (by simp [u32s_length, St.list_length]), u32s_length, St.list_length, List.set_append_left _ _ (by rw [u8s_length]; omega)]
  congr 2
  rw [show 8 + i - 8 = i from by omega, u8s, u8s, lay]
  rw [List.set_eq_take_append_cons_drop, if_pos (by simp; omega)]
  simp
theorem Took.put {w' : World} {b : Nat} {l x : List UInt8} {st : St} {blk : List UInt8} (hb : 1 < b) (hr : RootsAt w') (hg : Good (l ++ x) st blk) (hh : HashAt w' b st blk (l.length + x.length)) : Took w' b (l ++ x) :=
  ⟨hb, hr, st, blk, hg, by rw [List.length_append]; exact hh⟩

set_option maxRecDepth 100000 in
set_option maxHeartbeats 800000 in
theorem writeByte_any (w : World) (b : Nat) (l : List UInt8) (c : UInt8) (h : Took w b l) (hl : l.length ≤ 1152921504606846976) :
    Calls Tryd.prog 41 #[.pointer (some ⟨b, 0, none⟩), .int .u8 c.toNat] w fun e w' => e = .returned (.tuple #[]) ∧ Took w' b (l ++ [c]) ∧ w.grownBy w' (some b) := by
  obtain ⟨hb, hr, st, blk, hg, hh⟩ := h
  have hm : l.length % 64 < 64 := Nat.mod_lt _ (by decide)
  have cs := hh.size
  have fs := free_of hh.2 72
  have cb := hh.byte _ hm
  have fb := free_of hh.2 (8 + l.length % 64)
  have HA := Lib.hid ((hh.laid (l.length % 64) c hm).sized (l.length + 1))
  have HG := Lib.hid hg
  have HR := Lib.hid hr
  clear hh hg hr
  obtain ⟨n, hn⟩ : ∃ n, l.length = n := ⟨_, rfl⟩
  rw [hn] at hm cs cb fb HA hl
  obtain ⟨i, hi⟩ : ∃ i, n % 64 = i := ⟨_, rfl⟩
  rw [hi] at hm cb fb HA
  rw [show ((n + 1 : Nat) : Int) = (n : Int) + 1 from by simp] at HA
  have hi2 : (n : Int) % 64 = (i : Int) := by omega
  have hi3 : (n : Int).tmod 64 = (i : Int) := by rw [Int.tmod_eq_emod_of_nonneg (by omega)]; exact hi2
  have ht : ((n : Int) + 1) % 64 = if i = 63 then 0 else (i : Int) + 1 := by split <;> omega
  have HN := Lib.hid hn
  have HI := Lib.hid hi
  clear hn hi
  have b1 : (0 : Int) ≤ (i : Int) := by omega
  have b2 : (i : Int) < 64 := by omega
  have hgr : Hid (w.grownBy ((w.setCell ⟨b, 8 + i, none⟩ (.int .u8 c.toNat)).setCell ⟨b, 72, none⟩ (.int .u64 ((n : Int) + 1))).drew (some b)) := grownBy_drew (grownBy_setCell (grownBy_setCell (World.grownBy.refl _ _) _ _) _ _)
  have HR2 := Lib.hid (HR.out.kept hgr.out (by simp; omega))
  by_cases h63 : i = 63
  · rw [if_pos h63] at ht
    have hE : (((n : Int) + 1) % 64 == 0) = true := by rw [ht]; rfl
    have H63 := Lib.hid h63
    clear h63 ht
    go_enter Tryd.func41, Tryd.ntmps41
    go_wp2_with fail
    go_still_tail 10, (by kernel_rfl)
    go_wp2_with fail
    refine (mix_any _ b st _ _ HA.out.drew HG.out.ok HR2.out (by omega)).mono ?_
    rintro e w' ⟨rfl, h1, h2⟩
    have H1 := Lib.hid h1
    have H2 := Lib.hid h2
    clear h1 h2
    go_wp2_with fail
    go_end0
    have hlen := HN.out
    have hI := HI.out
    have h6 := H63.out
    have hG := HG.out.full (x := [c]) (by simp; omega)
    rw [hlen, hI] at hG
    refine ⟨rfl, Took.put hb (HR2.out.kept H2.out (by simp; omega)) hG ?_, grownBy_trans hgr.out H2.out⟩
    rw [hlen]
    exact H1.out
  · rw [if_neg h63] at ht
    have hE : (((n : Int) + 1) % 64 == 0) = false := by rw [ht, beq_eq_false_iff_ne]; omega
    have H63 := Lib.hid h63
    clear h63 ht
    go_enter Tryd.func41, Tryd.ntmps41
    go_wp2_with fail
    go_still_tail 10, (by kernel_rfl)
    go_wp2_with fail
    go_end0
    have hlen := HN.out
    have hI := HI.out
    have h6 := H63.out
    have hG := HG.out.less (x := [c]) (by simp; omega)
    rw [hlen, hI] at hG
    refine ⟨rfl, Took.put hb HR2.out hG ?_, hgr.out⟩
    rw [hlen]
    exact HA.out.drew

/-- 'copy(dst, s)' from a text, as much as goes in: dst lies in row g from place off on -/
theorem run_copy_part {P : Program} (w : World) (dT sT ty elem : TypeId) (g o dLen dCap n : Nat) (s : ByteArray) (cur : List Value) (t : TypeId)
    (hu : P.underlying dT = some (.slice elem)) (hs : (P.info? elem).map (·.size) = some 1) (hg : w.heap[g]? = some (.cells cur.toArray t (0, 0))) (hn : Nat.min s.size dLen = n) (hfit : o + n ≤ cur.length) :
    (Builtin.copy_ #[dT, sT] ty #[.slice (some ⟨g, o, none⟩) dLen dCap, .string s]).run P w =
      .ok (goInt n) (w.setRow g (cur.take o ++ u8s (s.data.toList.take n) ++ cur.drop (o + n)).toArray) := by
  have hns : n ≤ s.size := by rw [← hn]; exact Nat.min_le_left _ _
  have hlen : (u8s (s.data.toList.take n)).length = n := by simp [u8s_length]; omega
  have hst := run_storeCells_at P g o t (u8s (s.data.toList.take n)) 0 cur.toArray w hg (by rw [hlen]; simpa using hfit) (by
    intro v hv
    obtain ⟨x, _, rfl⟩ := List.mem_map.1 hv
    rfl)
  have htk : List.take n (List.map (fun b : UInt8 => Value.int IntKind.u8 (b.toNat : Int)) s.data.toList) = u8s (s.data.toList.take n) := by rw [← List.map_take]; rfl
  rw [hlen] at hst
  simp only [Nat.add_zero] at hst
  cases hq : P.info? elem with
  | none => simp [hq] at hs
  | some i =>
    simp [Builtin.copy_, run_underlying hu, Builtin.lenOf, Builtin.firstCells, sizeOf, typeInfo, hq, hn]
    rw [htk, hst]
    simp [Result.andThen]
theorem wpList_copy_part {P : Program} {ops : Array Oper} {rest : List Oper} {o : Oper} {a : Act} {w : World} {Q : Exit → Act → World → Prop} (hgd : o.guard = none) (d s : Operand) (dT sT : TypeId)
    (ho : o.op = .call { callee := .builtin .copy, args := #[d, s], argTypes := #[dT, sT] }) (elem : TypeId) (hu : P.underlying dT = some (.slice elem)) (hsz : (P.info? elem).map (·.size) = some 1)
    (g off dLen dCap n : Nat) (x : ByteArray) (hd : a.eval d = .slice (some ⟨g, off, none⟩) dLen dCap) (hs : a.eval s = .string x)
    (cur : List Value) (t : TypeId) (hg : w.heap[g]? = some (.cells cur.toArray t (0, 0))) (hn : Nat.min x.size dLen = n) (hfit : off + n ≤ cur.length)
    (h : ∀ w', Hid (w'.heap[g]? = some (.cells (cur.take off ++ u8s (x.data.toList.take n) ++ cur.drop (off + n)).toArray t (0, 0))) → Hid (w.grownBy w' (some g)) → wpList P ops Q rest (a.put o.dst (goInt n)) w') :
    wpList P ops Q (o :: rest) a w :=
  wpList_plain hgd fun _ hK => by
    have hrun := run_copy_part (P := P) w dT sT o.type elem g off dLen dCap n x cur t hu hsz hg hn hfit
    unfold Oper.wp
    simp [execOp, ho, resolve, invoke, builtin, hd, hs, hrun, Result.andThen]
    refine hK _ _ (h _ (show _ = _ from ?_) (show World.grownBy _ _ _ from ⟨rfl, rfl, rfl, by simp [World.setRow], fun k _ hk => setRow_other w g k _ (by intro e; exact hk (by rw [e]))⟩))
    rw [setRow_heap w g _ _ t _ hg]
    simp

theorem HashAt.copied {w w' : World} {b : Nat} {s : St} {blk : List UInt8} {n : Nat} (h : HashAt w b s blk n) (i : Nat) (x : List UInt8) (hi : i + x.length ≤ 64)
    (hw : w'.heap[b]? = some (.cells ((u32s s.list ++ (u8s blk ++ [Value.int .u64 (n : Int)])).take (8 + i) ++ u8s x ++ (u32s s.list ++ (u8s blk ++ [Value.int .u64 (n : Int)])).drop (8 + i + x.length)).toArray 101 (0, 0))) :
    HashAt w' b s (lay blk i x) n := by
  have h1 := h.1
  refine ⟨by rw [lay_length _ _ _ (by omega)]; exact h1, ?_⟩
  rw [hw]
  congr 3
  have hl : (u32s s.list).length = 8 := by rw [u32s_length, St.list_length]
  have hb : (u8s blk).length = 64 := by rw [u8s_length, h1]
  rw [List.take_append, hl, List.take_of_length_le (by omega), show 8 + i - 8 = i from by omega, List.take_append_of_le_length (by omega)]
  rw [List.drop_append, hl, List.drop_of_length_le (by omega), List.nil_append, show 8 + i + x.length - 8 = i + x.length from by omega, List.drop_append_of_le_length (by omega)]
  simp [u8s, lay, List.map_take, List.map_drop]

/-- a hash's block, from a place on -/
theorem slice_block (b i : Nat) (hi : i < 64) (w : World) : (Instr.sliceAt 99 (.pointer (some ⟨b, 8, none⟩)) (some (.int .u64 i)) none none).run Tryd.prog w = .ok (.slice (some ⟨b, 8 + i, none⟩) (64 - i : Nat) (64 - i : Nat)) w := by
  have hl : Tryd.prog.arrayLen 99 = 64 := by kernel_rfl
  have he : Tryd.prog.elem 99 = 5 := by kernel_rfl
  obtain ⟨i0, h0⟩ : ∃ i0, Tryd.prog.info? 5 = some i0 := Option.isSome_iff_exists.1 (by kernel_rfl)
  have hc : Tryd.prog.cellsOf 5 = 1 := by kernel_rfl
  rw [run_sliceAt_array_l w 99 ⟨b, 8, none⟩ (by rw [hl, he]; exact Tryd.underlying99) .u64 i (by omega) (by rw [hl]; omega), hl, he, run_sizeOf w h0, hc]
  simp only [Result.andThen, slicedAt, Int.toNat_natCast]
  rw [if_neg (by omega)]
  simp [Addr.add]
/-- a text's length -/
def strLen : Value → Nat
  | .string t => t.size
  | _ => 0
theorem text_drop (t : ByteArray) (m : Nat) : (t.extract m t.size).data.toList = t.data.toList.drop m := by
  simp
  exact List.take_of_length_le (by simp)
theorem text_drop_size (t : ByteArray) (m : Nat) (h : m ≤ t.size) : (t.extract m t.size).size = t.size - m := by simp
/-- what was written so far of a text -/
theorem took_take (w : World) (b : Nat) (l : List UInt8) (x : List UInt8) (k n : Nat) (h : Took w b (l ++ x.take k ++ (x.drop k).take n)) : Took w b (l ++ x.take (k + n)) := by
  rw [List.append_assoc] at h
  rw [List.take_add]
  exact h

set_option maxRecDepth 100000 in
set_option maxHeartbeats 1600000 in
theorem write_any (w : World) (b : Nat) (l : List UInt8) (s : ByteArray) (h : Took w b l) (hl : l.length + s.size ≤ 1152921504606846976) :
    Calls Tryd.prog 43 #[.pointer (some ⟨b, 0, none⟩), .string s] w fun e w' => e = .returned (.tuple #[]) ∧ Took w' b (l ++ s.data.toList) ∧ w.grownBy w' (some b) := by
  have H := Lib.hid h
  clear h
  go_enter Tryd.func43, Tryd.ntmps43
  go_wp2_with fail
  go_loopw [1] (fun v wr => ∃ t : ByteArray, ∃ k : Nat, k ≤ s.size ∧ v = .string t ∧ Hid (t.data.toList = s.data.toList.drop k) ∧ t.size = s.size - k ∧ Hid (Took wr b (l ++ s.data.toList.take k)) ∧ Hid (w.grownBy wr (some b))) (fun v _ => strLen v)
  case atStart => exact ⟨s, 0, Nat.zero_le _, rfl, rfl, rfl, by simpa [Hid] using H.out, World.grownBy.refl _ _⟩
  case round =>
    obtain ⟨t, k, hk, rfl, HT, hts, HK, HG⟩ := hrel
    by_cases hlt : k < s.size
    · obtain ⟨hb, hr, st, blk, hg, hh⟩ := HK.out
      have he : t.toList.isEmpty = false := by rw [emp, decide_eq_false_iff_not]; omega
      have he2 : (!t.toList.isEmpty) = true := by rw [he]; rfl
      have cs := hh.size
      have hll : (l ++ s.data.toList.take k).length = l.length + k := by simp; omega
      rw [hll] at cs hh
      have fs := free_of hh.2 72
      obtain ⟨n, hn⟩ : ∃ n, l.length + k = n := ⟨_, rfl⟩
      rw [hn] at cs hh hll
      obtain ⟨i, hi⟩ : ∃ i, n % 64 = i := ⟨_, rfl⟩
      have hi2 : (n : Int) % 64 = (i : Int) := by omega
      have hi3 : (n : Int).tmod 64 = (i : Int) := by rw [Int.tmod_eq_emod_of_nonneg (by omega)]; exact hi2
      have hm : i < 64 := by omega
      have hn64 : n ≤ 1152921504606846976 := by omega
      have b1 : (0 : Int) ≤ (i : Int) := by omega
      have b2 : (i : Int) < 64 := by omega
      have HH := Lib.hid hh
      have HN := Lib.hid hn
      have HLL := Lib.hid hll
      have HI := Lib.hid hi
      have HTS := Lib.hid hts
      clear hh hn hll hi hts
      have hsl := slice_block b i hm
      obtain ⟨m, hmin⟩ : ∃ m, Nat.min t.size (64 - i) = m := ⟨_, rfl⟩
      have hm1 : m ≤ t.size := by rw [← hmin]; exact Nat.min_le_left _ _
      have hm2 : m ≤ 64 - i := by rw [← hmin]; exact Nat.min_le_right _ _
      have hm0 : 0 < m := by
        rw [← hmin]
        have : 0 < t.size := by have := HTS.out; omega
        exact Nat.lt_min.2 ⟨this, by omega⟩
      have hxl : (t.data.toList.take m).length = m := by simp; omega
      have HMIN := Lib.hid hmin
      have HXL := Lib.hid hxl
      clear hmin hxl
      have hE : ∃ t : Bool, (((n : Int) + m) % 64 == 0) = t ∧ (t = true ↔ i + m = 64) := by
        refine ⟨_, rfl, ?_⟩
        rw [beq_iff_eq]
        omega
      obtain ⟨tb, hE, hEt⟩ := hE
      have HET := Lib.hid hEt
      clear hEt
      cases tb
      all_goals
        go_wp2_with (first
          | ((refine wpList_copy_part (by rfl) (.tmp 17) (.tmp 18) 34 9 (by rfl) 5 Tryd.underlying34 (by kernel_rfl) b (8 + i) (64 - i) (64 - i) m t (by rfl) (by rfl) _ 101 (by exact HH.out.2) (by exact HMIN.out) (by simp [u32s_length, u8s_length, HH.out.1, St.list_length]; omega) ?_)
             intro w2 HC HG2
             have HH2 := Lib.hid (HH.out.copied i (t.data.toList.take m) (by have := HXL.out; omega) (by rw [HXL.out]; exact HC.out))
             have cs2 := HH2.out.size
             have fs2 := free_of HH2.out.2 72
             clear HC))
      · go_roundw
        case rel =>
          have hT := HET.out
          have hG := hg.less (x := t.data.toList.take m) (by rw [HLL.out, HI.out, HXL.out]; have : ¬ i + m = 64 := fun e => by simpa using hT.2 e
                                                             omega)
          rw [HLL.out, HI.out] at hG
          have g3 := grownBy_trans HG2.out (grownBy_setCell (World.grownBy.refl _ _) 72 (.int .u64 ((n : Int) + m)))
          refine ⟨_, k + m, by have := HTS.out; omega, rfl, ?_, ?_, ?_, grownBy_trans HG.out g3⟩
          · show _ = _
            rw [text_drop, HT.out, List.drop_drop]
          · rw [text_drop_size _ _ hm1, HTS.out]; omega
          · refine took_take _ b l _ k m ?_
            rw [← HT.out]
            refine Took.put hb (hr.kept g3 (by simp; omega)) hG ?_
            rw [HLL.out, HXL.out]
            exact HH2.out.sized (n + m)
        case measure =>
          show (t.extract m t.size).size < t.size
          rw [text_drop_size _ _ hm1]
          omega
      · have HR2 := Lib.hid (hr.kept (grownBy_trans HG2.out (grownBy_setCell (World.grownBy.refl _ _) 72 (.int .u64 ((n : Int) + m)))) (by simp; omega))
        refine (mix_any _ b st _ _ (HH2.out.sized (n + m)) hg.ok HR2.out (by omega)).mono ?_
        rintro e w3 ⟨rfl, h1, h2⟩
        have H1 := Lib.hid h1
        have H2 := Lib.hid h2
        clear h1 h2
        go_wp2_with fail
        go_roundw
        case rel =>
          have hT := HET.out
          have hG := hg.full (x := t.data.toList.take m) (by rw [HLL.out, HI.out, HXL.out]; exact hT.1 (by simp))
          rw [HLL.out, HI.out] at hG
          have g3 := grownBy_trans (grownBy_trans HG2.out (grownBy_setCell (World.grownBy.refl _ _) 72 (.int .u64 ((n : Int) + m)))) H2.out
          refine ⟨_, k + m, by have := HTS.out; omega, rfl, ?_, ?_, ?_, grownBy_trans HG.out g3⟩
          · show _ = _
            rw [text_drop, HT.out, List.drop_drop]
          · rw [text_drop_size _ _ hm1, HTS.out]; omega
          · refine took_take _ b l _ k m ?_
            rw [← HT.out]
            refine Took.put hb (hr.kept g3 (by simp; omega)) hG ?_
            rw [HLL.out, HXL.out]
            exact H1.out
        case measure =>
          show (t.extract m t.size).size < t.size
          rw [text_drop_size _ _ hm1]
          omega
    · have he : t.toList.isEmpty = true := by rw [emp, decide_eq_true_eq]; omega
      have he2 : (!t.toList.isEmpty) = false := by rw [he]; rfl
      have : k = s.size := by omega
      subst this
      have hK := HK.out
      rw [List.take_of_length_le (by simp)] at hK
      have HK2 := Lib.hid hK
      clear hK HK HT hts hlt
      go_wp2_with fail
      go_end0
      exact ⟨rfl, HK2.out, HG.out⟩

theorem be_take (n k i : Nat) (h : i < k) : (be n k).take (i + 1) = (be n k).take i ++ [UInt8.ofNat (n / 256 ^ (k - 1 - i) % 256)] := by
  have hl : i < (be n k).length := by rw [be_length]; exact h
  rw [List.take_succ_eq_append_getElem hl]
  congr 2
  induction k generalizing n i with
  | zero => omega
  | succ k ih =>
    have e := be_cons n k
    cases i with
    | zero => simp [e]
    | succ i =>
      have := ih n i (by omega) (by rw [be_length]; omega)
      simp only [e, List.getElem_cons_succ]
      rw [this, show k + 1 - 1 - (i + 1) = k - 1 - i from by omega]

theorem byte_at (n j : Nat) : (n : Int) / 2 ^ (8 * j) % 256 = ((UInt8.ofNat (n / 256 ^ j % 256)).toNat : Int) := by
  have e : (UInt8.ofNat (n / 256 ^ j % 256)).toNat = n / 256 ^ j % 256 := by simp
  have p : (2 : Int) ^ (8 * j) = 256 ^ j := by rw [Int.pow_mul]; rfl
  rw [e, p]
  simp

set_option maxRecDepth 100000 in
set_option maxHeartbeats 800000 in
theorem writeNum_any (w : World) (b : Nat) (l : List UInt8) (n k : Nat) (h : Took w b l) (hn : n ≤ 18446744073709551615) (hk : k ≤ 8) (hl : l.length + 8 ≤ 1152921504606846976) :
    Calls Tryd.prog 42 #[.pointer (some ⟨b, 0, none⟩), .int .u64 n, .int .i64 k] w fun e w' => e = .returned (.tuple #[]) ∧ Took w' b (l ++ be n k) ∧ w.grownBy w' (some b) := by
  have H := Lib.hid h
  clear h
  go_enter Tryd.func42, Tryd.ntmps42
  go_wp2_with fail
  go_loopw [8] (fun v wr => ∃ i : Nat, i ≤ k ∧ v = .int .i64 i ∧ Hid (Took wr b (l ++ (be n k).take i)) ∧ Hid (w.grownBy wr (some b))) (fun v _ => k - (intOf v).toNat)
  case atStart => exact ⟨0, Nat.zero_le _, rfl, by simpa [Hid] using H.out, World.grownBy.refl _ _⟩
  case round =>
    obtain ⟨i, hi, rfl, HT, HG⟩ := hrel
    by_cases hlt : i < k
    · obtain ⟨j, hj⟩ : ∃ j, k - 1 - i = j := ⟨_, rfl⟩
      have hj2 : (k : Int) - 1 - (i : Int) = (j : Int) := by omega
      have hj3 : j ≤ 7 := by omega
      have HJ := Lib.hid hj
      clear hj
      go_wp2_with fail
      rw [byte_at n j]
      refine (writeByte_any _ b _ _ HT.out (by have : (l ++ (be n k).take i).length ≤ l.length + 8 := by simp [be_length]; omega
                                               omega)).mono ?_
      rintro e w' ⟨rfl, h1, h2⟩
      have H1 := Lib.hid h1
      have H2 := Lib.hid h2
      clear h1 h2
      go_wp2_with fail
      go_roundw
      case rel =>
        refine ⟨i + 1, by omega, by go_num, ?_, grownBy_trans HG.out H2.out⟩
        show Took _ _ _
        rw [be_take n k i hlt, HJ.out, ← List.append_assoc]
        exact H1.out
      case measure => simp [intOf]; omega
    · have : i = k := by omega
      subst this
      have hT := HT.out
      rw [List.take_of_length_le (by rw [be_length]; omega)] at hT
      have HT2 := Lib.hid hT
      clear hT HT
      go_wp2_with fail
      go_end0
      exact ⟨rfl, HT2.out, HG.out⟩
end Go.Proofs.YtmdogeampigfoaaDoor
