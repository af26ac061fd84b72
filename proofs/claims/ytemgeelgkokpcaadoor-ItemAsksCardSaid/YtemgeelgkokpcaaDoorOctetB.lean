/- The walk of a Writer's Bytes. -/
import Derived.Test.YtemgeelgkokpcaaDoorOctetP
import Derived.Lib.BufferWrite
import Derived.Laws.CopyOwn
import Derived.Deep.LoopGhost
import Derived.Deep.QuietTactic
import Derived.BigQuiet
namespace Go.Proofs.YtemgeelgkokpcaaDoor
open Go.RowKit

/-- 'copy(b[off:], s)', s a text, as one step of a region that draws its order -/
theorem step_copy_text {P : Program} {ops : Array Oper} {o : Oper} {a : Act} {w : World} {K : Act → World → Prop} {Q : Exit → Act → World → Prop} {E : Prop} (hgd : o.guard = none) (d s : Operand) (dT sT : TypeId)
    (ho : o.op = .call { callee := .builtin .copy, args := #[d, s], argTypes := #[dT, sT] }) (elem : TypeId) (hu : P.underlying dT = some (.slice elem)) (hsz : (P.info? elem).map (·.size) = some 1)
    (dp : Option Addr) (dLen dCap : Nat) (x : ByteArray) (hd : a.eval d = .slice dp dLen dCap) (hs : a.eval s = .string x)
    (g off : Nat) (cur : List Value) (t : TypeId) (hg : w.heap[g]? = some (.cells cur.toArray t (0, 0))) (hn : x.size ≤ dLen)
    (hpos : 0 < x.size → dp = some ⟨g, off, none⟩) (hfit : off + x.size ≤ cur.length)
    (h : ∀ w', Hid (w'.heap[g]? = some (.cells (splice cur off (Lib.byteCells x.data.toList)).toArray t (0, 0))) → w.grownBy w' (some g) → K (a.put o.dst (goInt x.size)) w') :
    if Region.wanted o (yielded ops a.tmps) = true then Oper.wp P o a w K Q else E := by
  have hw : Region.wanted o (yielded ops a.tmps) = true := by simp [Region.wanted, hgd]
  rw [if_pos hw]
  by_cases h0 : x.size = 0
  · have hrun := Lib.run_copy_empty_string (P := P) w dT sT o.type elem dp dLen dCap x hu (by simp at hsz; obtain ⟨i, hi, _⟩ := hsz; simp [hi]) h0
    unfold Oper.wp
    simp [execOp, ho, resolve, invoke, builtin, hd, hs, hrun, Result.andThen]
    have hx : x.data.toList = [] := List.eq_nil_of_length_eq_zero (by simpa using h0)
    have := h w (show _ = _ by simpa [splice, hx, Lib.byteCells] using hg) (World.grownBy.refl _ _)
    rw [h0] at this
    exact this
  · obtain rfl := hpos (by omega)
    have hrun := Lib.run_copy_row_string (P := P) w dT sT o.type elem g off dLen dCap x cur.toArray t hu hsz hg hn (by simpa using hfit)
    have hlen : (Lib.byteCells x.data.toList).length = x.size := by simp [Lib.byteCells]
    unfold Oper.wp
    simp [execOp, ho, resolve, invoke, builtin, hd, hs, hrun, Result.andThen]
    refine h _ (show _ = _ from ?_) ⟨rfl, rfl, rfl, by simp [World.setRow], fun k _ hk => setRow_other w g k _ (by intro e; exact hk (by rw [e]))⟩
    rw [setRow_heap w g _ _ t _ hg]
    simp [splice, hlen]

/-- the pieces' bytes, put together -/
def flat : List ByteArray → List UInt8
  | [] => []
  | t :: ts => flat ts ++ t.data.toList
theorem flat_length (ts : List ByteArray) : (flat ts).length = total ts := by
  induction ts with
  | nil => rfl
  | cons t ts ih => rw [flat, List.length_append, ih, total_cons, Nat.add_comm]; rfl

theorem infoPtr : (Tryd.prog.info? 5).map (·.size) = some 1 := by kernel_rfl

set_option maxHeartbeats 400000 in
theorem bytes_nil (w : World) :
    Calls Tryd.prog 26 #[.pointer none] w fun e w' => e = .returned (.tuple #[.string ByteArray.empty, .int .i64 1]) ∧ w = w' := by
  go_enter Tryd.func26, Tryd.ntmps26
  go_wp2
  go_ret2
  exact ⟨rfl, rfl⟩
set_option maxHeartbeats 400000 in
theorem bytes_err (w : World) (b : Nat) (st : WSt) (h : WrAt w b st) (he : st.err ≠ 0) :
    Calls Tryd.prog 26 #[.pointer (some ⟨b, 0, none⟩)] w fun e w' => e = .returned (.tuple #[.string ByteArray.empty, .int .i64 st.err]) ∧ w.grownBy w' none := by
  obtain ⟨last, hl, hc⟩ := h
  have c2 := cell_of hl 2
  have hb : (st.err == 0) = false := by simpa using he
  have hb' : (st.err != 0) = true := by simpa using he
  clear hl hc
  simp at c2
  go_enter Tryd.func26, Tryd.ntmps26
  go_wp2
  go_quiet (fail)
  go_wp2
  go_ret2
  exact ⟨rfl, ⟨rfl, rfl, rfl, Nat.le_refl _, fun _ _ _ => rfl⟩⟩

/-- 'string(b)', b a whole block of bytes -/
theorem heap_string {wr : World} {g cap : Nat} {l : List UInt8} (h : wr.heap[g]? = some (.cells (Lib.byteCells l).toArray 5 (0, 0))) :
    (convert 50 9 (.slice (some ⟨g, 0, none⟩) l.length cap)).run Tryd.prog wr = .ok (.string (str l)) wr := by
  refine run_convert_bytes_back wr 50 9 5 _ cap l Tryd.underlying50 Tryd.underlying5 Tryd.underlying9 fun j hj => ?_
  rw [show Addr.add ⟨g, 0, none⟩ j = (⟨g, j, none⟩ : Addr) from by simp [Addr.add]; omega, cell_of h]
  simp [Lib.byteCells, List.getElem?_eq_getElem hj]

theorem heap_of_own {w : World} {B g n : Nat} {xs : List Value} (h : w.ownsRow B 5 1 (.slice (some ⟨g, 0, none⟩) n n) n xs) : w.heap[g]? = some (.cells xs.toArray 5 (0, 0)) := by
  rcases h.2 with ⟨h', _⟩ | ⟨g', cap', cur, h', _, hg, _, _, hcs, htake⟩
  · simp at h'
  · simp only [Value.slice.injEq, Option.some.injEq, Addr.mk.injEq, and_true, true_and] at h'
    obtain ⟨rfl, rfl⟩ := h'
    rw [hg, ← htake, List.take_of_length_le (by simp [hcs])]

theorem omade_bytes (n : Nat) : (madeCells #[Value.int .u8 0] n).toList = Lib.byteCells (List.replicate n 0) := by
  apply List.ext_getElem?
  intro i
  simp [madeCells, Lib.byteCells, List.getElem?_replicate]
  by_cases h : i < n <;> simp [h, Nat.mod_one]

theorem splice_end (n m : Nat) (x d : List UInt8) (h : n = x.length + m) : splice (Lib.byteCells (List.replicate n 0 ++ d)) m (Lib.byteCells x) = Lib.byteCells (List.replicate m 0 ++ (x ++ d)) := by
  subst h
  simp only [splice, Lib.byteCells, List.map_append, List.length_map]
  rw [List.take_append_of_le_length (by simp), List.drop_append]
  simp [Nat.add_comm]

set_option maxHeartbeats 1000000 in
theorem bytes_ok (w : World) (b : Nat) (ts : List ByteArray) (h : WrAt w b ⟨ts, 0⟩) (hs : total ts ≤ 281474976710656) :
    Calls Tryd.prog 26 #[.pointer (some ⟨b, 0, none⟩)] w fun e w' => e = .returned (.tuple #[.string (str (flat ts)), .int .i64 0]) ∧ w.grownBy w' none := by
  obtain ⟨i0, hi, hz0, hz1, hz2⟩ := info_parts infoByte
  have hlt := h.lt
  obtain ⟨last, hl, hc⟩ := h
  obtain ⟨p, rfl⟩ := hc.ptr
  have c0 := cell_of hl 0
  have c1 := cell_of hl 1
  have c2 := cell_of hl 2
  simp at c0 c1 c2
  have HC := Lib.hid hc
  have HL := Lib.hid hl
  clear hc hl
  obtain ⟨T, hT⟩ : ∃ T, T = total ts := ⟨_, rfl⟩
  rw [← hT] at hs c1
  have HT := Lib.hid hT
  clear hT
  go_enter Tryd.func26, Tryd.ntmps26
  go_wp2_with (at_make; refine wpList_make_full _ rfl _ _ 50 rfl w.heap.size 5 i0 (.int .u8 0) 1 Tryd.underlying50 hi hz0 hz1 _ _ _ _ T rfl rfl rfl rfl ?m1 ?m2 ?m3 ?_)
  case m2 => unfold maxLen; omega
  intro w1 hown hg
  have d0 := hg.cell c0 (by simp)
  have d1 := hg.cell c1 (by simp)
  have HO := Lib.hid (heap_of_own hown)
  have HG := Lib.hid hg
  clear hown hg c0 c1 c2
  go_wp2_with fail
  go_loopg [5, 6] ts.length (fun k e v wr => ∃ rem d, ∃ n : Nat, rem.length = k ∧ Aside (flat ts = flat rem ++ d) ∧ e = .int .i64 n ∧ Aside (n = total rem) ∧ n ≤ T ∧ Hid (Chain wr v rem) ∧
    Hid (wr.heap[w.heap.size]? = some (.cells (Lib.byteCells (List.replicate n 0 ++ d)).toArray 5 (0, 0))) ∧ Hid (w.grownBy wr none))
  case atStart =>
    refine ⟨ts, [], T, rfl, by simp [Aside], rfl, HT.out, Nat.le_refl _, ?_, ?_, HG.out⟩
    · exact HC.out.kept HG.out (by intro r e; cases e)
    · have := HO.out
      rw [omade_bytes] at this
      simpa [Hid] using this
  case round =>
    clear d0 d1 HO HG HC HL
    obtain ⟨rem, d, n, HK, HF, rfl, HN, hn, HC, HO, HB⟩ := hrel
    cases rem with
    | nil =>
      have hv : _ = Value.pointer none := HC.out
      subst hv
      have hf : d = flat ts := by have := HF.out; simpa [flat] using this.symm
      subst hf
      have hn0 : n = 0 := HN.out
      subst hn0
      have hstr := heap_string (cap := T) (by simpa using HO.out)
      rw [flat_length, ← HT.out] at hstr
      go_wp2
      go_ret2
      exact ⟨rfl, HB.out⟩
    | cons t rem =>
      obtain ⟨g, v', hv, hb, hc⟩ := HC.out
      subst hv
      obtain ⟨p', rfl⟩ := hc.ptr
      have e0 := cell_of hb 0
      have e1 := cell_of hb 1
      simp at e0 e1
      have hne : some g ≠ some w.heap.size := by
        intro e
        obtain rfl := Option.some.inj e
        have := HO.out
        rw [hb] at this
        simp at this
      have HB' := Lib.hid hb
      have HC' := Lib.hid hc
      clear hb hc
      have hn1 : t.size ≤ n := by have := HN.out; rw [total_cons] at this; omega
      have HN' : Hid (n = t.size + total rem) := by have := HN.out; rw [total_cons] at this; exact this
      clear HN
      have hle : (n : Int) - (t.size : Int) ≤ (T : Int) := by omega
      go_wp2_with fail
      go_region_law (refine step_copy_text rfl (.tmp 46) (.tmp 50) 50 9 rfl 5 Tryd.underlying50 infoPtr _ _ _ t rfl rfl w.heap.size (n - t.size) (Lib.byteCells (List.replicate n 0 ++ d)) 5 HO.out (by omega) (fun h => by rw [if_neg (by omega)]) (by simp [Lib.byteCells]; omega) ?_; intro w2 HO2 hg2; have e2 := hg2.cell e0 hne)
      generalize (if T = n - t.size then some (⟨w.heap.size, 0, none⟩ : Addr) else some ⟨w.heap.size, n - t.size, none⟩) = A
      have HG2 : Hid (wr.grownBy w2 (some w.heap.size)) := ⟨hg2.os, hg2.tape, hg2.output, hg2.size, hg2.block⟩
      clear hg2 e0 e1
      have hcast : (n : Int) - (t.size : Int) = ((n - t.size : Nat) : Int) := by omega
      have HX := Lib.hid hcast
      clear hcast
      go_wp2
      go_roundg rem.length
      case measure => have := HK; simp at this; omega
      case rel =>
        refine ⟨rem, t.data.toList ++ d, n - t.size, rfl, ?_, by rw [HX.out], ?_, by omega, ?_, ?_, ?_⟩
        · have := HF.out
          simpa [Aside, flat] using this
        · have := HN'.out
          show _ = _
          omega
        · refine HC'.out.kept HG2.out ?_
          intro r e v x hr
          cases e
          rw [HO.out] at hr
          simp at hr
        · have := HO2.out
          rw [splice_end n (n - t.size) t.data.toList d (by simp; omega)] at this
          exact this
        · have h1 := HB.out
          have h2 := HG2.out
          exact ⟨h2.os.trans h1.os, h2.tape.trans h1.tape, h2.output.trans h1.output, Nat.le_trans h1.size h2.size, fun i hi _ =>
            (h2.block i (Nat.lt_of_lt_of_le hi h1.size) (by intro e; have := Option.some.inj e; omega)).trans (h1.block i hi (by simp))⟩
end Go.Proofs.YtemgeelgkokpcaaDoor
