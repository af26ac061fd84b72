/- Write, where it is done. -/
import Derived.Test.YtfomchkmedoenaaSecW
namespace Go.Proofs.Ytfomchkmedoenaa
open Go.RowKit

/-- a copy of a text into a block: nothing else turns -/
theorem wpList_copy_text {P : Program} {ops : Array Oper} {rest : List Oper} {o : Oper} {a : Act} {w : World} {Q : Exit → Act → World → Prop} (hgd : o.guard = none) (d s : Operand) (dT sT : TypeId)
    (ho : o.op = .call { callee := .builtin .copy, args := #[d, s], argTypes := #[dT, sT] }) (elem : TypeId) (hu : P.underlying dT = some (.slice elem)) (hsz : (P.info? elem).map (·.size) = some 1)
    (dp : Option Addr) (dLen dCap : Nat) (x : ByteArray) (hd : a.eval d = .slice dp dLen dCap) (hs : a.eval s = .string x)
    (g off : Nat) (cur : List Value) (t : TypeId) (hg : w.heap[g]? = some (.cells cur.toArray t (0, 0))) (hn : x.size ≤ dLen)
    (hpos : 0 < x.size → dp = some ⟨g, off, none⟩) (hfit : off + x.size ≤ cur.length)
    (h : ∀ w', Hid (w'.heap[g]? = some (.cells (splice cur off (Lib.byteCells x.data.toList)).toArray t (0, 0))) → w.grownBy w' (some g) → wpList P ops Q rest (a.put o.dst (goInt x.size)) w') :
    wpList P ops Q (o :: rest) a w := by
  refine wpList_plain hgd fun K hK => ?_
  by_cases h0 : x.size = 0
  · have hrun := Lib.run_copy_empty_string (P := P) w dT sT o.type elem dp dLen dCap x hu (by simp at hsz; obtain ⟨i, hi, _⟩ := hsz; simp [hi]) h0
    unfold Oper.wp
    simp [execOp, ho, resolve, invoke, builtin, hd, hs, hrun, Result.andThen]
    have hx : x.data.toList = [] := List.eq_nil_of_length_eq_zero (by simpa using h0)
    have := h w (show _ = _ by simpa [splice, hx, Lib.byteCells] using hg) (World.grownBy.refl _ _)
    rw [h0] at this
    exact hK _ _ this
  · obtain rfl := hpos (by omega)
    have hrun := Lib.run_copy_row_string (P := P) w dT sT o.type elem g off dLen dCap x cur.toArray t hu hsz hg hn (by simpa using hfit)
    have hlen : (Lib.byteCells x.data.toList).length = x.size := by simp [Lib.byteCells]
    unfold Oper.wp
    simp [execOp, ho, resolve, invoke, builtin, hd, hs, hrun, Result.andThen]
    refine hK _ _ (h _ (show _ = _ from ?_) ⟨rfl, rfl, rfl, by simp [World.setRow], fun k _ hk => setRow_other w g k _ (by intro e; exact hk (by rw [e]))⟩)
    rw [setRow_heap w g _ _ t _ hg]
    simp [splice, hlen]
/-- a load of many cells, as one step of a region that draws -/
theorem step_load_mid {P : Program} {ops : Array Oper} {o : Oper} {a : Act} {w : World} {K : Act → World → Prop} {Q : Exit → Act → World → Prop} {E : Prop} (hgd : o.guard = none) (ty : TypeId) (x : Operand) (ho : o.op = .load ty x)
    (b f : Nat) (hx : a.eval x = .pointer (some ⟨b, f, none⟩)) (cs : List Value) (d : TypeDesc) (hc : w.rangeAt b f cs)
    (hu : P.underlying ty = some d) (hd : d.isRow = true) (hi : (P.info? ty).map (·.size) = some cs.length)
    (h : K (a.put o.dst (.agg cs.toArray)) w) : if Region.wanted o (yielded ops a.tmps) = true then Oper.wp P o a w K Q else E := by
  have hw : Region.wanted o (yielded ops a.tmps) = true := by simp [Region.wanted, hgd]
  rw [if_pos hw]
  exact wp_load_mid ty x ho b f hx cs d hc hu hd hi h
theorem fill_one (cs z : Array Value) (h : z.size = cs.size) (h0 : 0 < cs.size) : Instr.fill (fun i => some (i * cs.size, cs.size)) z [(0, .agg cs)] = some cs := by
  have := Great.fill_whole h0 [.agg cs] z (by simp [Value.cells]) (by simp [h])
  simpa [Value.cells] using this
/-- a slice of one value of many cells, as one step of a region that draws -/
theorem step_build_one {P : Program} {ops : Array Oper} {o : Oper} {a : Act} {w : World} {K : Act → World → Prop} {Q : Exit → Act → World → Prop} {E : Prop} (hgd : o.guard = none) (t e : TypeId) (x : Operand) (ho : o.op = .buildSlice t 1 #[(0, x)])
    (cs : Array Value) (hx : a.eval x = .agg cs) (ie : TypeInfo) (z : Value) (hu : P.underlying t = some (.slice e)) (hie : P.info? e = some ie) (hz : ie.zero = some z) (hsz : ie.size = cs.size) (hzs : z.cells.size = cs.size) (h0 : 0 < cs.size) (hsm : cs.size ≤ 16777216)
    (h : K (a.put o.dst (.slice (some ⟨w.heap.size, 0, none⟩) 1 1)) (w.alloc (.cells cs e))) : if Region.wanted o (yielded ops a.tmps) = true then Oper.wp P o a w K Q else E := by
  have hw : Region.wanted o (yielded ops a.tmps) = true := by simp [Region.wanted, hgd]
  rw [if_pos hw]
  refine wp_buildSlice t e 1 _ ho cs ie z hu hie hz (by rw [hsz]; omega) (by rw [hsz]; omega) ?_ h
  simp only [List.map_toArray, List.map_cons, List.map_nil, hx, hsz]
  exact fill_one cs _ (by simp) h0
theorem built_writing (i : Nat) : Try.prog.built 57 [(0, Value.int .i64 (i : Nat))] = some (wcells (i, zeros 64)).toArray := by kernel_rfl
/-- a text, laid over a writing's noughts -/
theorem splice_text (i : Nat) (s : ByteArray) (h : s.size ≤ 64) : splice (wcells (i, zeros 64)) 1 (Lib.byteCells s.data.toList) = wcells (i, fullL s.data.toList) := by
  have hl : s.data.toList.length = s.size := by simp
  have e : Lib.byteCells s.data.toList = bytesV s.data.toList := rfl
  rw [e]
  show Value.int .i64 (i : Nat) :: (bytesV s.data.toList ++ (wcells (i, zeros 64)).drop (1 + (bytesV s.data.toList).length)) = _ :: bytesV _
  congr 1
  unfold fullL
  rw [bytesV_append, bytesV_length, hl]
  congr 1
  rw [Nat.add_comm]
  show (bytesV (zeros 64)).drop s.size = _
  rw [bytesV_drop]
  unfold zeros
  rw [List.drop_replicate]

def wroteD (D : DiskS) (i : Nat) (s : ByteArray) : DiskS := { D with wait := D.wait ++ [(i, fullL s.data.toList)], fuse := if D.fuse < 0 then D.fuse else D.fuse - 1 }

theorem write_end {F : Nat → Prop} {w w2 w4 w5 : World} {b i g5 c5 H : Nat} {D1 : DiskS} {s : ByteArray} {lv wv kv : Value} {o : Obj} (T : Turn F w w2) (t4 : Turn (fun _ => False) w2 w4) (m : DiskMem w4 b D1 lv wv kv) (hb : b < w.heap.size)
    (f1 : F b) (f2 : ∀ g, lv.ownBlock = some g → F g) (f3 : ∀ g, wv.ownBlock = some g → F g) (f4 : ∀ g, kv.ownBlock = some g → F g)
    (hi : i < D1.last.length) (hs : s.size ≤ 64) (hown : w5.ownsRow 0 57 65 (.slice (some ⟨g5, 0, none⟩) (D1.wait.length + 1) c5) (D1.wait.length + 1) (wflat D1.wait ++ wcells (i, fullL s.data.toList)))
    (hg : (w4.drew.alloc o).grownBy w5 wv.ownBlock) (hat : wv.ownBlock = some g5 ∨ g5 = H) (hH : (w4.drew.alloc o).heap.size = H) (hlt : g5 < w5.heap.size) :
    DiskAt (grow F w (w5.setCell ⟨b, 1, none⟩ (.slice (some ⟨g5, 0, none⟩) (D1.wait.length + 1) c5))) (w5.setCell ⟨b, 1, none⟩ (.slice (some ⟨g5, 0, none⟩) (D1.wait.length + 1) c5)) b { D1 with wait := D1.wait ++ [(i, fullL s.data.toList)] } ∧
      Turn F w (w5.setCell ⟨b, 1, none⟩ (.slice (some ⟨g5, 0, none⟩) (D1.wait.length + 1) c5)) := by
  have hfl := fullL_length s.data.toList (by simpa using hs)
  have hsz4 : w.heap.size ≤ w4.heap.size := Nat.le_trans T.size t4.size
  have hH2 : w4.heap.size + 1 = H := by rw [← hH]; simp
  have t5 : Turn (fun i => wv.ownBlock = some i) w4 w5 := (((Turn.refl _ w4).drew).alloc o).row hg (fun i _ e => e)
  have hgb : g5 ≠ b := by
    rcases hat with h | h
    · intro e; exact m.wb (by rw [h, e])
    · have := m.lt; omega
  have t6 : Turn (fun i => i = b) w5 (w5.setCell ⟨b, 1, none⟩ (.slice (some ⟨g5, 0, none⟩) (D1.wait.length + 1) c5)) := (Turn.refl (fun i => i = b) w5).setCell (fun _ => rfl) _ _
  have h5 : w5.heap[b]? = _ := t5.heap m.disk m.wb
  refine ⟨⟨lv, _, kv, ⟨heap_setCell h5 1 _, ?_, ?_, ?_, m.secs, m.waits.snoc hi hfl, m.lb, by simp only [Value.ownBlock, ne_eq, Option.some.injEq]; exact hgb, m.kb, ?_, m.lk, ?_⟩, .inl f1, fun g e => .inl (f2 g e), ?_, fun g e => .inl (f4 g e)⟩, ?_⟩
  · exact own_turn (own_turn m.last t5 (fun g e q => m.lw g e q)) t6 (fun g e q => m.lb (by rw [e, q]))
  · rw [show ({ D1 with wait := D1.wait ++ [(i, fullL s.data.toList)] } : DiskS).wait.length = D1.wait.length + 1 from by simp, show ({ D1 with wait := D1.wait ++ [(i, fullL s.data.toList)] } : DiskS).wait = D1.wait ++ [(i, fullL s.data.toList)] from rfl, wflat_snoc]
    exact own_turn hown t6 (fun g e q => by cases e; exact hgb q)
  · exact own_turn (own_turn m.keep t5 (fun g e q => m.wk g q e)) t6 (fun g e q => m.kb (by rw [e, q]))
  · intro g e q
    simp only [Value.ownBlock, Option.some.injEq] at q
    subst q
    rcases hat with h | h
    · exact m.lw g5 e h
    · have := (m.last.lt g5 e).2; omega
  · intro g e q
    simp only [Value.ownBlock, Option.some.injEq] at e
    subst e
    rcases hat with h | h
    · exact m.wk g5 h q
    · have := (m.keep.lt g5 q).2; omega
  · intro g e
    simp only [Value.ownBlock, Option.some.injEq] at e
    subst e
    rcases hat with h | h
    · exact .inl (f3 g5 h)
    · exact .inr ⟨by omega, by rw [size_setCell]; exact hlt⟩
  · exact ((T.then (t4.mono (fun _ _ q => q.elim))).trans t5 (fun i _ e => f3 i e)).trans t6 (fun i _ e => by rw [e]; exact f1)

set_option maxHeartbeats 8000000 in
set_option maxRecDepth 100000 in
theorem write_tail (F : Nat → Prop) (b : Nat) (D D1 : DiskS) (i : Nat) (s : ByteArray) (w w1 : World) (hr : Calls Try.prog 18 #[.pointer (some ⟨b, 0, none⟩), .int .i64 i] w fun e w' => e = .returned (.int .i64 0) ∧ w = w')
    (hb : Calls Try.prog 21 #[.pointer (some ⟨b, 0, none⟩)] w fun e w' => e = .returned (.bool false) ∧ DiskAt F w' b D1 ∧ Turn F w w')
    (hi : i < D1.last.length) (hs : s.size ≤ 64) (hwl : D1.wait.length ≤ 1000000000) (hbl : b < w.heap.size) :
    Calls Try.prog 15 #[.pointer (some ⟨b, 0, none⟩), .int .i64 i, .string s] w fun e w' => e = .returned (.int .i64 0) ∧ DiskAt (grow F w w') w' b { D1 with wait := D1.wait ++ [(i, fullL s.data.toList)] } ∧ Turn F w w' := by
  obtain ⟨i0, hti, hz0, hz1, hz2⟩ := info_parts infoWriting
  have C := Lib.hid hr
  have C2 := Lib.hid hb
  have HI : Hid ((Try.prog.info? 57).map (·.size) = some (wcells (i, zeros 64)).toArray.size) := by
    show _ = _
    rw [List.size_toArray, wcells_length _ rfl]; kernel_rfl
  have H1 : Hid ((wcells (i, zeros 64)).toArray.all (·.oneCell') = true) := all_oneCell_toArray (wcells_one _)
  have HL0 : Hid ((wcells (i, zeros 64)).toArray.size = 65) := by show _ = _; rw [List.size_toArray, wcells_length _ rfl]
  have HS : Hid (1 + s.size ≤ (wcells (i, zeros 64)).length) := by rw [wcells_length _ rfl]; show _ ≤ _; omega
  clear hr hb
  have hz1 := wZ_size
  have hz2 := wZ_ne
  have hz3 := zero_writing
  go_enter Try.func15, Try.ntmps15
  go_wp2_with fail
  refine C.out.mono ?_
  rintro e w1 ⟨rfl, rfl⟩
  go_wp2_with fail
  refine C2.out.mono ?_
  rintro e w2 ⟨rfl, hd, t⟩
  have HD := Lib.hid hd
  have T := Lib.hid t
  clear hd t
  go_upto_region 9 with (first
    | (refine wpList_buildTo (by rfl) 57 _ (by rfl) (some 21) (by rfl) (wcells (i, zeros 64)).toArray (by exact built_writing i) ?_)
    | (refine wpList_store_rowTo (by rfl) 57 (.tmp 8) (.tmp 21) (by rfl) (by rfl) w2.heap.size (wcells (i, zeros 64)).toArray (by rfl) (by rfl) 57 _ (heap_alloc_new w2 _) HI.out (by exact HL0.out.symm) H1.out ?_))
  generalize hW : World.setRow (World.alloc w2 _) w2.heap.size _ = w3
  rw [World.setRow_alloc_new] at hW
  have g3 : w2.grownBy w3 none := by rw [← hW]; exact World.grownBy_alloc _ _ _
  have hA : w3.heap[w2.heap.size]? = some (.cells (wcells (i, zeros 64)).toArray 57 (0, 0)) := by rw [← hW]; exact heap_alloc_at _ _ _ rfl
  clear hW hz1 hz2 hz3
  have hszA : w2.heap.size < w3.heap.size := (Array.getElem?_eq_some_iff.1 hA).1
  have HA := Lib.hid hA
  clear hA
  go_upto_region 10 with (first
    | (refine wpList_copy_text (by rfl) (.tmp 23) (.tmp 24) 32 9 (by rfl) 5 Try.underlying32 infoU8 _ 64 64 s (by rfl) (by rfl) w2.heap.size 1 _ 57 HA.out hs (fun _ => rfl) HS.out ?_; intro w4 hR4 hg4))
  have t4 : Turn (fun _ => False) w2 w4 := (Turn.of_grown g3).row hg4 (fun i hi e => by cases e; omega)
  rw [splice_text i s hs] at hR4
  obtain ⟨lv, wv, kv, m, f1, f2, f3, f4⟩ := HD.out.turn t4 (fun _ _ _ q => q)
  have hfl := fullL_length s.data.toList (by simpa using hs)
  have hcl := wcells_length (i, fullL s.data.toList) hfl
  have hwl2 : D1.wait.length + 1 ≤ maxLen := by unfold maxLen; omega
  have hwl3 : (D1.wait.length + 1) * 72 ≤ 140737488355328 := by omega
  have e1 : w4.cell? ⟨b, 1, none⟩ = some wv := by rw [cell_of m.disk]; rfl
  have hb4 : b < w4.heap.size := m.lt
  have hb5 : ¬ b = w4.heap.size := by omega
  have M := Lib.hid m
  have HF := Lib.hid (And.intro hwl2 hwl3)
  have HCL := Lib.hid hcl
  have HRA : Hid (w4.drew.rangeAt w2.heap.size 0 (wcells (i, fullL s.data.toList))) := by
    intro j v hv
    show w4.cell? _ = _
    rw [cell_of hR4.out, List.getElem?_toArray, Nat.zero_add]
    exact hv
  have HI61 : Hid ((Try.prog.info? 57).map (·.size) = some (wcells (i, fullL s.data.toList)).length) := by show _ = _; rw [hcl]; kernel_rfl
  have HSZ : Hid (i0.size = (wcells (i, fullL s.data.toList)).toArray.size ∧ (Value.agg (wcells (0, zeros 64)).toArray).cells.size = (wcells (i, fullL s.data.toList)).toArray.size ∧ 0 < (wcells (i, fullL s.data.toList)).toArray.size ∧ (wcells (i, fullL s.data.toList)).toArray.size ≤ 16777216) := by
    show _ ∧ _
    rw [List.size_toArray, hcl]
    exact ⟨hz1, rfl, by decide, by decide⟩
  have HB : Hid (b < w.heap.size) := hbl
  have HE5 : Hid (∀ w5 : World, (w4.drew.alloc (.cells (wcells (i, fullL s.data.toList)).toArray 57)).grownBy w5 wv.ownBlock → w5.cell? ⟨b, 1, none⟩ = some wv ∧ w5.frozen? ⟨b, 1, none⟩ = false) := by
    intro w5 hg
    have t5 : Turn (fun i => wv.ownBlock = some i) w4 w5 := (((Turn.refl _ w4).drew).alloc _).row hg (fun i _ e => e)
    have h5 := t5.heap m.disk m.wb
    exact ⟨by rw [cell_of h5]; rfl, free_of h5 1⟩
  clear m hfl hcl hwl2 hwl3
  refine wp_region_any (by kernel_rfl) ?_
  try (change wpAny _ _ _ _ _ _ _ (World.drew _))
  refine wpAny_take (i := 0) (v := ?vz_0) rfl (by kernel_rfl) (by kernel_rfl) (by kernel_rfl) (fun _ _ _ h => h) (Or.inl ⟨by rfl, ?hz_0⟩) ?rz_0
  case hz_0 => (intro w0; go_simp; (try with_reducible rfl))
  try simp only [Act.put, List.setIfInBounds_toArray, List.set_cons_zero, List.set_cons_succ]
  refine wpAny_take (i := 1) (v := ?vz_1) rfl (by kernel_rfl) (by kernel_rfl) (by kernel_rfl) (fun _ _ _ h => h) (Or.inl ⟨by rfl, ?hz_1⟩) ?rz_1
  case hz_1 => (intro w0; go_simp; (try with_reducible rfl))
  try simp only [Act.put, List.setIfInBounds_toArray, List.set_cons_zero, List.set_cons_succ]
  refine wpAny_take (i := 2) (v := ?vz_2) rfl (by kernel_rfl) (by kernel_rfl) (by kernel_rfl) (fun _ _ _ h => h) (Or.inl ⟨by rfl, ?hz_2⟩) ?rz_2
  case hz_2 => (intro w0; go_simp; (try with_reducible rfl))
  try simp only [Act.put, List.setIfInBounds_toArray, List.set_cons_zero, List.set_cons_succ]
  refine wpAny_take (i := 3) (v := ?vz_3) rfl (by kernel_rfl) (by kernel_rfl) (by kernel_rfl) (fun _ _ _ h => h) (Or.inl ⟨by rfl, ?hz_3⟩) ?rz_3
  case hz_3 => (intro w0; go_simp; (try with_reducible rfl))
  try simp only [Act.put, List.setIfInBounds_toArray, List.set_cons_zero, List.set_cons_succ]
  refine wpAny_ready (rs := [4, 5]) (by kernel_rfl) (by simp) ?_
  refine AllReady.cons rfl (fun K hK => ?az_5) ?bz_5
  case az_5 =>
    go_simp
    refine hK _ _ ?_
    clear hK K
    try simp only [Act.put, List.setIfInBounds_toArray, List.set_cons_zero, List.set_cons_succ]
    refine wpAny_ready (rs := [5]) (by kernel_rfl) (by simp) ?_
    refine AllReady.cons rfl (fun K hK => ?az_6) ?bz_6
    case az_6 =>
      (refine step_load_mid rfl 57 (.tmp 8) rfl w2.heap.size 0 rfl (wcells (i, fullL s.data.toList)) _ HRA.out Try.underlying57 rfl HI61.out ?_)
      refine hK _ _ ?_
      clear hK K
      try simp only [Act.put, List.setIfInBounds_toArray, List.set_cons_zero, List.set_cons_succ]
      refine wpAny_ready (rs := [6]) (by kernel_rfl) (by simp) ?_
      refine AllReady.cons rfl (fun K hK => ?az_7) ?bz_7
      case az_7 =>
        (refine step_build_one rfl 47 57 (.tmp 31) rfl (wcells (i, fullL s.data.toList)).toArray rfl i0 _ Try.underlying47 hti hz0 HSZ.out.1 HSZ.out.2.1 HSZ.out.2.2.1 HSZ.out.2.2.2 ?_)
        refine hK _ _ ?_
        clear hK K
        try simp only [Act.put, List.setIfInBounds_toArray, List.set_cons_zero, List.set_cons_succ]
        refine wpAny_ready (rs := [7]) (by kernel_rfl) (by simp) ?_
        refine AllReady.cons rfl (fun K hK => ?az_8) ?bz_8
        case az_8 =>
          (refine step_append_lies _ rfl (.tmp 30) (.tmp 32) 47 rfl 0 57 i0 _ 65 72 Try.underlying47 hti hz0 hz1 hz2 rfl (by decide) wv D1.wait.length (wflat D1.wait) rfl (M.out.wait.alloc _) ⟨w4.heap.size, 0, none⟩ 1 1 (wcells (i, fullL s.data.toList)) rfl HCL.out (World.news_of_block (heap_alloc_new _ _)) (wcells_one _) Nat.zero_lt_one HF.out.1 HF.out.2 (Nat.zero_le _) _ rfl ?_; intro g5 c5 w5 hown5 hg5 hat5 hlt5; obtain ⟨e5, f5⟩ := HE5.out w5 hg5; have HE := Lib.hid (And.intro hown5 (And.intro hg5 (And.intro hat5 hlt5))); clear hown5 hg5 hat5 hlt5)
          refine hK _ _ ?_
          clear hK K
          try simp only [Act.put, List.setIfInBounds_toArray, List.set_cons_zero, List.set_cons_succ]
          refine wpAny_take (i := 8) (v := ?vz_8) rfl (by kernel_rfl) (by kernel_rfl) (by kernel_rfl) (fun _ _ _ h => h) (Or.inl ⟨by rfl, ?hz_8⟩) ?rz_8
          case hz_8 => (intro w0; go_simp; (try with_reducible rfl))
          try simp only [Act.put, List.setIfInBounds_toArray, List.set_cons_zero, List.set_cons_succ]
          refine wpAny_take (i := 9) (v := ?vz_9) rfl (by kernel_rfl) (by kernel_rfl) (by kernel_rfl) (fun _ _ _ h => h) (Or.inl ⟨by rfl, ?hz_9⟩) ?rz_9
          case hz_9 => (intro w0; go_simp; (try with_reducible rfl))
          try simp only [Act.put, List.setIfInBounds_toArray, List.set_cons_zero, List.set_cons_succ]
          refine wpAny_ready (rs := [10]) (by kernel_rfl) (by simp) ?_
          refine AllReady.cons rfl (fun K hK => ?az_11) ?bz_11
          case az_11 =>
            go_simp
            refine hK _ _ ?_
            clear hK K
            try simp only [Act.put, List.setIfInBounds_toArray, List.set_cons_zero, List.set_cons_succ]
            refine wpAny_done (by kernel_rfl) ?_ _
            try dsimp only
            (go_wp2_with fail; go_ret; exact ⟨rfl, write_end T.out t4 M.out HB.out f1 f2 f3 f4 hi hs HE.out.1 HE.out.2.1 HE.out.2.2.1 rfl HE.out.2.2.2⟩)
          case bz_11 =>
            exact AllReady.nil
        case bz_8 =>
          exact AllReady.nil
      case bz_7 =>
        exact AllReady.nil
    case bz_6 =>
      exact AllReady.nil
  case bz_5 =>
    refine AllReady.cons rfl (fun K hK => ?az_12) ?bz_12
    case az_12 =>
      (refine step_load_mid rfl 57 (.tmp 8) rfl w2.heap.size 0 rfl (wcells (i, fullL s.data.toList)) _ HRA.out Try.underlying57 rfl HI61.out ?_)
      refine hK _ _ ?_
      clear hK K
      try simp only [Act.put, List.setIfInBounds_toArray, List.set_cons_zero, List.set_cons_succ]
      refine wpAny_ready (rs := [4, 6]) (by kernel_rfl) (by simp) ?_
      refine AllReady.cons rfl (fun K hK => ?az_13) ?bz_13
      case az_13 =>
        go_simp
        refine hK _ _ ?_
        clear hK K
        try simp only [Act.put, List.setIfInBounds_toArray, List.set_cons_zero, List.set_cons_succ]
        refine wpAny_ready (rs := [6]) (by kernel_rfl) (by simp) ?_
        refine AllReady.cons rfl (fun K hK => ?az_14) ?bz_14
        case az_14 =>
          (refine step_build_one rfl 47 57 (.tmp 31) rfl (wcells (i, fullL s.data.toList)).toArray rfl i0 _ Try.underlying47 hti hz0 HSZ.out.1 HSZ.out.2.1 HSZ.out.2.2.1 HSZ.out.2.2.2 ?_)
          refine hK _ _ ?_
          clear hK K
          try simp only [Act.put, List.setIfInBounds_toArray, List.set_cons_zero, List.set_cons_succ]
          refine wpAny_ready (rs := [7]) (by kernel_rfl) (by simp) ?_
          refine AllReady.cons rfl (fun K hK => ?az_15) ?bz_15
          case az_15 =>
            (refine step_append_lies _ rfl (.tmp 30) (.tmp 32) 47 rfl 0 57 i0 _ 65 72 Try.underlying47 hti hz0 hz1 hz2 rfl (by decide) wv D1.wait.length (wflat D1.wait) rfl (M.out.wait.alloc _) ⟨w4.heap.size, 0, none⟩ 1 1 (wcells (i, fullL s.data.toList)) rfl HCL.out (World.news_of_block (heap_alloc_new _ _)) (wcells_one _) Nat.zero_lt_one HF.out.1 HF.out.2 (Nat.zero_le _) _ rfl ?_; intro g5 c5 w5 hown5 hg5 hat5 hlt5; obtain ⟨e5, f5⟩ := HE5.out w5 hg5; have HE := Lib.hid (And.intro hown5 (And.intro hg5 (And.intro hat5 hlt5))); clear hown5 hg5 hat5 hlt5)
            refine hK _ _ ?_
            clear hK K
            try simp only [Act.put, List.setIfInBounds_toArray, List.set_cons_zero, List.set_cons_succ]
            refine wpAny_take (i := 8) (v := ?vz_15) rfl (by kernel_rfl) (by kernel_rfl) (by kernel_rfl) (fun _ _ _ h => h) (Or.inl ⟨by rfl, ?hz_15⟩) ?rz_15
            case hz_15 => (intro w0; go_simp; (try with_reducible rfl))
            try simp only [Act.put, List.setIfInBounds_toArray, List.set_cons_zero, List.set_cons_succ]
            refine wpAny_take (i := 9) (v := ?vz_16) rfl (by kernel_rfl) (by kernel_rfl) (by kernel_rfl) (fun _ _ _ h => h) (Or.inl ⟨by rfl, ?hz_16⟩) ?rz_16
            case hz_16 => (intro w0; go_simp; (try with_reducible rfl))
            try simp only [Act.put, List.setIfInBounds_toArray, List.set_cons_zero, List.set_cons_succ]
            refine wpAny_ready (rs := [10]) (by kernel_rfl) (by simp) ?_
            refine AllReady.cons rfl (fun K hK => ?az_18) ?bz_18
            case az_18 =>
              go_simp
              refine hK _ _ ?_
              clear hK K
              try simp only [Act.put, List.setIfInBounds_toArray, List.set_cons_zero, List.set_cons_succ]
              refine wpAny_done (by kernel_rfl) ?_ _
              try dsimp only
              (go_wp2_with fail; go_ret; exact ⟨rfl, write_end T.out t4 M.out HB.out f1 f2 f3 f4 hi hs HE.out.1 HE.out.2.1 HE.out.2.2.1 rfl HE.out.2.2.2⟩)
            case bz_18 =>
              exact AllReady.nil
          case bz_15 =>
            exact AllReady.nil
        case bz_14 =>
          exact AllReady.nil
      case bz_13 =>
        refine AllReady.cons rfl (fun K hK => ?az_19) ?bz_19
        case az_19 =>
          (refine step_build_one rfl 47 57 (.tmp 31) rfl (wcells (i, fullL s.data.toList)).toArray rfl i0 _ Try.underlying47 hti hz0 HSZ.out.1 HSZ.out.2.1 HSZ.out.2.2.1 HSZ.out.2.2.2 ?_)
          refine hK _ _ ?_
          clear hK K
          try simp only [Act.put, List.setIfInBounds_toArray, List.set_cons_zero, List.set_cons_succ]
          refine wpAny_ready (rs := [4]) (by kernel_rfl) (by simp) ?_
          refine AllReady.cons rfl (fun K hK => ?az_20) ?bz_20
          case az_20 =>
            go_simp
            refine hK _ _ ?_
            clear hK K
            try simp only [Act.put, List.setIfInBounds_toArray, List.set_cons_zero, List.set_cons_succ]
            refine wpAny_ready (rs := [7]) (by kernel_rfl) (by simp) ?_
            refine AllReady.cons rfl (fun K hK => ?az_21) ?bz_21
            case az_21 =>
              (refine step_append_lies _ rfl (.tmp 30) (.tmp 32) 47 rfl 0 57 i0 _ 65 72 Try.underlying47 hti hz0 hz1 hz2 rfl (by decide) wv D1.wait.length (wflat D1.wait) rfl (M.out.wait.alloc _) ⟨w4.heap.size, 0, none⟩ 1 1 (wcells (i, fullL s.data.toList)) rfl HCL.out (World.news_of_block (heap_alloc_new _ _)) (wcells_one _) Nat.zero_lt_one HF.out.1 HF.out.2 (Nat.zero_le _) _ rfl ?_; intro g5 c5 w5 hown5 hg5 hat5 hlt5; obtain ⟨e5, f5⟩ := HE5.out w5 hg5; have HE := Lib.hid (And.intro hown5 (And.intro hg5 (And.intro hat5 hlt5))); clear hown5 hg5 hat5 hlt5)
              refine hK _ _ ?_
              clear hK K
              try simp only [Act.put, List.setIfInBounds_toArray, List.set_cons_zero, List.set_cons_succ]
              refine wpAny_take (i := 8) (v := ?vz_21) rfl (by kernel_rfl) (by kernel_rfl) (by kernel_rfl) (fun _ _ _ h => h) (Or.inl ⟨by rfl, ?hz_21⟩) ?rz_21
              case hz_21 => (intro w0; go_simp; (try with_reducible rfl))
              try simp only [Act.put, List.setIfInBounds_toArray, List.set_cons_zero, List.set_cons_succ]
              refine wpAny_take (i := 9) (v := ?vz_22) rfl (by kernel_rfl) (by kernel_rfl) (by kernel_rfl) (fun _ _ _ h => h) (Or.inl ⟨by rfl, ?hz_22⟩) ?rz_22
              case hz_22 => (intro w0; go_simp; (try with_reducible rfl))
              try simp only [Act.put, List.setIfInBounds_toArray, List.set_cons_zero, List.set_cons_succ]
              refine wpAny_ready (rs := [10]) (by kernel_rfl) (by simp) ?_
              refine AllReady.cons rfl (fun K hK => ?az_24) ?bz_24
              case az_24 =>
                go_simp
                refine hK _ _ ?_
                clear hK K
                try simp only [Act.put, List.setIfInBounds_toArray, List.set_cons_zero, List.set_cons_succ]
                refine wpAny_done (by kernel_rfl) ?_ _
                try dsimp only
                (go_wp2_with fail; go_ret; exact ⟨rfl, write_end T.out t4 M.out HB.out f1 f2 f3 f4 hi hs HE.out.1 HE.out.2.1 HE.out.2.2.1 rfl HE.out.2.2.2⟩)
              case bz_24 =>
                exact AllReady.nil
            case bz_21 =>
              exact AllReady.nil
          case bz_20 =>
            exact AllReady.nil
        case bz_19 =>
          exact AllReady.nil
    case bz_12 =>
      exact AllReady.nil
end Go.Proofs.Ytfomchkmedoenaa
