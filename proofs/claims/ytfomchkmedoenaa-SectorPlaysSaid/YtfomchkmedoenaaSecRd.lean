/- Read, where it is done. -/
import Derived.Test.YtfomchkmedoenaaSecR
namespace Go.Proofs.Ytfomchkmedoenaa
open Go.RowKit Go.Shelf
attribute [local go_sem] Oper.semAt_some

theorem wpListIn_store_mid {F : Fence} {n : Nat} {P : Program} {ops : Array Oper} {rest : List Oper} {o : Oper} {a : Act} {w : World} {Q : Exit → Act → World → Prop} (hgd : o.guard = none) (ty : TypeId) (x y : Operand) (ho : o.op = .store ty x y)
    (b f : Nat) (cells : Array Value) (hx : a.eval x = .pointer (some ⟨b, f, none⟩)) (hy : a.eval y = .agg cells)
    (ht : w.there b f cells.size) (hi : (P.info? ty).map (·.size) = some cells.size) (h1 : cells.all (·.oneCell') = true)
    (h : wpListIn F n P ops Q rest (a.put o.dst undef) (w.setCells b f cells.toList)) : wpListIn F n P ops Q (o :: rest) a w := by
  refine wpListIn_plain hgd fun K hK => ?_
  unfold Oper.wpIn
  refine ⟨?_, ?_⟩
  · simp [Oper.about, ho]
  · rw [Oper.semAt_plain F _ _ (by rw [ho]; intro c hc'; cases hc')]
    unfold execOp
    simp only [ho, hx, hy, Instr.storeAt, Instr.sureAddr, Sem.run_bind, Sem.run_pure, Result.andThen_ok, run_storeVar_mid w b f ty cells ht hi h1]
    exact hK _ _ h
/-- a block of cells -/
def CellsAt (W : World) (B : Nat) (cs : Array Value) (t : TypeId) : Prop := W.heap[B]? = some (.cells cs t (0, 0))
theorem cells_own {B : Nat} {cs : Array Value} {t : TypeId} {X Y : World} {row : Option Nat} (h : CellsAt X B cs t) (hg : X.grownBy Y row) (hr : ∀ r, row = some r → ∃ o, X.heap[r]? = some o ∧ o.isCells = false) : CellsAt Y B cs t := by
  have h' : X.heap[B]? = _ := h
  refine (hg.block B (Array.getElem?_eq_some_iff.1 h').1 (fun e => ?_)).trans h
  obtain ⟨o, ho, hc⟩ := hr B e.symm
  rw [h'] at ho
  cases ho
  cases hc

theorem results_read {n : Nat} {v : ByteArray} {tmps : Array Value} {w : World} (h4 : tmps[4]? = some (.pointer (some ⟨n + 1, 0, none⟩))) (h5 : tmps[5]? = some (.pointer (some ⟨n + 1 + 1, 0, none⟩))) (hs : w.cell? ⟨n + 1, 0, none⟩ = some (.string v)) (he : w.cell? ⟨n + 1 + 1, 0, none⟩ = some (.int .i64 0)) :
    (results Try.f9 tmps).run Try.prog w = .ok (.tuple #[.string v, .int .i64 0]) w := by
  simp [results, Try.results9, go_sem, h4, h5, hs, he]
theorem read_box {W : World} {B D : Nat} {t : TypeId} {v : Value} {o : Obj} (h : Boxed W B t v) (hd : B ≠ D) : (W.putObj D o).cell? ⟨B, 0, none⟩ = some v :=
  Boxed.cell (t := t) ((World.putObj_heap_other hd).trans h)
theorem read_put {w W : World} {n D : Nat} {o : Obj} (h : Below n w W) (hd : n ≤ D) : Below n w (W.putObj D o) :=
  h.trans ⟨rfl, rfl, rfl, by simp, fun k hk => World.putObj_heap_other (by omega)⟩
set_option maxRecDepth 100000 in
set_option maxHeartbeats 4000000 in
theorem read_mem (b i gl cl : Nat) (D : DiskS) (wv kv : Value) (w : World) (hm : DiskMem w b D (.slice (some ⟨gl, 0, none⟩) D.last.length cl) wv kv) (h : D.on = true) (hi : i < D.last.length) (hwl : D.wait.length ≤ 1000000000) :
    Calls Try.prog 9 #[.pointer (some ⟨b, 0, none⟩), .int .i64 i] w fun e w' => e = .returned (.tuple #[.string (str (readL D.last D.wait i)), .int .i64 0]) ∧ Below w.heap.size w w' := by
  obtain ⟨wa, wn, wc, rfl⟩ : ∃ a n c, wv = .slice a n c := by rcases own_form hm.wait with ⟨rfl, _⟩ | ⟨_, _, rfl⟩ <;> exact ⟨_, _, _, rfl⟩
  have M : Hid (∀ w', Below w.heap.size w w' → DiskMem w' b D (.slice (some ⟨gl, 0, none⟩) D.last.length cl) (.slice wa wn wc) kv) := fun w' g => hm.turn (S := fun _ => False) ⟨g.os, g.tape, g.output, g.size, fun i hi _ => g.block i hi⟩ (fun q => q) (fun _ _ q => q) (fun _ _ q => q) (fun _ _ q => q)
  have C : Hid (∀ w', Below w.heap.size w w' → Calls Try.prog 18 #[.pointer (some ⟨b, 0, none⟩), .int .i64 i] w' fun e w'' => e = .returned (.int .i64 0) ∧ w' = w'') := fun w' g => reaches_at_ok (fun _ => True) b D i w' ⟨_, _, _, M.out w' g, trivial, fun _ _ => trivial, fun _ _ => trivial, fun _ _ => trivial⟩ h hi
  have HB := hm.lt
  clear hm h
  refine (callsIn_wide (n := 6)).1 ?_
  refine callsIn_of_wp_marks Try.func9 rfl trivial ?_ rfl
  simp only [Try.ntmps9, List.size_toArray, List.length_cons, List.length_nil, Nat.reduceAdd, Nat.reduceSub, Array.replicate_succ, Array.replicate_zero, List.push_toArray, List.append_toArray, List.nil_append, List.cons_append]
  refine wpIn_wide.2 ?_
  go_wp2_with fail
  refine (C.out _ (((((Below.refl _ w).alloc (Nat.le_refl _) _).alloc (by simp) _).alloc (by simp; omega) _))).mono ?_
  rintro e w1 ⟨rfl, rfl⟩
  have bi := ((Boxed.new w 3 (.int .i64 (i : Nat))).alloc (.cells #[.string ⟨#[]⟩] 9)).alloc (.cells #[.int .i64 0] 25)
  have bs := (Boxed.new (w.alloc (.cells #[.int .i64 (i : Nat)] 3)) 9 (.string ⟨#[]⟩)).alloc (.cells #[.int .i64 0] 25)
  have be := Boxed.new ((w.alloc (.cells #[.int .i64 (i : Nat)] 3)).alloc (.cells #[.string ⟨#[]⟩] 9)) 25 (.int .i64 0)
  have hB3 : Below w.heap.size w (((w.alloc (.cells #[.int .i64 (i : Nat)] 3)).alloc (.cells #[.string ⟨#[]⟩] 9)).alloc (.cells #[.int .i64 0] 25)) := ((Below.refl _ w).alloc (Nat.le_refl _) _).alloc (by simp) _ |>.alloc (by simp; omega) _
  have hs3 : (((w.alloc (.cells #[.int .i64 (i : Nat)] 3)).alloc (.cells #[.string ⟨#[]⟩] 9)).alloc (.cells #[.int .i64 0] 25)).heap.size = w.heap.size + 3 := by simp
  simp only [World.size_alloc] at bs be
  obtain ⟨W3, hW3⟩ : ∃ W3, ((w.alloc (.cells #[.int .i64 (i : Nat)] 3)).alloc (.cells #[.string ⟨#[]⟩] 9)).alloc (.cells #[.int .i64 0] 25) = W3 := ⟨_, rfl⟩
  rw [hW3] at bi bs be hB3 hs3 ⊢
  clear hW3
  generalize hn : w.heap.size = n at *
  have e1 : W3.cell? ⟨b, 1, none⟩ = some (.slice wa wn wc) := by rw [cell_of (M.out W3 hB3).disk]; rfl
  have BI := Lib.hid (And.intro bi (And.intro bs be))
  have HS3 := Lib.hid hs3
  have HN := Lib.hid hn
  clear bi bs be hs3 hn
  go_wp2_with fail
  refine (backward_any wa wn wc _).mono ?_
  rintro e w1 ⟨rfl, rfl⟩
  clear e1
  go_wp2_with fail
  rw [HS3.out]
  obtain ⟨W4, hW4⟩ : ∃ W4, W3.alloc (.cells #[.slice wa wn wc] 47) = W4 := ⟨_, rfl⟩
  have hs4 : W4.heap.size = n + 4 := by rw [← hW4]; simp [HS3.out]
  have hB4 : Below n w W4 := by rw [← hW4]; exact hB3.alloc (by rw [HS3.out]; omega) _
  have B4 : Hid (Boxed W4 n 3 (.int .i64 (i : Nat)) ∧ Boxed W4 (n + 1) 9 (.string ⟨#[]⟩) ∧ Boxed W4 (n + 1 + 1) 25 (.int .i64 0) ∧ Boxed W4 (n + 3) 47 (.slice wa wn wc)) := by
    rw [← hW4]
    exact ⟨BI.out.1.alloc _, BI.out.2.1.alloc _, BI.out.2.2.alloc _, by have := Boxed.new W3 47 (.slice wa wn wc); rwa [HS3.out] at this⟩
  rw [hW4]
  clear hW4 hB3 HS3 BI
  have m4 := M.out W4 hB4
  have HW := Lib.hid hwl
  refine (wpIn_wide (n := 6)).1 ?_
  refine wpIn_rangeFunc_ownH (F := Fence.wide) rfl (by decide) (gf := 25) (lb := #[.pointer (some ⟨n + 3, 0, none⟩)]) rfl trivial (enters_of Try.func25 (by kernel_rfl) rfl)
    (backward_stops Fence.wide 5 trivial rfl (by decide) (n + 3) (n + 4) D.last.length (.slice wa wn wc) D.wait m4.waits hwl W4 (by omega) (by omega) B4.out.2.2.2.cell m4.wait (fun g e => by have := (m4.wait.lt g e).2; omega)) belowK_t (belowK_b (by omega)) (Below.refl _ _) (fun _ => rfl)
    (fun pre W => ((Boxed W n 3 (.int .i64 (i : Nat)) ∧ Boxed W (n + 1) 9 (.string ⟨#[]⟩) ∧ Boxed W (n + 1 + 1) 25 (.int .i64 0)) ∧ (∀ k ∈ pre, (ent D.wait k).1 ≠ i)) ∧ Below n W4 W)
    (fun c pre W => ∃ pre0 x, (c = .ret ∧ pre = pre0 ++ [x] ∧ (∀ k ∈ pre0, (ent D.wait k).1 ≠ i) ∧ (ent D.wait x).1 = i) ∧ (Boxed W (n + 1) 9 (.string (str (ent D.wait x).2)) ∧ Boxed W (n + 1 + 1) 25 (.int .i64 0)) ∧ Below n W4 W)
    (OwnFrom.and (OwnFrom.and (OwnFrom.and (Own.from (boxed_own _ _ _) _) (OwnFrom.and (Own.from (boxed_own _ _ _) _) (Own.from (boxed_own _ _ _) _))) (ownFrom_pure _ _)) (ownFrom_below (by omega) (by omega)))
    (fun c s X Y row hs hg hr => by
      obtain ⟨pre0, x, hp, ⟨b1, b2⟩, hb⟩ := hs
      exact ⟨pre0, x, hp, ⟨boxed_own _ _ (fun (_ : Unit) => Value.string (str (ent D.wait x).2)) () X Y row b1 hg (fun r e => (hr r e).2), boxed_own _ _ (fun (_ : Unit) => Value.int .i64 0) () X Y row b2 hg (fun r e => (hr r e).2)⟩, (ownFrom_below (β := Unit) (B := W4.heap.size) (by omega) (by omega)) () X Y row hb hg hr⟩)
    ⟨⟨⟨B4.out.1, B4.out.2.1, B4.out.2.2.1⟩, by simp⟩, Below.refl _ _⟩
    (fun x a' W => ∃ Bx, n + 2 < Bx ∧ CellsAt W Bx (wcells (ent D.wait x)).toArray 57 ∧ a' = { tmps := #[.pointer (some ⟨b, 0, none⟩), .int .i64 (i : Nat), undef, .pointer (some ⟨n, 0, none⟩), .pointer (some ⟨n + 1, 0, none⟩), .pointer (some ⟨n + 1 + 1, 0, none⟩), .int .i64 0, undef, .pointer (some ⟨Bx, 0, none⟩), .pointer (some ⟨b, 0, none⟩), .int .i64 (i : Nat), .int .i64 0, .int .i64 0, .bool false, undef, .pointer (some ⟨b, 0, none⟩), .pointer (some ⟨b, 0, none⟩), .pointer (some ⟨b, 1, none⟩), .slice wa wn wc, .func (.func 25) #[] #[.pointer (some ⟨n + 3, 0, none⟩)], .int .i64 (x : Nat), .agg (wcells (ent D.wait x)).toArray, undef, undef, undef, undef, undef, undef, undef, undef, undef, undef, undef, undef, undef, undef, undef], defers := [] })
    (fun x a' _ X Y row hs hg hr => by obtain ⟨Bx, h1, h2, h3⟩ := hs; exact ⟨Bx, h1, cells_own h2 hg (fun r e => (hr r e).2), h3⟩)
    ?assign ?body ?done ?stop
  case assign =>
    rintro l pre x W K ⟨⟨⟨b1, b2, b3⟩, hp⟩, hB⟩ hK
    unfold encW
    have hz1 := wZ_size
    have hz2 := wZ_ne
    have hz3 := zero_writing
    have hxl := wcells_length (ent D.wait x) (ent_len D.wait m4.waits x)
    have HT : Hid ((W.alloc (.cells wZ 57)).there W.heap.size 0 (wcells (ent D.wait x)).toArray.size) := by
      intro j hj
      rw [List.size_toArray, hxl] at hj
      have hh : (W.alloc (.cells wZ 57)).heap[W.heap.size]? = some (.cells wZ 57 (0, 0)) := heap_alloc_at _ _ _ rfl
      rw [cell_of hh, free_of hh]
      have : 0 + j < wZ.size := by rw [hz1]; omega
      exact ⟨by rw [Array.getElem?_eq_getElem this]; rfl, rfl⟩
    have HI : Hid ((Try.prog.info? 57).map (·.size) = some (wcells (ent D.wait x)).toArray.size) := by
      show _ = _
      rw [List.size_toArray, hxl]; kernel_rfl
    clear hxl
    gi_wp2_with (refine wpListIn_store_mid (by rfl) 57 (.tmp 8) (.tmp 21) (by rfl) W.heap.size 0 (wcells (ent D.wait x)).toArray (by rfl) (by rfl) HT.out HI.out (all_oneCell_toArray (wcells_one _)) ?_)
    obtain ⟨W', hW'⟩ : ∃ W', (W.alloc (.cells wZ 57)).setCells W.heap.size 0 (wcells (ent D.wait x)).toArray.toList = W' := ⟨_, rfl⟩
    rw [hW']
    have hg : W.grownBy W' none := by rw [← hW']; exact grownBy_setCellsNew (Nat.le_refl _) _ _ _ (World.grownBy_alloc _ _ _)
    have hc : CellsAt W' W.heap.size (wcells (ent D.wait x)).toArray 57 := by
      show _ = _
      rw [← hW', heap_setCells _ 0 _ wZ (heap_alloc_at _ _ _ rfl) (by rw [wZ_size]; simp [wcells_length _ (ent_len D.wait m4.waits x)])]
      have e1 : wZ.toList.drop (0 + (wcells (ent D.wait x)).length) = [] := List.drop_of_length_le (by rw [wcells_length _ (ent_len D.wait m4.waits x)]; simp [wZ_size])
      rw [List.toList_toArray, e1]
      simp
    have hsz := hB.size
    exact hK _ _ (KeepsFrom.of_grownBy hg (fun j e => by cases e)) ((Below.refl _ W).grown hg (by omega) (fun k e => by cases e)) ⟨⟨⟨b1.kept hg (by simp), b2.kept hg (by simp), b3.kept hg (by simp)⟩, hp⟩, hB.grown hg (by omega) (fun k e => by cases e)⟩ ⟨W.heap.size, by omega, hc, rfl⟩
  case body =>
    rintro l pre x a' W hl ⟨r, hr⟩ ⟨⟨⟨b1, b2, b3⟩, hp⟩, hB⟩ ⟨Bx, hBx, hX, rfl⟩ hlt
    have hyl := ent_len D.wait m4.waits x
    obtain ⟨q, y, hqy⟩ : ∃ q y, ent D.wait x = (q, y) := ⟨_, _, rfl⟩
    rw [hqy] at hX hyl ⊢
    have HX := Lib.hid hqy
    have c0 : W.cell? ⟨Bx, 0, none⟩ = some (.int .i64 (q : Nat)) := by rw [cell_of hX]; rfl
    have ci := b1.cell
    have cs := b2.cell
    have fs := b2.frozen
    have ce := b3.cell
    have fe := b3.frozen
    have hsz := hB.size
    by_cases hq : q = i
    · subst hq
      have HV : Hid (∀ w0 : World, w0.heap[Bx]? = some (.cells (wcells (q, y)).toArray 57 (0, 0)) → (convert 32 9 (.slice (some ⟨Bx, 1, none⟩) 64 64)).run Try.prog w0 = .ok (.string (str y)) w0) := by
        intro w0 h0
        have hyl' : y.length = 64 := hyl
        have := run_convert_bytes_back (P := Try.prog) w0 32 9 5 ⟨Bx, 1, none⟩ 64 y Try.underlying32 Try.underlying5 Try.underlying9 (fun j hj => by
          rw [addr_add, cell_of h0, List.getElem?_toArray, Nat.add_comm]
          show (bytesV y)[j]? = _
          simp [bytesV, List.getElem?_eq_getElem hj])
        rw [hyl'] at this
        exact this
      have hv := HV.out W hX
      clear hqy
      gi_wp2
      refine ⟨(KeepsOthers.setCell _ _ _).from _ |>.trans ((KeepsOthers.setCell _ _ _).from _), pre, x, ⟨rfl, rfl, hp, by rw [HX.out]⟩, ⟨?_, ?_⟩, ?_⟩
      · rw [HX.out]; exact (b2.set _).other (by omega) _
      · exact ((b3.other (by omega) _).set _)
      · exact (hB.setCell (p := ⟨n + 1, 0, none⟩) (by simp) _).setCell (p := ⟨n + 1 + 1, 0, none⟩) (by simp; omega) _
    · have hq2 : ((q : Int) == (i : Int)) = false := by simp; omega
      clear hqy
      gi_wp2
      exact ⟨KeepsFrom.refl _ _, Below.refl _ _, ⟨⟨b1, b2, b3⟩, fun k hk => by rcases List.mem_append.1 hk with h | h; exact hp k h; rw [List.mem_singleton.1 h, HX.out]; exact hq⟩, hB⟩
  case done =>
    rintro D' xs W hD rfl ⟨⟨⟨b1, b2, b3⟩, hp⟩, hB⟩ hK
    have mW := M.out W (hB4.trans hB)
    have ci := b1.cell
    have cs := b2.cell
    have fs := b2.frozen
    have ce := b3.cell
    have fe := b3.frozen
    have c0 : W.cell? ⟨b, 0, none⟩ = some (.slice (some ⟨gl, 0, none⟩) D.last.length cl) := by rw [cell_of mW.disk]; rfl
    have z0 : (0 : Int) ≤ (i : Int) := by omega
    have z1 : (i : Int) < (D.last.length : Int) := by omega
    have hv : (convert 32 9 (.slice (some ⟨gl, i * 64, none⟩) 64 64)).run Try.prog W.drew = .ok (.string (str (D.last.getD i []))) W.drew := by
      obtain ⟨rest, hrow, _, hrl, _, _, _⟩ := own_block mW.last
      have hs := mW.secs.at hi
      have := run_convert_bytes_back (P := Try.prog) W.drew 32 9 5 ⟨gl, i * 64, none⟩ 64 (D.last.getD i []) Try.underlying32 Try.underlying5 Try.underlying9 (fun j hj => by
        rw [hs] at hj
        have h2 : (i + 1) * 64 ≤ D.last.length * 64 := Nat.mul_le_mul_right 64 hi
        show W.cell? _ = _
        rw [addr_add, cell_of hrow, List.getElem?_toArray, List.getElem?_append_left (by rw [bytesV_length, sflat_length _ mW.secs]; omega)]
        rw [show bytesV (sflat D.last) = (sflat D.last).map fun c => Value.int .u8 c.toNat from rfl, List.getElem?_map, sflat_at _ mW.secs i hi j hj]
        have e : D.last.getD i [] = D.last[i] := by rw [List.getD_eq_getElem?_getD, List.getElem?_eq_getElem hi]; rfl
        have hj2 : j < (D.last[i]).length := by rw [← e, hs]; exact hj
        rw [List.getElem?_eq_getElem hj2]
        simp only [e]
        rfl)
      rw [hs] at this
      exact this
    have e9 : readL D.last D.wait i = D.last.getD i [] := readL_none D.last D.wait i (fun k hk => by
      have hkl : k < D.wait.length := by
        obtain ⟨j, hj, rfl⟩ := List.mem_map.1 hk
        have := List.mem_range.1 hj
        omega
      have := hp k hk
      rw [ent_at _ _ hkl] at this
      rw [List.getD_eq_getElem?_getD, List.getElem?_eq_getElem hkl]
      exact this)
    obtain ⟨R, hR⟩ : ∃ R, D.last.getD i [] = R := ⟨_, rfl⟩
    rw [hR] at e9 hv
    have E9 := Lib.hid e9
    clear e9 hR
    go_wp2_with fail
    go_region
    all_goals
      go_wp2_with fail
      rw [E9.out]
      refine ⟨by simp, .inl ⟨_, _, rfl, run_takeDeferred (by show ((W.setCell _ _).setCell _ _).heap[D']? = _; rw [heap_setCell_ne _ _ _ _ (by omega), heap_setCell_ne _ _ _ _ (by omega)]; exact hK), ?_⟩⟩
      refine ⟨_, results_read rfl rfl ?_ ?_, rfl, ?_⟩
      · exact read_box ((b2.set _).other (by omega) _) (by omega)
      · exact read_box ((b3.other (by omega) _).set _) (by omega)
      · rw [HN.out]
        exact read_put ((((hB4.trans hB).setCell (p := ⟨n + 1, 0, none⟩) (by simp) _).setCell (p := ⟨n + 1 + 1, 0, none⟩) (by simp; omega) _).drew) (by omega)
  case stop =>
    rintro D' c pre W hD hS ⟨pre0, x, ⟨rfl, hpre, h0, h1⟩, ⟨b1, b2⟩, hB⟩ hK
    refine wpIn_wide.2 ?_
    go_wp2_with fail
    have e9 : readL D.last D.wait i = (ent D.wait x).2 := by
      obtain ⟨k, hk, hpk⟩ := hS
      rw [downs_succ] at hpk
      obtain ⟨hp1, hp2⟩ := List.append_inj' (hpre.symm.trans hpk) rfl
      obtain rfl : x = D.wait.length - 1 - k := by simpa using hp2
      have hlt : D.wait.length - 1 - k < D.wait.length := by omega
      have eg : ∀ j, j < D.wait.length → D.wait.getD j (0, []) = ent D.wait j := fun j hj => by rw [ent_at _ _ hj, List.getD_eq_getElem?_getD, List.getElem?_eq_getElem hj]; rfl
      rw [readL_found D.last D.wait i k hk (fun j hj => by
        have hjl : j < D.wait.length := by
          obtain ⟨t, ht, rfl⟩ := List.mem_map.1 hj
          omega
        rw [eg j hjl]
        exact h0 j (by rw [hp1]; exact hj)) (by rw [eg _ hlt]; exact h1), eg _ hlt]
    rw [e9]
    refine ⟨by simp, .inl ⟨_, _, rfl, run_takeDeferred hK, ?_⟩⟩
    refine ⟨_, results_read rfl rfl (read_box b1 (by omega)) (read_box b2 (by omega)), rfl, ?_⟩
    rw [HN.out]
    exact read_put (hB4.trans hB) (by omega)
theorem read_ok (F : Nat → Prop) (b i : Nat) (D : DiskS) (w : World) (hm : DiskAt F w b D) (h : D.on = true) (hi : i < D.last.length) (hwl : D.wait.length ≤ 1000000000) :
    Calls Try.prog 9 #[.pointer (some ⟨b, 0, none⟩), .int .i64 i] w fun e w' => e = .returned (.tuple #[.string (str (readL D.last D.wait i)), .int .i64 0]) ∧ w.grownBy w' none := by
  obtain ⟨lv, wv, kv, m, _⟩ := hm
  rcases own_form m.last with ⟨_, h0⟩ | ⟨gl, cl, rfl⟩
  · omega
  · exact (read_mem b i gl cl D wv kv w m h hi hwl).mono fun e w' q => ⟨q.1, grownBy_below q.2⟩
end Go.Proofs.Ytfomchkmedoenaa
