/- Read, where it is done. · The walk of Sync. · The walk of Fuse. · A disk's contracts, beside blocks of the caller's own: X. · What a book holds in memory; the walks of a half's with, of begin, takes, Left, and a book's writings. · The walks of bits' functions. -/
import Derived.Test.YtbhoeiopckmfhaaGreatDoorTopBandsB3
import Derived.Test.YtbhoeiopckmfhaaGreatDoorTopBandsB2
import Derived.Deep.AppendLies
import Derived.Handy
import Derived.Test.YtbhoeiopckmfhaaGreatDoorTopBandsB1
import Derived.WalkSpells
import Derived.WalkLawsBesides
import Derived.Laws.IdiomStrings
import Derived.Deep.LoopGhost
import Derived.Deep.DeepCutAuto
import Derived.Deep.RegionWith
namespace Go.Proofs.YtbhoeiopckmfhaaGreatDoor
open Go.RowKit Go.Shelf
attribute [local go_sem] Oper.semAt_some

theorem wpListIn_store_mid {F : Fence} {n : Nat} {P : Program} {ops : Array Oper} {rest : List Oper} {o : Oper} {a : Act} {w : World} {Q : Exit → Act → World → Prop} (hgd : o.guard = none) (ty : TypeId) (x y : Operand) (ho : o.op = .store ty x y)
    (b f : Nat) (cells : Array Value) (hx : a.eval x = .pointer (some ⟨b, f, none⟩)) (hy : a.eval y = .agg cells)
    (ht : w.there b f cells.size) (hi : (P.info? ty).map (·.size) = some cells.size) (h1 : cells.all (·.oneCell') = true)
    (h : wpListIn F n P ops Q rest (a.put o.dst undef) (w.setCells b f cells.toList)) : wpListIn F n P ops Q (o :: rest) a w := by
  refine wpListIn_plain hgd fun K hK => ?_
  unfold Oper.wpIn
  refine ⟨?_, ?_⟩
  · simp [Oper.about, ho]
  · rw [Oper.semAt_plain F _ _ (by rw [ho]; intro c hc'; cases hc')]
    unfold execOp
    simp only [ho, hx, hy, Instr.storeAt, Instr.sureAddr, Sem.run_bind, Sem.run_pure, Result.andThen_ok, run_storeVar_mid w b f ty cells ht hi h1]
    exact hK _ _ h
/-- a block of cells -/
def CellsAt (W : World) (B : Nat) (cs : Array Value) (t : TypeId) : Prop := W.heap[B]? = some (.cells cs t (0, 0))
theorem cells_own {B : Nat} {cs : Array Value} {t : TypeId} {X Y : World} {row : Option Nat} (h : CellsAt X B cs t) (hg : X.grownBy Y row) (hr : ∀ r, row = some r → ∃ o, X.heap[r]? = some o ∧ o.isCells = false) : CellsAt Y B cs t := by
  have h' : X.heap[B]? = _ := h
  refine (hg.block B (Array.getElem?_eq_some_iff.1 h').1 (fun e => ?_)).trans h
  obtain ⟨o, ho, hc⟩ := hr B e.symm
  rw [h'] at ho
  cases ho
  cases hc

theorem results_read {n : Nat} {v : ByteArray} {tmps : Array Value} {w : World} (h4 : tmps[4]? = some (.pointer (some ⟨n + 1, 0, none⟩))) (h5 : tmps[5]? = some (.pointer (some ⟨n + 1 + 1, 0, none⟩))) (hs : w.cell? ⟨n + 1, 0, none⟩ = some (.string v)) (he : w.cell? ⟨n + 1 + 1, 0, none⟩ = some (.int .i64 0)) :
    (results Tryz.f128 tmps).run Tryz.prog w = .ok (.tuple #[.string v, .int .i64 0]) w := by
  simp [results, Tryz.results128, go_sem, h4, h5, hs, he]
theorem read_box {W : World} {B D : Nat} {t : TypeId} {v : Value} {o : Obj} (h : Boxed W B t v) (hd : B ≠ D) : (W.putObj D o).cell? ⟨B, 0, none⟩ = some v :=
  Boxed.cell (t := t) ((World.putObj_heap_other hd).trans h)
theorem read_put {w W : World} {n D : Nat} {o : Obj} (h : Below n w W) (hd : n ≤ D) : Below n w (W.putObj D o) :=
  h.trans ⟨rfl, rfl, rfl, by simp, fun k hk => World.putObj_heap_other (by omega)⟩
set_option maxRecDepth 100000 in
set_option maxHeartbeats 4000000 in
theorem read_mem (b i gl cl : Nat) (D : DiskS) (wv kv : Value) (w : World) (hm : DiskMem w b D (.slice (some ⟨gl, 0, none⟩) D.last.length cl) wv kv) (h : D.on = true) (hi : i < D.last.length) (hwl : D.wait.length ≤ 1000000000) :
    Calls Tryz.prog 128 #[.pointer (some ⟨b, 0, none⟩), .int .i64 i] w fun e w' => e = .returned (.tuple #[.string (str (readL D.last D.wait i)), .int .i64 0]) ∧ Below w.heap.size w w' := by
  obtain ⟨wa, wn, wc, rfl⟩ : ∃ a n c, wv = .slice a n c := by rcases own_form hm.wait with ⟨rfl, _⟩ | ⟨_, _, rfl⟩ <;> exact ⟨_, _, _, rfl⟩
  have M : Hid (∀ w', Below w.heap.size w w' → DiskMem w' b D (.slice (some ⟨gl, 0, none⟩) D.last.length cl) (.slice wa wn wc) kv) := fun w' g => hm.turn (S := fun _ => False) ⟨g.os, g.tape, g.output, g.size, fun i hi _ => g.block i hi⟩ (fun q => q) (fun _ _ q => q) (fun _ _ q => q) (fun _ _ q => q)
  have C : Hid (∀ w', Below w.heap.size w w' → Calls Tryz.prog 165 #[.pointer (some ⟨b, 0, none⟩), .int .i64 i] w' fun e w'' => e = .returned (.int .i64 0) ∧ w' = w'') := fun w' g => reaches_at_ok (fun _ => True) b D i w' ⟨_, _, _, M.out w' g, trivial, fun _ _ => trivial, fun _ _ => trivial, fun _ _ => trivial⟩ h hi
  have HB := hm.lt
  clear hm h
  refine (callsIn_wide (n := 6)).1 ?_
  refine callsIn_of_wp_marks Tryz.func128 rfl trivial ?_ rfl
  simp only [Tryz.ntmps128, List.size_toArray, List.length_cons, List.length_nil, Nat.reduceAdd, Nat.reduceSub, Array.replicate_succ, Array.replicate_zero, List.push_toArray, List.append_toArray, List.nil_append, List.cons_append]
  refine wpIn_wide.2 ?_
  go_wp2_with fail
  refine (C.out _ (((((Below.refl _ w).alloc (Nat.le_refl _) _).alloc (by simp) _).alloc (by simp; omega) _))).mono ?_
  rintro e w1 ⟨rfl, rfl⟩
  have bi := ((Boxed.new w 3 (.int .i64 (i : Nat))).alloc (.cells #[.string ⟨#[]⟩] 9)).alloc (.cells #[.int .i64 0] 26)
  have bs := (Boxed.new (w.alloc (.cells #[.int .i64 (i : Nat)] 3)) 9 (.string ⟨#[]⟩)).alloc (.cells #[.int .i64 0] 26)
  have be := Boxed.new ((w.alloc (.cells #[.int .i64 (i : Nat)] 3)).alloc (.cells #[.string ⟨#[]⟩] 9)) 26 (.int .i64 0)
  have hB3 : Below w.heap.size w (((w.alloc (.cells #[.int .i64 (i : Nat)] 3)).alloc (.cells #[.string ⟨#[]⟩] 9)).alloc (.cells #[.int .i64 0] 26)) := ((Below.refl _ w).alloc (Nat.le_refl _) _).alloc (by simp) _ |>.alloc (by simp; omega) _
  have hs3 : (((w.alloc (.cells #[.int .i64 (i : Nat)] 3)).alloc (.cells #[.string ⟨#[]⟩] 9)).alloc (.cells #[.int .i64 0] 26)).heap.size = w.heap.size + 3 := by simp
  simp only [World.size_alloc] at bs be
  obtain ⟨W3, hW3⟩ : ∃ W3, ((w.alloc (.cells #[.int .i64 (i : Nat)] 3)).alloc (.cells #[.string ⟨#[]⟩] 9)).alloc (.cells #[.int .i64 0] 26) = W3 := ⟨_, rfl⟩
  rw [hW3] at bi bs be hB3 hs3 ⊢
  clear hW3
  generalize hn : w.heap.size = n at *
  have e1 : W3.cell? ⟨b, 1, none⟩ = some (.slice wa wn wc) := by rw [cell_of (M.out W3 hB3).disk]; rfl
  have BI := Lib.hid (And.intro bi (And.intro bs be))
  have HS3 := Lib.hid hs3
  have HN := Lib.hid hn
  clear bi bs be hs3 hn
  go_wp2_with fail
  refine (backward_any wa wn wc _).mono ?_
  rintro e w1 ⟨rfl, rfl⟩
  clear e1
  go_wp2_with fail
  rw [HS3.out]
  obtain ⟨W4, hW4⟩ : ∃ W4, W3.alloc (.cells #[.slice wa wn wc] 99) = W4 := ⟨_, rfl⟩
  have hs4 : W4.heap.size = n + 4 := by rw [← hW4]; simp [HS3.out]
  have hB4 : Below n w W4 := by rw [← hW4]; exact hB3.alloc (by rw [HS3.out]; omega) _
  have B4 : Hid (Boxed W4 n 3 (.int .i64 (i : Nat)) ∧ Boxed W4 (n + 1) 9 (.string ⟨#[]⟩) ∧ Boxed W4 (n + 1 + 1) 26 (.int .i64 0) ∧ Boxed W4 (n + 3) 99 (.slice wa wn wc)) := by
    rw [← hW4]
    exact ⟨BI.out.1.alloc _, BI.out.2.1.alloc _, BI.out.2.2.alloc _, by have := Boxed.new W3 99 (.slice wa wn wc); rwa [HS3.out] at this⟩
  rw [hW4]
  clear hW4 hB3 HS3 BI
  have m4 := M.out W4 hB4
  have HW := Lib.hid hwl
  refine (wpIn_wide (n := 6)).1 ?_
  refine wpIn_rangeFunc_ownH (F := Fence.wide) rfl (by decide) (gf := 182) (lb := #[.pointer (some ⟨n + 3, 0, none⟩)]) rfl trivial (enters_of Tryz.func182 (by kernel_rfl) rfl)
    (backward_stops Fence.wide 5 trivial rfl (by decide) (n + 3) (n + 4) D.last.length (.slice wa wn wc) D.wait m4.waits hwl W4 (by omega) (by omega) B4.out.2.2.2.cell m4.wait (fun g e => by have := (m4.wait.lt g e).2; omega)) belowK_t (belowK_b (by omega)) (Below.refl _ _) (fun _ => rfl)
    (fun pre W => ((Boxed W n 3 (.int .i64 (i : Nat)) ∧ Boxed W (n + 1) 9 (.string ⟨#[]⟩) ∧ Boxed W (n + 1 + 1) 26 (.int .i64 0)) ∧ (∀ k ∈ pre, (ent D.wait k).1 ≠ i)) ∧ Below n W4 W)
    (fun c pre W => ∃ pre0 x, (c = .ret ∧ pre = pre0 ++ [x] ∧ (∀ k ∈ pre0, (ent D.wait k).1 ≠ i) ∧ (ent D.wait x).1 = i) ∧ (Boxed W (n + 1) 9 (.string (str (ent D.wait x).2)) ∧ Boxed W (n + 1 + 1) 26 (.int .i64 0)) ∧ Below n W4 W)
    (OwnFrom.and (OwnFrom.and (OwnFrom.and (Own.from (boxed_own _ _ _) _) (OwnFrom.and (Own.from (boxed_own _ _ _) _) (Own.from (boxed_own _ _ _) _))) (ownFrom_pure _ _)) (ownFrom_below (by omega) (by omega)))
    (fun c s X Y row hs hg hr => by
      obtain ⟨pre0, x, hp, ⟨b1, b2⟩, hb⟩ := hs
      exact ⟨pre0, x, hp, ⟨boxed_own _ _ (fun (_ : Unit) => Value.string (str (ent D.wait x).2)) () X Y row b1 hg (fun r e => (hr r e).2), boxed_own _ _ (fun (_ : Unit) => Value.int .i64 0) () X Y row b2 hg (fun r e => (hr r e).2)⟩, (ownFrom_below (β := Unit) (B := W4.heap.size) (by omega) (by omega)) () X Y row hb hg hr⟩)
    ⟨⟨⟨B4.out.1, B4.out.2.1, B4.out.2.2.1⟩, by simp⟩, Below.refl _ _⟩
    (fun x a' W => ∃ Bx, n + 2 < Bx ∧ CellsAt W Bx (wcells (ent D.wait x)).toArray 128 ∧ a' = { tmps := #[.pointer (some ⟨b, 0, none⟩), .int .i64 (i : Nat), undef, .pointer (some ⟨n, 0, none⟩), .pointer (some ⟨n + 1, 0, none⟩), .pointer (some ⟨n + 1 + 1, 0, none⟩), .int .i64 0, undef, .pointer (some ⟨Bx, 0, none⟩), .pointer (some ⟨b, 0, none⟩), .int .i64 (i : Nat), .int .i64 0, .int .i64 0, .bool false, undef, .pointer (some ⟨b, 0, none⟩), .pointer (some ⟨b, 0, none⟩), .pointer (some ⟨b, 1, none⟩), .slice wa wn wc, .func (.func 182) #[] #[.pointer (some ⟨n + 3, 0, none⟩)], .int .i64 (x : Nat), .agg (wcells (ent D.wait x)).toArray, undef, undef, undef, undef, undef, undef, undef, undef, undef, undef, undef, undef, undef, undef, undef], defers := [] })
    (fun x a' _ X Y row hs hg hr => by obtain ⟨Bx, h1, h2, h3⟩ := hs; exact ⟨Bx, h1, cells_own h2 hg (fun r e => (hr r e).2), h3⟩)
    ?assign ?body ?done ?stop
  case assign =>
    rintro l pre x W K ⟨⟨⟨b1, b2, b3⟩, hp⟩, hB⟩ hK
    unfold encW
    have hz1 := wZ_size
    have hz2 := wZ_ne
    have hz3 := zero_writing
    have hxl := wcells_length (ent D.wait x) (ent_len D.wait m4.waits x)
    have HT : Hid ((W.alloc (.cells wZ 128)).there W.heap.size 0 (wcells (ent D.wait x)).toArray.size) := by
      intro j hj
      rw [List.size_toArray, hxl] at hj
      have hh : (W.alloc (.cells wZ 128)).heap[W.heap.size]? = some (.cells wZ 128 (0, 0)) := heap_alloc_at _ _ _ rfl
      rw [cell_of hh, free_of hh]
      have : 0 + j < wZ.size := by rw [hz1]; omega
      exact ⟨by rw [Array.getElem?_eq_getElem this]; rfl, rfl⟩
    have HI : Hid ((Tryz.prog.info? 128).map (·.size) = some (wcells (ent D.wait x)).toArray.size) := by
      show _ = _
      rw [List.size_toArray, hxl]; kernel_rfl
    clear hxl
    gi_wp2_with (refine wpListIn_store_mid (by rfl) 128 (.tmp 8) (.tmp 21) (by rfl) W.heap.size 0 (wcells (ent D.wait x)).toArray (by rfl) (by rfl) HT.out HI.out (all_oneCell_toArray (wcells_one _)) ?_)
    obtain ⟨W', hW'⟩ : ∃ W', (W.alloc (.cells wZ 128)).setCells W.heap.size 0 (wcells (ent D.wait x)).toArray.toList = W' := ⟨_, rfl⟩
    rw [hW']
    have hg : W.grownBy W' none := by rw [← hW']; exact grownBy_setCellsNew (Nat.le_refl _) _ _ _ (World.grownBy_alloc _ _ _)
    have hc : CellsAt W' W.heap.size (wcells (ent D.wait x)).toArray 128 := by
      show _ = _
      rw [← hW', heap_setCells _ 0 _ wZ (heap_alloc_at _ _ _ rfl) (by rw [wZ_size]; simp [wcells_length _ (ent_len D.wait m4.waits x)])]
      have e1 : wZ.toList.drop (0 + (wcells (ent D.wait x)).length) = [] := List.drop_of_length_le (by rw [wcells_length _ (ent_len D.wait m4.waits x)]; simp [wZ_size])
      rw [List.toList_toArray, e1]
      simp
    have hsz := hB.size
    exact hK _ _ (KeepsFrom.of_grownBy hg (fun j e => by cases e)) ((Below.refl _ W).grown hg (by omega) (fun k e => by cases e)) ⟨⟨⟨b1.kept hg (by simp), b2.kept hg (by simp), b3.kept hg (by simp)⟩, hp⟩, hB.grown hg (by omega) (fun k e => by cases e)⟩ ⟨W.heap.size, by omega, hc, rfl⟩
  case body =>
    rintro l pre x a' W hl ⟨r, hr⟩ ⟨⟨⟨b1, b2, b3⟩, hp⟩, hB⟩ ⟨Bx, hBx, hX, rfl⟩ hlt
    have hyl := ent_len D.wait m4.waits x
    obtain ⟨q, y, hqy⟩ : ∃ q y, ent D.wait x = (q, y) := ⟨_, _, rfl⟩
    rw [hqy] at hX hyl ⊢
    have HX := Lib.hid hqy
    have c0 : W.cell? ⟨Bx, 0, none⟩ = some (.int .i64 (q : Nat)) := by rw [cell_of hX]; rfl
    have ci := b1.cell
    have cs := b2.cell
    have fs := b2.frozen
    have ce := b3.cell
    have fe := b3.frozen
    have hsz := hB.size
    by_cases hq : q = i
    · subst hq
      have HV : Hid (∀ w0 : World, w0.heap[Bx]? = some (.cells (wcells (q, y)).toArray 128 (0, 0)) → (convert 23 9 (.slice (some ⟨Bx, 1, none⟩) 64 64)).run Tryz.prog w0 = .ok (.string (str y)) w0) := by
        intro w0 h0
        have hyl' : y.length = 64 := hyl
        have := run_convert_bytes_back (P := Tryz.prog) w0 23 9 5 ⟨Bx, 1, none⟩ 64 y Tryz.underlying23 Tryz.underlying5 Tryz.underlying9 (fun j hj => by
          rw [addr_add, cell_of h0, List.getElem?_toArray, Nat.add_comm]
          show (bytesV y)[j]? = _
          simp [bytesV, List.getElem?_eq_getElem hj])
        rw [hyl'] at this
        exact this
      have hv := HV.out W hX
      clear hqy
      gi_wp2
      refine ⟨(KeepsOthers.setCell _ _ _).from _ |>.trans ((KeepsOthers.setCell _ _ _).from _), pre, x, ⟨rfl, rfl, hp, by rw [HX.out]⟩, ⟨?_, ?_⟩, ?_⟩
      · rw [HX.out]; exact (b2.set _).other (by omega) _
      · exact ((b3.other (by omega) _).set _)
      · exact (hB.setCell (p := ⟨n + 1, 0, none⟩) (by simp) _).setCell (p := ⟨n + 1 + 1, 0, none⟩) (by simp; omega) _
    · have hq2 : ((q : Int) == (i : Int)) = false := by simp; omega
      clear hqy
      gi_wp2
      exact ⟨KeepsFrom.refl _ _, Below.refl _ _, ⟨⟨b1, b2, b3⟩, fun k hk => by rcases List.mem_append.1 hk with h | h; exact hp k h; rw [List.mem_singleton.1 h, HX.out]; exact hq⟩, hB⟩
  case done =>
    rintro D' xs W hD rfl ⟨⟨⟨b1, b2, b3⟩, hp⟩, hB⟩ hK
    have mW := M.out W (hB4.trans hB)
    have ci := b1.cell
    have cs := b2.cell
    have fs := b2.frozen
    have ce := b3.cell
    have fe := b3.frozen
    have c0 : W.cell? ⟨b, 0, none⟩ = some (.slice (some ⟨gl, 0, none⟩) D.last.length cl) := by rw [cell_of mW.disk]; rfl
    have z0 : (0 : Int) ≤ (i : Int) := by omega
    have z1 : (i : Int) < (D.last.length : Int) := by omega
    have hv : (convert 23 9 (.slice (some ⟨gl, i * 64, none⟩) 64 64)).run Tryz.prog W.drew = .ok (.string (str (D.last.getD i []))) W.drew := by
      obtain ⟨rest, hrow, _, hrl, _, _, _⟩ := own_block mW.last
      have hs := mW.secs.at hi
      have := run_convert_bytes_back (P := Tryz.prog) W.drew 23 9 5 ⟨gl, i * 64, none⟩ 64 (D.last.getD i []) Tryz.underlying23 Tryz.underlying5 Tryz.underlying9 (fun j hj => by
        rw [hs] at hj
        have h2 : (i + 1) * 64 ≤ D.last.length * 64 := Nat.mul_le_mul_right 64 hi
        show W.cell? _ = _
        rw [addr_add, cell_of hrow, List.getElem?_toArray, List.getElem?_append_left (by rw [bytesV_length, sflat_length _ mW.secs]; omega)]
        rw [show bytesV (sflat D.last) = (sflat D.last).map fun c => Value.int .u8 c.toNat from rfl, List.getElem?_map, sflat_at _ mW.secs i hi j hj]
        have e : D.last.getD i [] = D.last[i] := by rw [List.getD_eq_getElem?_getD, List.getElem?_eq_getElem hi]; rfl
        have hj2 : j < (D.last[i]).length := by rw [← e, hs]; exact hj
        rw [List.getElem?_eq_getElem hj2]
        simp only [e]
        rfl)
      rw [hs] at this
      exact this
    have e9 : readL D.last D.wait i = D.last.getD i [] := readL_none D.last D.wait i (fun k hk => by
      have hkl : k < D.wait.length := by
        obtain ⟨j, hj, rfl⟩ := List.mem_map.1 hk
        have := List.mem_range.1 hj
        omega
      have := hp k hk
      rw [ent_at _ _ hkl] at this
      rw [List.getD_eq_getElem?_getD, List.getElem?_eq_getElem hkl]
      exact this)
    obtain ⟨R, hR⟩ : ∃ R, D.last.getD i [] = R := ⟨_, rfl⟩
    rw [hR] at e9 hv
    have E9 := Lib.hid e9
    clear e9 hR
    go_wp2_with fail
    go_region
    all_goals
      go_wp2_with fail
      rw [E9.out]
      refine ⟨by simp, .inl ⟨_, _, rfl, run_takeDeferred (by show ((W.setCell _ _).setCell _ _).heap[D']? = _; rw [heap_setCell_ne _ _ _ _ (by omega), heap_setCell_ne _ _ _ _ (by omega)]; exact hK), ?_⟩⟩
      refine ⟨_, results_read rfl rfl ?_ ?_, rfl, ?_⟩
      · exact read_box ((b2.set _).other (by omega) _) (by omega)
      · exact read_box ((b3.other (by omega) _).set _) (by omega)
      · rw [HN.out]
        exact read_put ((((hB4.trans hB).setCell (p := ⟨n + 1, 0, none⟩) (by simp) _).setCell (p := ⟨n + 1 + 1, 0, none⟩) (by simp; omega) _).drew) (by omega)
  case stop =>
    rintro D' c pre W hD hS ⟨pre0, x, ⟨rfl, hpre, h0, h1⟩, ⟨b1, b2⟩, hB⟩ hK
    refine wpIn_wide.2 ?_
    go_wp2_with fail
    have e9 : readL D.last D.wait i = (ent D.wait x).2 := by
      obtain ⟨k, hk, hpk⟩ := hS
      rw [downs_succ] at hpk
      obtain ⟨hp1, hp2⟩ := List.append_inj' (hpre.symm.trans hpk) rfl
      obtain rfl : x = D.wait.length - 1 - k := by simpa using hp2
      have hlt : D.wait.length - 1 - k < D.wait.length := by omega
      have eg : ∀ j, j < D.wait.length → D.wait.getD j (0, []) = ent D.wait j := fun j hj => by rw [ent_at _ _ hj, List.getD_eq_getElem?_getD, List.getElem?_eq_getElem hj]; rfl
      rw [readL_found D.last D.wait i k hk (fun j hj => by
        have hjl : j < D.wait.length := by
          obtain ⟨t, ht, rfl⟩ := List.mem_map.1 hj
          omega
        rw [eg j hjl]
        exact h0 j (by rw [hp1]; exact hj)) (by rw [eg _ hlt]; exact h1), eg _ hlt]
    rw [e9]
    refine ⟨by simp, .inl ⟨_, _, rfl, run_takeDeferred hK, ?_⟩⟩
    refine ⟨_, results_read rfl rfl (read_box b1 (by omega)) (read_box b2 (by omega)), rfl, ?_⟩
    rw [HN.out]
    exact read_put (hB4.trans hB) (by omega)
theorem read_ok (F : Nat → Prop) (b i : Nat) (D : DiskS) (w : World) (hm : DiskAt F w b D) (h : D.on = true) (hi : i < D.last.length) (hwl : D.wait.length ≤ 1000000000) :
    Calls Tryz.prog 128 #[.pointer (some ⟨b, 0, none⟩), .int .i64 i] w fun e w' => e = .returned (.tuple #[.string (str (readL D.last D.wait i)), .int .i64 0]) ∧ w.grownBy w' none := by
  obtain ⟨lv, wv, kv, m, _⟩ := hm
  rcases own_form m.last with ⟨_, h0⟩ | ⟨gl, cl, rfl⟩
  · omega
  · exact (read_mem b i gl cl D wv kv w m h hi hwl).mono fun e w' q => ⟨q.1, grownBy_below q.2⟩
end Go.Proofs.YtbhoeiopckmfhaaGreatDoor

namespace Go.Proofs.YtbhoeiopckmfhaaGreatDoor
open Go.RowKit

/-- one writing, laid over the cells -/
theorem splice_set (L : List (List UInt8)) (rest : List Value) (q : Nat) (hs : Secs L) (hq : q < L.length) (y : List UInt8) (hy : y.length = 64) :
    (bytesV (sflat L) ++ rest).take (q * 64) ++ bytesV y ++ (bytesV (sflat L) ++ rest).drop (q * 64 + (bytesV y).length) = bytesV (sflat (L.set q y)) ++ rest := by
  have hl := sflat_length L hs
  have h1 : (q + 1) * 64 ≤ L.length * 64 := Nat.mul_le_mul_right 64 hq
  rw [sflat_set L hs q hq, bytesV_length, hy, List.take_append_of_le_length (by rw [bytesV_length]; omega), List.drop_append_of_le_length (by rw [bytesV_length]; omega)]
  rw [bytesV_append, bytesV_append, bytesV_take, bytesV_drop]
  simp only [List.append_assoc]
theorem sync_step {b gl cl gw cw k q : Nat} {D : DiskS} {kv : Value} {L : List (List UInt8)} {y : List UInt8} {rest : List Value} {w2 w4 : World}
    (h : DiskMem w2 b { D with last := L } (.slice (some ⟨gl, 0, none⟩) D.last.length cl) (.slice (some ⟨gw, 0, none⟩) D.wait.length cw) kv) (t : Turn (fun i => i = gl) w2 w4)
    (hr : w4.heap[gl]? = some (.cells (bytesV (sflat (L.set q y)) ++ rest).toArray 126 (0, 0))) (hLl : L.length = D.last.length) (hy : y.length = 64) (hL : syncL D.last (D.wait.take k) = L)
    (hx : D.wait[k]? = some (q, y)) (hz : (bytesV (sflat L) ++ rest).length = cl * 64) (hcl : D.last.length ≤ cl) (hcm : cl ≤ maxLen) :
    DiskMem w4 b { D with last := syncL D.last (D.wait.take (k + 1)) } (.slice (some ⟨gl, 0, none⟩) D.last.length cl) (.slice (some ⟨gw, 0, none⟩) D.wait.length cw) kv := by
  have hkw : k < D.wait.length := (List.getElem?_eq_some_iff.1 hx).1
  have hxe : D.wait[k] = (q, y) := (List.getElem?_eq_some_iff.1 hx).2
  have e : syncL D.last (D.wait.take (k + 1)) = L.set q y := by
    rw [← List.take_append_getElem hkw, syncL_snoc, hL, hxe]
  rw [e]
  have n1 : gl ≠ b := fun e => h.lb (by rw [e]; rfl)
  have n2 : gw ≠ gl := fun e => h.lw gl rfl (by rw [e]; rfl)
  have hs2 : Secs (L.set q y) := h.secs.set q hy
  have hsz : (bytesV (sflat (L.set q y)) ++ rest).length = cl * 64 := by
    rw [← hz, List.length_append, List.length_append, bytesV_length, bytesV_length, sflat_length _ hs2, sflat_length _ h.secs, List.length_set]
  have hl2 : (L.set q y).length = D.last.length := by rw [List.length_set, hLl]
  exact ⟨t.heap h.disk (fun e => n1 e.symm), (by show w4.ownsRow 0 _ 64 _ (L.set q y).length _; rw [hl2]; exact own_of hr hsz (by rw [bytesV_length, sflat_length _ hs2, hl2]) hcl hcm (Nat.zero_le _)), own_turn h.wait t (fun g e => by cases e; exact n2), own_turn h.keep t (fun g e q => h.lk gl rfl (by rw [e, q])), hs2, (by show Waits (L.set q y).length _; rw [hl2, ← hLl]; exact h.waits), h.lb, h.wb, h.kb, h.lw, h.lk, h.wk⟩
theorem sync_keep {w : World} {b gl nl cl A q o : Nat} {vs : List Value} {y : List UInt8} (h : w.cell? ⟨b, 0, none⟩ = some (.slice (some ⟨gl, 0, none⟩) nl cl) ∧ w.cell? ⟨A, 0, none⟩ = some (.int .i64 (q : Nat)) ∧ w.rangeAt A 1 (bytesV y) ∧ w.there gl (q * 64) (bytesV y).length) (n1 : gl ≠ b) (n2 : gl ≠ A) (hvs : vs.length = (bytesV y).length) (ho : o = q * 64) :
    (w.setCells gl o vs).cell? ⟨b, 0, none⟩ = some (.slice (some ⟨gl, 0, none⟩) nl cl) ∧ (w.setCells gl o vs).cell? ⟨A, 0, none⟩ = some (.int .i64 (q : Nat)) ∧ (w.setCells gl o vs).rangeAt A 1 (bytesV y) ∧ (w.setCells gl o vs).there gl (q * 64) (bytesV y).length := by
  obtain ⟨h1, h2, h3, h4⟩ := h
  subst ho
  have hb := World.cell?_of_block (w := w) (w' := w.setCells gl (q * 64) vs) (a := ⟨b, 0, none⟩) (heap_setCells_ne n1 _ _ _)
  have hA := fun o => World.cell?_of_block (w := w) (w' := w.setCells gl (q * 64) vs) (a := ⟨A, o, none⟩) (heap_setCells_ne n2 _ _ _)
  refine ⟨hb.trans h1, (hA 0).trans h2, fun j v hv => (hA (1 + j)).trans (h3 j v hv), fun j hj => ⟨?_, (World.frozen?_setCells gl vs (q * 64) w ⟨gl, q * 64 + j, none⟩).trans (h4 j hj).2⟩⟩
  rw [World.cell?_setCells_in gl vs (q * 64) w (fun j hj => (h4 j (by omega)).1) j (by omega)]
  rfl

def syncD (D : DiskS) : DiskS := { D with last := syncL D.last D.wait, wait := [] }
set_option maxHeartbeats 2000000 in
set_option maxRecDepth 100000 in
theorem sync_tail (b gl cl gw cw : Nat) (D : DiskS) (kv : Value) (w0 : World) (hw : Calls Tryz.prog 181 #[.pointer (some ⟨b, 0, none⟩)] w0 fun e w' => e = .returned (.int .i64 0) ∧ w0 = w')
    (hbu : Calls Tryz.prog 201 #[.pointer (some ⟨b, 0, none⟩)] w0 fun e w' => e = .returned (.bool false) ∧ DiskMem w' b D (.slice (some ⟨gl, 0, none⟩) D.last.length cl) (.slice (some ⟨gw, 0, none⟩) D.wait.length cw) kv ∧ Turn (fun i => i = b) w0 w')
    (hwl : D.wait.length ≤ 1000000000000) :
    Calls Tryz.prog 187 #[.pointer (some ⟨b, 0, none⟩)] w0 fun e w' => e = .returned (.int .i64 0) ∧
      DiskMem w' b (syncD D) (.slice (some ⟨gl, 0, none⟩) D.last.length cl) (.slice none 0 0) kv ∧ Turn (fun i => i = b ∨ i = gl) w0 w' := by
  obtain ⟨m, hmm⟩ : ∃ m, D.wait.length = m := ⟨_, rfl⟩
  have HWK := Lib.hid hw
  have HBU := Lib.hid hbu
  have HWS := Lib.hid hmm
  rw [hmm] at hwl
  clear hmm hw hbu
  go_enter Tryz.func187, Tryz.ntmps187
  go_wp2_with fail
  refine HWK.out.mono ?_
  rintro e w1 ⟨rfl, rfl⟩
  go_wp2_with fail
  refine HBU.out.mono ?_
  rintro e w ⟨rfl, hm, t0⟩
  have HM := Lib.hid hm
  have T0 := Lib.hid t0
  have c1 : w.cell? ⟨b, 1, none⟩ = some (.slice (some ⟨gw, 0, none⟩) m cw) := by rw [cell_of hm.disk]; simp [HWS.out]
  have hmc : m ≤ cw := by obtain ⟨_, _, _, _, h, _⟩ := own_block hm.wait; have := HWS.out; omega
  clear hm t0
  go_wp2_with fail
  go_loopw [5, 18] (fun _ iv wr => ∃ k : Nat, k ≤ m ∧ iv = .int .i64 k ∧ Hid (DiskMem wr b { D with last := syncL D.last (D.wait.take k) } (.slice (some ⟨gl, 0, none⟩) D.last.length cl) (.slice (some ⟨gw, 0, none⟩) D.wait.length cw) kv) ∧ Hid (Turn (fun i => i = b ∨ i = gl) w wr)) (fun _ iv _ => m - (intOf iv).toNat)
  case atStart => exact ⟨0, Nat.zero_le _, rfl, by rw [List.take_zero, syncL]; exact HM.out, Turn.refl _ _⟩
  case round =>
    obtain ⟨k, hk, rfl, HD, HT⟩ := hrel
    by_cases hlt : k < m
    · have hx := HD.out.waits
      obtain ⟨x, hxe⟩ : ∃ x, D.wait[k]? = some x := ⟨_, List.getElem?_eq_getElem (by have := HWS.out; omega)⟩
      have d1 : (k : Int) < (m : Int) := by omega
      have d0 : (0 : Int) ≤ (k : Int) := by omega
      have hxl := wcells_length x (hx x (List.mem_of_getElem? hxe)).2
      have HC : Hid (wr.rangeAt gw (k * 65) (wcells x)) := by
        intro j v hv
        have hj : j < 65 := by rw [← hxl]; exact (List.getElem?_eq_some_iff.1 hv).1
        have hkw : k < D.wait.length := by have := HWS.out; omega
        have h2 : (k + 1) * 65 ≤ D.wait.length * 65 := Nat.mul_le_mul_right 65 hkw
        rw [World.ownsRow.cellAt HD.out.wait (k * 65 + j) (by show k * 65 + j < D.wait.length * 65; omega)]
        refine (wflat_at D.wait hx k hkw j hj).trans ?_
        rw [(List.getElem?_eq_some_iff.1 hxe).2]
        exact hv
      have HI : Hid ((Tryz.prog.info? 128).map (·.size) = some (wcells x).toArray.size) := by
        show _ = _
        rw [List.size_toArray, hxl]; kernel_rfl
      have H1 : Hid ((wcells x).toArray.all (·.oneCell') = true) := all_oneCell_toArray (wcells_one x)
      have HL0 : Hid ((wcells x).toArray.size = 65) := by show _ = _; rw [List.size_toArray, hxl]
      clear hxl
      have hz1 := wZ_size
      have hz2 := wZ_ne
      have hz3 := zero_writing
      go_upto_region 9 with (first
        | (refine wpList_load_mid (by rfl) 128 (.tmp 20) (by rfl) gw (k * 65) (by rfl) _ _ HC.out Tryz.underlying128 (by rfl) (by exact HI.out) ?_)
        | (refine wpList_store_rowTo (by rfl) 128 (.tmp 5) (.tmp 21) (by rfl) (by rfl) wr.heap.size (wcells x).toArray (by rfl) (by rfl) 128 _ (heap_alloc_new wr _) HI.out (by exact HL0.out.symm) H1.out ?_))
      generalize hW : World.setRow (World.alloc wr _) wr.heap.size _ = w2
      rw [World.setRow_alloc_new] at hW
      have g2 : wr.grownBy w2 none := by rw [← hW]; exact World.grownBy_alloc _ _ _
      have hA : w2.heap[wr.heap.size]? = some (.cells (wcells x).toArray 128 (0, 0)) := by rw [← hW]; exact heap_alloc_at _ _ _ rfl
      clear hW hz1 hz2 hz3
      have hgl : gl < wr.heap.size := (HD.out.last.lt gl rfl).2
      generalize wr.heap.size = A at *
      have HA := Lib.hid hA
      obtain ⟨L, hL⟩ : ∃ L, syncL D.last (D.wait.take k) = L := ⟨_, rfl⟩
      have hLl : L.length = D.last.length := by rw [← hL, syncL_length]
      have hd2 := HD.out.turn (S := fun _ => False) (Turn.of_grown g2) (fun q => q) (fun _ _ q => q) (fun _ _ q => q) (fun _ _ q => q)
      rw [hL] at hd2
      have HL := Lib.hid hL
      have HLL := Lib.hid hLl
      have HD2 := Lib.hid hd2
      have HT2 := Lib.hid (HT.out.grown g2)
      clear hL hLl hd2 hA HD HT g2 HC H1 HL0 HI
      have hxw := HD2.out.waits x (List.mem_of_getElem? hxe)
      obtain ⟨q, y, s⟩ : ∃ q : Nat, ∃ y : List UInt8, x = (q, y) := ⟨x.1, x.2, rfl⟩
      subst s
      obtain ⟨hq, hy⟩ := hxw
      have hq0 : (q : Int) < (D.last.length : Int) := by have := hq; rw [HLL.out] at this; omega
      have z0 : (0 : Int) ≤ (q : Int) := by omega
      obtain ⟨rest, hrow, hrz, hrl, hrc, hrm, _⟩ := own_block (by have := HD2.out.last; rw [HLL.out] at this; exact this)
      have hc0 : w2.cell? ⟨b, 0, none⟩ = some (.slice (some ⟨gl, 0, none⟩) D.last.length cl) := by rw [cell_of HD2.out.disk]; rfl
      have hcA : w2.cell? ⟨A, 0, none⟩ = some (.int .i64 (q : Nat)) := by rw [cell_of HA.out]; rfl
      have hra : w2.rangeAt A 1 (bytesV y) := by
        intro j v hv
        rw [cell_of HA.out, List.getElem?_toArray, Nat.add_comm]
        exact hv
      have hth : w2.there gl (q * 64) (bytesV y).length := by
        intro j hj
        rw [bytesV_length, hy] at hj
        have h1 : (q + 1) * 64 ≤ L.length * 64 := Nat.mul_le_mul_right 64 hq
        rw [cell_of hrow, free_of hrow, List.getElem?_toArray]
        refine ⟨?_, rfl⟩
        rw [List.getElem?_append_left (by rw [bytesV_length, sflat_length L HD2.out.secs]; omega), List.getElem?_eq_getElem (by rw [bytesV_length, sflat_length L HD2.out.secs]; omega)]
        rfl
      have n1 : gl ≠ b := fun e => HD2.out.lb (by rw [e]; rfl)
      have n2 : gl ≠ A := by omega
      have HS0 := Lib.hid (And.intro hc0 (And.intro hcA (And.intro hra hth)))
      have hu59 := Tryz.underlying126
      have hi59 : (Tryz.prog.info? 126).map (·.size) = some (bytesV y).length := by rw [bytesV_length, hy]; kernel_rfl
      have h159 := bytesV_one y
      have HROW := Lib.hid hrow
      have HRZ := Lib.hid hrz
      have HQ := Lib.hid hq
      have HY := Lib.hid hy
      clear hrow hrz hrl hq hy hc0 hcA hra hth
      go_wp2_with fail
      go_region_held3 (fun w' => w'.cell? ⟨b, 0, none⟩ = some (.slice (some ⟨gl, 0, none⟩) D.last.length cl) ∧ w'.cell? ⟨A, 0, none⟩ = some (.int .i64 (q : Nat)) ∧ w'.rangeAt A 1 (bytesV y) ∧ w'.there gl (q * 64) (bytesV y).length)
        (first | exact HS0.out | exact sync_keep (by assumption) n1 n2 rfl rfl) (fail)
      all_goals
        go_wp2_with fail
        go_roundw
        case rel =>
          have ht : Turn (fun i => i = gl) w2 (w2.drew.setCells gl (q * 64) (bytesV y)) := ((Turn.refl (fun i => i = gl) w2).drew).setCells (fun _ => rfl) _ _
          have hr := heap_setCells (bytesV y) (q * 64) w2.drew (bytesV (sflat L) ++ rest).toArray HROW.out (by
            have h1 : (q + 1) * 64 ≤ L.length * 64 := Nat.mul_le_mul_right 64 HQ.out
            rw [List.size_toArray, List.length_append, bytesV_length, bytesV_length, HY.out, sflat_length L HD2.out.secs]; omega)
          rw [List.toList_toArray, splice_set L rest q HD2.out.secs HQ.out y HY.out] at hr
          exact ⟨k + 1, by omega, by go_num, sync_step HD2.out ht hr HLL.out HY.out HL.out hxe HRZ.out hrc hrm, HT2.out.trans ht (fun i _ e => .inr e)⟩
        case measure => simp [intOf]; omega
    · have hkm : k = m := by omega
      have hhd := HD.out.disk
      have f0 := fun j => free_of hhd j
      have e1 : wr.cell? ⟨b, 1, none⟩ = some (.slice (some ⟨gw, 0, none⟩) D.wait.length cw) := by rw [cell_of hhd]; rfl
      have HH := Lib.hid hhd
      have d3 : ¬ (k : Int) < (m : Int) := by omega
      clear hhd
      go_wp2_with fail
      go_ret
      have t : Turn (fun i => i = b) wr (wr.setCell ⟨b, 1, none⟩ (.slice none 0 0)) := (Turn.refl (fun i => i = b) wr).setCell (fun _ => rfl) _ _
      have hE : syncL D.last (D.wait.take k) = syncL D.last D.wait := by rw [hkm, ← HWS.out, List.take_length]
      have hm := HD.out
      rw [hE] at hm
      exact ⟨rfl, ⟨heap_setCell HH.out 1 _, own_turn hm.last t (fun g e q => hm.lb (by rw [e, q])), World.ownsRow_nil _ _ _ _, own_turn hm.keep t (fun g e q => hm.kb (by rw [e, q])), hm.secs, fun x hx => by simp [syncD] at hx, hm.lb, by simp [Value.ownBlock], hm.kb, fun _ _ => by simp [Value.ownBlock], hm.lk, fun _ h => by simp [Value.ownBlock] at h⟩, ((T0.out.mono (fun i _ e => .inl e)).then HT.out).then (t.mono (fun i _ e => .inl e))⟩

set_option maxHeartbeats 1000000 in
theorem sync_tail0 (b : Nat) (D : DiskS) (lv kv : Value) (w0 : World) (hw : Calls Tryz.prog 181 #[.pointer (some ⟨b, 0, none⟩)] w0 fun e w' => e = .returned (.int .i64 0) ∧ w0 = w')
    (hbu : Calls Tryz.prog 201 #[.pointer (some ⟨b, 0, none⟩)] w0 fun e w' => e = .returned (.bool false) ∧ DiskMem w' b D lv (.slice none 0 0) kv ∧ Turn (fun i => i = b) w0 w') (h0 : D.wait = []) :
    Calls Tryz.prog 187 #[.pointer (some ⟨b, 0, none⟩)] w0 fun e w' => e = .returned (.int .i64 0) ∧
      DiskMem w' b (syncD D) lv (.slice none 0 0) kv ∧ Turn (fun i => i = b) w0 w' := by
  have HWK := Lib.hid hw
  have HBU := Lib.hid hbu
  have H0 := Lib.hid h0
  clear h0 hw hbu
  go_enter Tryz.func187, Tryz.ntmps187
  go_wp2_with fail
  refine HWK.out.mono ?_
  rintro e w1 ⟨rfl, rfl⟩
  go_wp2_with fail
  refine HBU.out.mono ?_
  rintro e w ⟨rfl, hm, t0⟩
  have HM := Lib.hid hm
  have T0 := Lib.hid t0
  have e1 : w.cell? ⟨b, 1, none⟩ = some (.slice none 0 0) := by rw [cell_of hm.disk]; rfl
  have f1 := free_of hm.disk 1
  clear hm t0
  go_wp2_with fail
  go_loopw [5, 18] (fun _ iv wr => iv = .int .i64 0 ∧ Hid (w = wr)) (fun _ _ _ => 0)
  case atStart => exact ⟨rfl, rfl⟩
  case round =>
    obtain ⟨rfl, HW⟩ := hrel
    obtain rfl := HW.out
    clear HW
    go_wp2_with fail
    go_ret
    have t : Turn (fun i => i = b) w (w.setCell ⟨b, 1, none⟩ (.slice none 0 0)) := (Turn.refl (fun i => i = b) w).setCell (fun _ => rfl) _ _
    have hm := HM.out
    have hE : syncD D = D := by unfold syncD; rw [H0.out, syncL]; cases D; simp at *; rw [H0.out]
    rw [hE]
    exact ⟨rfl, ⟨heap_setCell hm.disk 1 _, own_turn hm.last t (fun g e q => hm.lb (by rw [e, q])), by rw [H0.out]; exact World.ownsRow_nil _ _ _ _, own_turn hm.keep t (fun g e q => hm.kb (by rw [e, q])), hm.secs, hm.waits, hm.lb, hm.wb, hm.kb, hm.lw, hm.lk, hm.wk⟩, T0.out.then t⟩

def decF (f : Int) : Int := if f < 0 then f else f - 1
theorem burns_mem (b : Nat) (D : DiskS) (lv wv kv : Value) (w : World) (m : DiskMem w b D lv wv kv) (h : D.fuse ≠ 0) (h2 : D.fuse ≤ 9223372036854775807) : Calls Tryz.prog 201 #[.pointer (some ⟨b, 0, none⟩)] w fun e w' => e = .returned (.bool false) ∧
    DiskMem w' b { D with fuse := decF D.fuse } lv wv kv ∧ Turn (fun i => i = b) w w' := by
  by_cases h0 : D.fuse < 0
  · refine (burns_none (fun _ => True) b D w ⟨_, _, _, m, trivial, fun _ _ => trivial, fun _ _ => trivial, fun _ _ => trivial⟩ h0).mono ?_
    rintro e w' ⟨rfl, rfl⟩
    unfold decF
    rw [if_pos h0]
    exact ⟨rfl, m, Turn.refl _ _⟩
  · have hd : decF D.fuse = D.fuse - 1 := by unfold decF; rw [if_neg h0]
    rw [hd]
    have e3 : w.cell? ⟨b, 3, none⟩ = some (.int .i64 D.fuse) := by rw [cell_of m.disk]; rfl
    have g3 : w.frozen? ⟨b, 3, none⟩ = false := free_of m.disk 3
    have e5 : (D.fuse == 0) = false := by simpa using h
    have e6 : (0 : Int) < D.fuse := by omega
    have M := Lib.hid m
    clear m hd
    go_enter Tryz.func201, Tryz.ntmps201
    go_wp2_with fail
    go_ret
    have t : Turn (fun i => i = b) w (w.setCell ⟨b, 3, none⟩ (.int .i64 (D.fuse - 1))) := (Turn.refl (fun i => i = b) w).setCell (fun _ => rfl) _ _
    exact ⟨rfl, M.out.setHead t (on := D.on) (heap_setCell M.out.disk 3 _), t⟩
theorem works_at_on (F : Nat → Prop) (b : Nat) (D : DiskS) (w : World) (hm : DiskAt F w b D) (h : D.on = true) : Calls Tryz.prog 181 #[.pointer (some ⟨b, 0, none⟩)] w fun e w' => e = .returned (.int .i64 0) ∧ w = w' := by
  obtain ⟨lv, wv, kv, m, f1, f2, f3, f4⟩ := hm
  exact works_on b w (by rw [cell_of m.disk, ← h]; rfl)
theorem works_at_off (F : Nat → Prop) (b : Nat) (D : DiskS) (w : World) (hm : DiskAt F w b D) (h : D.on = false) : Calls Tryz.prog 181 #[.pointer (some ⟨b, 0, none⟩)] w fun e w' => e = .returned (.int .i64 8) ∧ w = w' := by
  obtain ⟨lv, wv, kv, m, f1, f2, f3, f4⟩ := hm
  exact works_off b w (by rw [cell_of m.disk, ← h]; rfl)

/-- a Sync that is done -/
theorem sync_ok (F : Nat → Prop) (b : Nat) (D : DiskS) (w : World) (hm : DiskAt F w b D) (h : D.on = true) (h0 : 0 < D.last.length) (hf : D.fuse ≠ 0) (hf2 : D.fuse ≤ 9223372036854775807) (hwl : D.wait.length ≤ 1000000000) :
    Calls Tryz.prog 187 #[.pointer (some ⟨b, 0, none⟩)] w fun e w' => e = .returned (.int .i64 0) ∧ DiskAt F w' b (syncD { D with fuse := decF D.fuse }) ∧ Turn F w w' := by
  have hw := works_at_on F b D w hm h
  obtain ⟨lv, wv, kv, m, f1, f2, f3, f4⟩ := hm
  have hbu := burns_mem b D lv wv kv w m hf hf2
  rcases own_form m.last with ⟨_, hz⟩ | ⟨gl, cl, rfl⟩
  · omega
  rcases own_form m.wait with ⟨rfl, hw0⟩ | ⟨gw, cw, rfl⟩
  · refine (sync_tail0 b { D with fuse := decF D.fuse } _ kv w hw hbu (List.eq_nil_of_length_eq_zero hw0)).mono ?_
    rintro e w' ⟨rfl, q, t⟩
    exact ⟨rfl, ⟨_, _, _, q, f1, f2, f3, f4⟩, t.mono (fun i _ e => by rw [e]; exact f1)⟩
  · refine (sync_tail b gl cl gw cw { D with fuse := decF D.fuse } kv w hw hbu (by show D.wait.length ≤ _; omega)).mono ?_
    rintro e w' ⟨rfl, q, t⟩
    exact ⟨rfl, ⟨_, _, _, q, f1, f2, by simp [Value.ownBlock], f4⟩, t.mono (fun i _ e => by rcases e with e | e; rw [e]; exact f1; exact f2 i (by rw [e]; rfl))⟩
theorem sync_off (F : Nat → Prop) (b : Nat) (D : DiskS) (w : World) (hm : DiskAt F w b D) (h : D.on = false) : Calls Tryz.prog 187 #[.pointer (some ⟨b, 0, none⟩)] w fun e w' => e = .returned (.int .i64 8) ∧ w = w' := by
  have C := Lib.hid (works_at_off F b D w hm h)
  clear hm h
  go_enter Tryz.func187, Tryz.ntmps187
  go_wp2_with fail
  refine C.out.mono ?_
  rintro e w1 ⟨rfl, rfl⟩
  go_wp2_with fail
  go_ret
  exact ⟨rfl, rfl⟩
theorem sync_power (F : Nat → Prop) (b : Nat) (D : DiskS) (w : World) (hm : DiskAt F w b D) (h : D.on = true) (h0 : 0 < D.last.length) (hf : D.fuse = 0) (hkl : D.keep.length ≤ 9223372036854775807) (hwl : D.wait.length ≤ 1000000000000) :
    Calls Tryz.prog 187 #[.pointer (some ⟨b, 0, none⟩)] w fun e w' => e = .returned (.int .i64 8) ∧ DiskAt F w' b (cutD D D.keep) ∧ Turn F w w' := by
  have C := Lib.hid (works_at_on F b D w hm h)
  have C2 := Lib.hid (burns_cut F b D w hm h0 hf hkl hwl)
  clear hm h hf
  go_enter Tryz.func187, Tryz.ntmps187
  go_wp2_with fail
  refine C.out.mono ?_
  rintro e w1 ⟨rfl, rfl⟩
  go_wp2_with fail
  refine C2.out.mono ?_
  rintro e w1 ⟨rfl, hd, t⟩
  have HD := Lib.hid hd
  have T := Lib.hid t
  clear hd t
  go_wp2_with fail
  go_ret
  exact ⟨rfl, HD.out, T.out⟩
end Go.Proofs.YtbhoeiopckmfhaaGreatDoor

namespace Go.Proofs.YtbhoeiopckmfhaaGreatDoor
open Go.RowKit

set_option maxRecDepth 100000 in
set_option maxHeartbeats 1000000 in
theorem clone_any (a : Option Addr) (n c : Nat) (l : List UInt8) (w : World) (hb : BytesAt w (.slice a n c) l) (hn : n ≤ 140737488351232) :
    Calls Tryz.prog 43 #[.slice a n c] w fun e w' => ∃ v', e = .returned v' ∧ w'.ownsRow w.heap.size 5 1 v' l.length (bytesV l) ∧ w.grownBy w' none := by
  obtain ⟨i0, hti, hz0, hz1, hz2⟩ := info_parts infoB
  have hl : l.length = n := by obtain ⟨_, _, e, _⟩ := hb; injection e with _ e _; exact e.symm
  cases a with
  | none =>
    have hx : l = [] := by
      cases l with
      | nil => rfl
      | cons x r => obtain ⟨a', c', e, h⟩ := hb; obtain ⟨g, o, e2, _⟩ := h 0 (by simp); injection e with e1 _ _; rw [← e1] at e2; cases e2
    subst hx
    have he : ∀ w : World, (binOp .eql 23 (.slice none n c) (.slice none 0 0)).run Tryz.prog w = .ok (.bool true) w := fun _ => rfl
    clear hb hl
    go_enter Tryz.func43, Tryz.ntmps43
    go_wp2_with fail
    go_ret
    exact ⟨_, rfl, World.ownsRow_nil _ _ _ _, World.grownBy.refl _ _⟩
  | some ad =>
    have hn2 : 0 + n ≤ maxLen := by unfold maxLen; omega
    have hn3 : (0 + n) * 1 ≤ 140737488355328 := by omega
    have HN := Lib.hid (And.intro hn2 hn3)
    have he : ∀ w : World, (binOp .eql 23 (.slice (some ad) n c) (.slice none 0 0)).run Tryz.prog w = .ok (.bool false) w := fun _ => rfl
    have HO : Hid ((w.alloc (.cells #[] 5)).ownsRow w.heap.size 5 1 (.slice (some ⟨w.heap.size, 0, none⟩) 0 0) 0 []) := World.ownsRow_lit w #[] 0 (Nat.le_refl _) (Nat.zero_le _) rfl
    have HC : Hid (∀ j u, (bytesV l)[j]? = some u → (w.alloc (.cells #[] 5)).cell? (ad.add j) = some u) := by
      intro j u hu
      have hj : j < l.length := by rw [← bytesV_length]; exact (List.getElem?_eq_some_iff.1 hu).1
      obtain ⟨a', c', e, h⟩ := hb
      injection e with e1 _ _
      obtain ⟨g, o, e2, hc⟩ := h j hj
      rw [← e1] at e2
      injection e2 with e2
      subst e2
      rw [addr_add]
      have hlt := cell_lt hc
      rw [World.cell?_alloc_lt _ _ _ hlt, hc]
      rw [← hu]
      simp [bytesV, List.getElem?_eq_getElem hj]
    have HL : Hid ((bytesV l).length = n * 1) := by show _ = _; rw [bytesV_length, hl, Nat.mul_one]
    have H1 : Hid (∀ u ∈ bytesV l, u.oneCell' = true) := bytesV_one l
    have HLL := Lib.hid hl
    clear hb hn2 hn3 hl
    go_enter Tryz.func43, Tryz.ntmps43
    go_wp2_with (at_builtin; refine wpList_append_own _ rfl (.tmp 5) (.tmp 6) 23 rfl w.heap.size 5 i0 _ 1 1 Tryz.underlying23 hti hz0 hz1 hz2 rfl (by decide) _ 0 [] rfl HO.out ad n c (bytesV l) rfl HL.out HC.out H1.out HN.out.1 HN.out.2 (by simp) ?_; intro v' w' ho hg _)
    rw [Nat.zero_add, List.nil_append] at ho
    have HO2 := Lib.hid ho
    have HG2 : Hid (w.grownBy w' none) := ⟨hg.os, hg.tape, hg.output, by have := hg.size; simp at this; omega, fun i hi _ => (hg.block i (by simp; omega) (own_ne hi)).trans (Below.heap_alloc _ _ _ hi)⟩
    clear ho hg
    go_wp2_with fail
    go_ret
    exact ⟨_, rfl, by rw [HLL.out]; exact HO2.out, HG2.out⟩

def fuseD (D : DiskS) (n : Int) (ks : List UInt8) : DiskS := if 0 ≤ n then { D with fuse := n, keep := ks } else { D with fuse := -1, keep := [] }
set_option maxRecDepth 100000 in
set_option maxHeartbeats 1000000 in
theorem fuse_at0 (F : Nat → Prop) (b : Nat) (D : DiskS) (n : Int) (a : Option Addr) (m c : Nat) (ks : List UInt8) (w : World) (hm : DiskAt F w b D) (hb : BytesAt w (.slice a m c) ks) (hml : m ≤ 140737488351232) (hab : 0 < m → ∀ g o, a = some ⟨g, o, none⟩ → g ≠ b) :
    Calls Tryz.prog 10 #[.pointer (some ⟨b, 0, none⟩), .int .i64 n, .slice a m c] w fun e w' => e = .returned (.tuple #[]) ∧ DiskAt (grow F w w') w' b (fuseD D n ks) ∧ Turn F w w' := by
  obtain ⟨lv, wv, kv, M, f1, f2, f3, f4⟩ := hm
  have e3 : w.cell? ⟨b, 3, none⟩ = some (.int .i64 D.fuse) := by rw [cell_of M.disk]; rfl
  have e4 : w.cell? ⟨b, 4, none⟩ = some kv := by rw [cell_of M.disk]; rfl
  have g3 : w.frozen? ⟨b, 3, none⟩ = false := free_of M.disk 3
  have g4 : w.frozen? ⟨b, 4, none⟩ = false := free_of M.disk 4
  obtain ⟨w1, hW1⟩ : ∃ w1, (w.setCell ⟨b, 3, none⟩ (.int .i64 (-1))).setCell ⟨b, 4, none⟩ (.slice none 0 0) = w1 := ⟨_, rfl⟩
  have t1 : Turn (fun i => i = b) w w1 := by rw [← hW1]; exact ((Turn.refl (fun i => i = b) w).setCell (fun _ => rfl) _ _).setCell (fun _ => rfl) _ _
  have hd1 : w1.heap[b]? = some (.cells #[lv, wv, .bool D.on, .int .i64 (-1), .slice none 0 0] 101 (0, 0)) := by rw [← hW1]; exact heap_setCell (heap_setCell M.disk 3 _) 4 _
  have m1 : DiskMem w1 b { D with fuse := -1, keep := [] } lv wv (.slice none 0 0) :=
    ⟨hd1, own_turn M.last t1 (fun g e q => M.lb (by rw [e, q])), own_turn M.wait t1 (fun g e q => M.wb (by rw [e, q])), World.ownsRow_nil _ _ _ _, M.secs, M.waits, M.lb, M.wb, by simp [Value.ownBlock], M.lw, fun _ _ => by simp [Value.ownBlock], fun _ _ => by simp [Value.ownBlock]⟩
  have hb1 : BytesAt w1 (.slice a m c) ks := by
    obtain ⟨a', c', e, h⟩ := hb
    refine ⟨a', c', e, fun i hi => ?_⟩
    obtain ⟨g, o, e2, hc⟩ := h i hi
    injection e with e1 e3 _
    exact ⟨g, o, e2, by rw [t1.cell (cell_lt hc) (fun q => hab (by omega) g o (by rw [e1, e2]) q)]; exact hc⟩
  have M1 := Lib.hid m1
  have T1 := Lib.hid t1
  have HB1 := Lib.hid hb1
  have HD1 := Lib.hid hd1
  have HW1 := Lib.hid hW1
  by_cases hn : 0 ≤ n
  · have hfd : fuseD D n ks = { D with fuse := n, keep := ks } := if_pos hn
    rw [hfd]
    clear M hb m1 t1 hb1 hd1 hW1 hfd
    go_enter Tryz.func10, Tryz.ntmps10
    go_wp2_with fail
    rw [HW1.out]
    refine (clone_any a m c ks w1 HB1.out hml).mono ?_
    rintro e w2 ⟨v2, rfl, ho2, g2⟩
    obtain ⟨a2, n2, c2, rfl⟩ : ∃ a n c, v2 = .slice a n c := by rcases own_form ho2 with ⟨rfl, _⟩ | ⟨_, _, rfl⟩ <;> exact ⟨_, _, _, rfl⟩
    have hd2 : w2.heap[b]? = _ := (g2.block b M1.out.lt (by simp)).trans HD1.out
    have e3 : w2.cell? ⟨b, 3, none⟩ = some (.int .i64 (-1)) := by rw [cell_of hd2]; rfl
    have e4 : w2.cell? ⟨b, 4, none⟩ = some (.slice none 0 0) := by rw [cell_of hd2]; rfl
    have g3 := free_of hd2 3
    have g4 := free_of hd2 4
    have HD2 := Lib.hid hd2
    have HO2 := Lib.hid ho2
    have T2 := Lib.hid (T1.out.grown g2)
    have M2 := Lib.hid (M1.out.turn (S := fun _ => False) (Turn.of_grown g2) (fun q => q) (fun _ _ q => q) (fun _ _ q => q) (fun _ _ q => q))
    have HS := Lib.hid (And.intro T1.out.size g2.size)
    clear hd2 ho2 g2
    go_wp2_with fail
    go_end0
    have t : Turn (fun i => i = b) w2 ((w2.setCell ⟨b, 3, none⟩ (.int .i64 n)).setCell ⟨b, 4, none⟩ (.slice a2 n2 c2)) := ((Turn.refl (fun i => i = b) w2).setCell (fun _ => rfl) _ _).setCell (fun _ => rfl) _ _
    have hm := M2.out
    have hfr : ∀ g, (Value.slice a2 n2 c2).ownBlock = some g → w1.heap.size ≤ g ∧ g < w2.heap.size := fun g e => HO2.out.lt g e
    have hs := HS.out
    have hlt1 := M1.out.lt
    refine ⟨rfl, ⟨lv, wv, _, ⟨heap_setCell (heap_setCell HD2.out 3 _) 4 _, own_turn hm.last t (fun g e q => hm.lb (by rw [e, q])), own_turn hm.wait t (fun g e q => hm.wb (by rw [e, q])), own_turn (own_base0 HO2.out) t (fun g e q => by have := hfr g e; omega), hm.secs, hm.waits, hm.lb, hm.wb, fun e => by have := hfr b e; omega, hm.lw, fun g e q => by have := hfr g q; have := (M1.out.last.lt g e).2; omega, fun g e q => by have := hfr g q; have := (M1.out.wait.lt g e).2; omega⟩, .inl f1, fun g e => .inl (f2 g e), fun g e => .inl (f3 g e), fun g e => .inr ⟨by have := hfr g e; omega, by have := hfr g e; rw [size_setCell, size_setCell]; omega⟩⟩, ?_⟩
    exact (T2.out.then t).mono (fun i _ e => by rw [e]; exact f1)
  · have hfd : fuseD D n ks = { D with fuse := -1, keep := [] } := if_neg hn
    rw [hfd]
    clear M hb m1 t1 hb1 hd1 hW1 hfd
    go_enter Tryz.func10, Tryz.ntmps10
    go_wp2_with fail
    go_end0
    rw [HW1.out]
    exact ⟨rfl, ⟨_, _, _, M1.out, .inl f1, fun g e => .inl (f2 g e), fun g e => .inl (f3 g e), fun g e => by simp [Value.ownBlock] at e⟩, T1.out.mono (fun i _ e => by rw [e]; exact f1)⟩
theorem fuse_at (F : Nat → Prop) (b : Nat) (D : DiskS) (n : Int) (a : Option Addr) (m c : Nat) (ks : List UInt8) (w : World) (hm : DiskAt F w b D) (hb : BytesAt w (.slice a m c) ks) (hml : m ≤ 140737488351232) (hab : ∀ g o, a = some ⟨g, o, none⟩ → g ≠ b) :
    Calls Tryz.prog 10 #[.pointer (some ⟨b, 0, none⟩), .int .i64 n, .slice a m c] w fun e w' => e = .returned (.tuple #[]) ∧ DiskAt (grow F w w') w' b (fuseD D n ks) ∧ Turn F w w' :=
  fuse_at0 F b D n a m c ks w hm hb hml (fun _ => hab)
end Go.Proofs.YtbhoeiopckmfhaaGreatDoor

namespace Go.Proofs.YtbhoeiopckmfhaaGreatDoor
open Go.RowKit

/-- block b is a disk that holds D; all of its blocks lie from n0 on, none of them is one of X -/
def KDisk (n0 : Nat) (X : List Nat) (w : World) (b : Nat) (D : DiskS) : Prop := DiskAt (fun i => rest n0 X i ∧ i < w.heap.size) w b D
theorem KDisk.of {n0 : Nat} {X : List Nat} {F : Nat → Prop} {w : World} {b : Nat} {D : DiskS} (h : DiskAt F w b D) (hF : ∀ i, i < w.heap.size → F i → rest n0 X i) : KDisk n0 X w b D := h.mono (fun i hi q => ⟨hF i hi q, hi⟩)
/-- what turns but blocks of X -/
theorem KDisk.turn {n0 : Nat} {X : List Nat} {S : Nat → Prop} {w w' : World} {b : Nat} {D : DiskS} (h : KDisk n0 X w b D) (k : Turn S w w') (hS : ∀ i, i < w.heap.size → S i → i ∈ X) : KDisk n0 X w' b D :=
  KDisk.of (DiskAt.turn h k (fun i hi q s => q.1.2 (hS i hi s))) (fun i _ q => q.1)
theorem KDisk.grown {n0 : Nat} {X : List Nat} {w w' : World} {b : Nat} {D : DiskS} (h : KDisk n0 X w b D) (k : w.grownBy w' none) : KDisk n0 X w' b D := h.turn (S := fun _ => False) (Turn.of_grown k) (fun _ _ q => q.elim)
/-- new blocks of the caller's own -/
theorem KDisk.more {n0 : Nat} {X Y : List Nat} {w w' : World} {b : Nat} {D : DiskS} (h : KDisk n0 X w b D) (k : w.grownBy w' none) (hY : ∀ i ∈ Y, i ∈ X ∨ w.heap.size ≤ i) : KDisk n0 Y w' b D := by
  have := DiskAt.turn (S := fun _ => False) h (Turn.of_grown k) (fun _ _ _ q => q)
  exact KDisk.of this (fun i _ q => ⟨q.1.1, fun hy => by rcases hY i hy with h1 | h1; exact q.1.2 h1; exact absurd q.2 (by omega)⟩)
theorem rest_turn {n0 : Nat} {X : List Nat} {w w' : World} (k : Turn (fun i => rest n0 X i ∧ i < w.heap.size) w w') : Turn (rest n0 X) w w' := k.mono (fun i _ q => q.1)
theorem grow_rest {n0 : Nat} {X : List Nat} {w w' : World} (hX : ∀ x ∈ X, x < w.heap.size) (hn : n0 ≤ w.heap.size) (i : Nat) : grow (fun i => rest n0 X i ∧ i < w.heap.size) w w' i → rest n0 X i := by
  rintro (h | h)
  · exact h.1
  · exact ⟨Nat.le_trans hn h.1, fun hx => absurd (hX i hx) (by have := h.1; omega)⟩

section
variable {n0 : Nat} {X : List Nat} {w : World} {b : Nat} {D : DiskS}
theorem new_k (n : Nat) (h4 : 4 ≤ n) (hn : n ≤ 1024) (w : World) (hX : ∀ x ∈ X, x < w.heap.size) (hn0 : n0 ≤ w.heap.size) :
    Calls Tryz.prog 7 #[.int .i64 n] w fun e w' => ∃ b, e = .returned (.tuple #[.pointer (some ⟨b, 0, none⟩), .int .i64 0]) ∧ KDisk n0 X w' b (newD n) ∧ w.grownBy w' none :=
  (new_ok n h4 hn w).mono fun e w' ⟨b, q1, q2, q3⟩ => ⟨b, q1, KDisk.of q2 (fun i _ q => ⟨Nat.le_trans hn0 q.1, fun hx => absurd (hX i hx) (by have := q.1; omega)⟩), q3⟩
theorem write_k (hX : ∀ x ∈ X, x < w.heap.size) (hn : n0 ≤ w.heap.size) (i : Nat) (s : ByteArray) (hm : KDisk n0 X w b D) (h : D.on = true) (hi : i < D.last.length) (hs : s.size ≤ 64) (hf : D.fuse ≠ 0) (hf2 : D.fuse ≤ 9223372036854775807) (hwl : D.wait.length ≤ 1000000000) :
    Calls Tryz.prog 186 #[.pointer (some ⟨b, 0, none⟩), .int .i64 i, .string s] w fun e w' => e = .returned (.int .i64 0) ∧ KDisk n0 X w' b (wroteD D i s) ∧ Turn (rest n0 X) w w' :=
  (write_ok _ b D i s w hm h hi hs hf hf2 hwl).mono fun e w' q => ⟨q.1, KDisk.of q.2.1 (fun i _ z => grow_rest hX hn i z), rest_turn q.2.2⟩
theorem write_power_k (i : Nat) (s : ByteArray) (hm : KDisk n0 X w b D) (h : D.on = true) (hi : i < D.last.length) (hs : s.size ≤ 64) (hf : D.fuse = 0) (hkl : D.keep.length ≤ 9223372036854775807) (hwl : D.wait.length ≤ 1000000000000) :
    Calls Tryz.prog 186 #[.pointer (some ⟨b, 0, none⟩), .int .i64 i, .string s] w fun e w' => e = .returned (.int .i64 8) ∧ KDisk n0 X w' b (cutD D D.keep) ∧ Turn (rest n0 X) w w' :=
  (write_power _ b D i s w hm h hi hs hf hkl hwl).mono fun e w' q => ⟨q.1, KDisk.of q.2.1 (fun i _ z => z.1), rest_turn q.2.2⟩
theorem sync_k (hm : KDisk n0 X w b D) (h : D.on = true) (h0 : 0 < D.last.length) (hf : D.fuse ≠ 0) (hf2 : D.fuse ≤ 9223372036854775807) (hwl : D.wait.length ≤ 1000000000) :
    Calls Tryz.prog 187 #[.pointer (some ⟨b, 0, none⟩)] w fun e w' => e = .returned (.int .i64 0) ∧ KDisk n0 X w' b (syncD { D with fuse := decF D.fuse }) ∧ Turn (rest n0 X) w w' :=
  (sync_ok _ b D w hm h h0 hf hf2 hwl).mono fun e w' q => ⟨q.1, KDisk.of q.2.1 (fun i _ z => z.1), rest_turn q.2.2⟩
theorem sync_power_k (hm : KDisk n0 X w b D) (h : D.on = true) (h0 : 0 < D.last.length) (hf : D.fuse = 0) (hkl : D.keep.length ≤ 9223372036854775807) (hwl : D.wait.length ≤ 1000000000000) :
    Calls Tryz.prog 187 #[.pointer (some ⟨b, 0, none⟩)] w fun e w' => e = .returned (.int .i64 8) ∧ KDisk n0 X w' b (cutD D D.keep) ∧ Turn (rest n0 X) w w' :=
  (sync_power _ b D w hm h h0 hf hkl hwl).mono fun e w' q => ⟨q.1, KDisk.of q.2.1 (fun i _ z => z.1), rest_turn q.2.2⟩
theorem cut_k (ka : Option Addr) (kc m : Nat) (ks : List UInt8) (hm : KDisk n0 X w b D) (h0 : 0 < D.last.length)
    (hk : BytesAt w (.slice ka m kc) ks) (hkl : m ≤ 9223372036854775807) (hwl : D.wait.length ≤ 1000000000000) (hkg : ∀ g o, ka = some ⟨g, o, none⟩ → g < n0) :
    Calls Tryz.prog 18 #[.pointer (some ⟨b, 0, none⟩), .slice ka m kc] w fun e w' => e = .returned (.tuple #[]) ∧ KDisk n0 X w' b (cutD D ks) ∧ Turn (rest n0 X) w w' := by
  obtain rfl : ks.length = m := by obtain ⟨_, _, e, _⟩ := hk; injection e with _ e _; exact e.symm
  exact (cut_at _ b D ka kc ks w hm h0 hk hkl hwl (fun g o e q => by have := hkg g o e; have := q.1.1; omega)).mono fun e w' q => ⟨q.1, KDisk.of q.2.1 (fun i _ z => z.1), rest_turn q.2.2⟩
theorem fuse_k (hX : ∀ x ∈ X, x < w.heap.size) (hn : n0 ≤ w.heap.size) (n : Int) (a : Option Addr) (m c : Nat) (ks : List UInt8) (hm : KDisk n0 X w b D) (hb : BytesAt w (.slice a m c) ks) (hml : m ≤ 140737488351232) (hab : ∀ g o, a = some ⟨g, o, none⟩ → g < n0) :
    Calls Tryz.prog 10 #[.pointer (some ⟨b, 0, none⟩), .int .i64 n, .slice a m c] w fun e w' => e = .returned (.tuple #[]) ∧ KDisk n0 X w' b (fuseD D n ks) ∧ Turn (rest n0 X) w w' :=
  (fuse_at _ b D n a m c ks w hm hb hml (fun g o e q => by have := hab g o e; have := hm.own.1.1; omega)).mono fun e w' q => ⟨q.1, KDisk.of q.2.1 (fun i _ z => grow_rest hX hn i z), rest_turn q.2.2⟩
end
theorem BytesAt.below {n0 : Nat} {w w' : World} {v : Value} {l : List UInt8} (h : BytesAt w v l) (k : Below n0 w w') (hb : ∀ a c, v = .slice a l.length c → ∀ g o, a = some ⟨g, o, none⟩ → g < n0) : BytesAt w' v l := by
  obtain ⟨a, c, e, hc⟩ := h
  refine ⟨a, c, e, fun i hi => ?_⟩
  obtain ⟨g, o, e2, h⟩ := hc i hi
  exact ⟨g, o, e2, (k.cell (p := ⟨g, o + i, none⟩) (hb a c e g o e2)).trans h⟩

/-! ### Lists of acts: what is read of each -/
/-- the sector that is meant: the two lowest bits -/
def low2 (z : Int) : Nat := (z % 4).toNat
theorem low2_lt (z : Int) : low2 z < 4 := by unfold low2; omega
theorem and3 (z : Int) : bits .and .i64 z 3 = ((low2 z : Nat) : Int) := by
  have h1 : (BitVec.ofInt 64 z).toNat = (z % (2 ^ 64 : Nat)).toNat := by rw [BitVec.toNat_ofInt]
  have h3 : (BitVec.ofInt 64 (3 : Int)).toNat = 3 := by decide
  show IntKind.i64.wrap ((BitVec.ofInt 64 z &&& BitVec.ofInt 64 (3 : Int)).toNat : Int) = _
  rw [BitVec.toNat_and, h1, h3, show (3 : Nat) = 2 ^ 2 - 1 from rfl, Nat.and_two_pow_sub_one_eq_mod]
  have h4 : (z % (2 ^ 64 : Nat)).toNat % 2 ^ 2 = low2 z := by unfold low2; omega
  rw [h4]
  have := low2_lt z
  exact IntWalk.i64_in _ (by omega)
end Go.Proofs.YtbhoeiopckmfhaaGreatDoor

namespace Go.Proofs.YtbhoeiopckmfhaaGreatDoor
open Go.RowKit
attribute [local irreducible] shaL

set_option maxRecDepth 100000 in
set_option maxHeartbeats 1600000 in
/-- with a record behind the others -/
theorem with_any (t used : Nat) (rv : Value) (L : List ByteArray) (s : ByteArray) (hs : s.size ≤ 1000000) (hu : used ≤ 1000000) (hL : L.length ≤ 1000000) (w : World) (hv : w.ownsRow 0 9 1 rv L.length (strsV L)) :
    Calls Tryz.prog 131 #[.agg #[.int .u32 t, rv, .int .i64 used], .string s] w fun e w' => ∃ g c, e = .returned (.agg #[.int .u32 t, .slice (some ⟨g, 0, none⟩) (L.length + 1) c, .int .i64 (used + partsN s.size : Nat)]) ∧
      w'.ownsRow 0 9 1 (.slice (some ⟨g, 0, none⟩) (L.length + 1) c) (L.length + 1) (strsV (L ++ [s])) ∧ w.grownBy w' rv.ownBlock ∧ (rv.ownBlock = some g ∨ w.heap.size ≤ g) := by
  obtain ⟨i0, hi, hz0, hz1, hz2⟩ := info_parts infoStrW
  obtain ⟨ra, rc, rfl⟩ := slice_own' hv
  have HPT := Lib.hid (fun w => parts_any s.size (by omega) w)
  have hpl : partsN s.size ≤ 1000001 := by unfold partsN; split <;> omega
  generalize partsN s.size = P at HPT hpl ⊢
  have HV := Lib.hid hv
  have hsz : (s.size : Int) ≤ 1000000 := by omega
  clear hv
  go_enter Tryz.func131, Tryz.ntmps131
  obtain ⟨B, hB⟩ : ∃ B, w.heap.size = B := ⟨_, rfl⟩
  obtain ⟨w1, hW1⟩ : ∃ w1, (w.alloc (.cells #[.int .u32 t, .slice ra L.length rc, .int .i64 used] 163)).alloc (.cells #[.int .u32 0, .slice none 0 0, .int .i64 0] 163) = w1 := ⟨_, rfl⟩
  have hh1 : w1.heap[B]? = some (.cells #[.int .u32 t, .slice ra L.length rc, .int .i64 used] 163 (0, 0)) := by
    rw [← hW1, Below.heap_alloc _ _ _ (by simp; omega)]; exact heap_alloc_at _ _ _ hB
  have hr1 : w1.heap[B + 1]? = some (.cells #[.int .u32 0, .slice none 0 0, .int .i64 0] 163 (0, 0)) := by
    rw [← hW1]; exact heap_alloc_at _ _ _ (by simp; omega)
  have hg1 : w.grownBy w1 none := by rw [← hW1]; exact grownBy_alloc' (World.grownBy_alloc _ _ _) _
  have hv1 := own_turn HV.out (S := fun _ => False) (Turn.of_grown hg1) (fun _ _ q => q)
  have c1 := cell_of hh1 1
  simp at c1
  have hrl : ∀ x, (Value.slice ra L.length rc).ownBlock = some x → x < B := fun x e => by rw [← hB]; exact (HV.out.lt x e).2
  have hB1 : w1.heap.size = B + 2 := by rw [← hW1]; simp; omega
  have HH := Lib.hid (And.intro hh1 hr1)
  have HG1 := Lib.hid hg1
  have HRL := Lib.hid hrl
  have hv2 : Hid ((w1.alloc (.cells #[.string s] 9)).ownsRow 0 9 1 (.slice ra L.length rc) L.length (strsV L)) := hv1.alloc _
  clear hh1 hr1 hg1 hv1 hrl
  go_wp2_with (at_builtin; refine wpList_append_lies _ rfl _ _ 33 rfl 0 9 i0 (.string ⟨#[]⟩) 1 16 Tryz.underlying33 hi hz0 hz1 hz2 rfl (by decide) _ _ _ rfl hv2.out ⟨B + 2, 0, none⟩ 1 1 [.string s] rfl rfl ?q1 ?q2 (by decide) ?q3 ?q4 ?q5 _ rfl ?_)
  case q1 => rw [← hB1]; exact lit_one w1 s
  case q2 => intro u hu; simp at hu; subst hu; rfl
  case q3 => unfold maxLen; omega
  case q4 => omega
  case q5 => exact Nat.zero_le _
  intro g cap w2 hown hg hat hlt
  rw [push_strs] at hown
  have hb2 : w2.heap[B]? = _ := hg.heap (World.grownBy_alloc w1 (.cells #[.string s] 9) none |>.heap HH.out.1 (by simp)) (fun e => by have := HRL.out B e; omega)
  have hr2 : w2.heap[B + 1]? = _ := hg.heap (World.grownBy_alloc w1 (.cells #[.string s] 9) none |>.heap HH.out.2 (by simp)) (fun e => by have := HRL.out _ e; omega)
  have hgB : g ≠ B ∧ g ≠ B + 1 := by
    rcases hat with e | e
    · have := HRL.out g e; omega
    · omega
  have HG2 : Hid (w.grownBy w2 (Value.slice ra L.length rc).ownBlock) := by
    refine ⟨hg.os.trans HG1.out.os, hg.tape.trans HG1.out.tape, hg.output.trans HG1.out.output, Nat.le_trans (Nat.le_trans HG1.out.size (by simp)) hg.size, fun i hi hne => ?_⟩
    rw [hg.block i (by simp; omega) hne, (World.grownBy_alloc w1 (.cells #[.string s] 9) none).block i (by omega) (by simp)]
    exact HG1.out.block i hi (by simp)
  have HAT : Hid ((Value.slice ra L.length rc).ownBlock = some g ∨ B ≤ g) := by
    rcases hat with e | e
    · exact .inl e
    · exact .inr (by omega)
  have HOW := Lib.hid hown
  have HB2 := Lib.hid hb2
  have HR2 := Lib.hid hr2
  have HGB := Lib.hid hgB
  have f1 := free_of hb2 1
  have c1' := cell_of hb2 1
  simp at c1'
  clear hg hown hat hb2 hr2 hgB HH c1
  go_wp2_with fail
  obtain ⟨w3, hW3⟩ : ∃ w3, w2.setCell ⟨B, 1, none⟩ (.slice (some ⟨g, 0, none⟩) (L.length + 1) cap) = w3 := ⟨_, rfl⟩
  rw [hW3]
  have hb3 : w3.heap[B]? = some (.cells #[.int .u32 t, .slice (some ⟨g, 0, none⟩) (L.length + 1) cap, .int .i64 used] 163 (0, 0)) := by
    rw [← hW3, heap_setCell HB2.out]; rfl
  have hr3 : w3.heap[B + 1]? = some (.cells #[.int .u32 0, .slice none 0 0, .int .i64 0] 163 (0, 0)) := by
    rw [← hW3, heap_setCell_ne _ _ _ _ (by omega)]; exact HR2.out
  have ho3 : Hid (w3.ownsRow 0 9 1 (.slice (some ⟨g, 0, none⟩) (L.length + 1) cap) (L.length + 1) (strsV (L ++ [s]))) := by
    rw [← hW3]
    exact own_turn HOW.out (S := fun i => i = B) ((Turn.refl (fun i => i = B) w2).setCell (fun _ => rfl) _ _) (fun x e q => by cases e; exact HGB.out.1 q)
  have hg3 : Hid (w.grownBy w3 (Value.slice ra L.length rc).ownBlock) := by rw [← hW3]; exact grownBy_setNew HG2.out (by omega) _ _
  have c2 := cell_of hb3 2
  simp at c2
  have f2 := free_of hb3 2
  have HB3 := Lib.hid hb3
  have HR3 := Lib.hid hr3
  have hu3 : (used : Int) ≤ 1000000 := by omega
  have hp3 : (P : Int) ≤ 1000001 := by omega
  clear hW3 hW1 c1' f1 HOW HB2 HR2 hb3 hr3 HG2 hv2
  have hw := wrap_i64_nat (used + P) (by omega)
  rw [Int.natCast_add] at hw
  have HBL := Lib.hid hB
  have HG1s := Lib.hid HG1.out.size
  clear HG1 hB
  go_region_with ((go_at_call 136; refine (HPT.out _).mono ?_; rintro e wq ⟨rfl, rfl⟩))
  all_goals
    obtain ⟨w4, hW4⟩ : ∃ w4, (w3.setCell ⟨B, 2, none⟩ (.int .i64 (↑used + ↑P))).drew = w4 := ⟨_, rfl⟩
    rw [hW4]
    have hb4 : w4.heap[B]? = some (.cells #[.int .u32 t, .slice (some ⟨g, 0, none⟩) (L.length + 1) cap, .int .i64 (↑used + ↑P)] 163 (0, 0)) := by
      rw [← hW4]; show (w3.setCell _ _).heap[B]? = _; rw [heap_setCell HB3.out]; rfl
    have hr4 : w4.heap[B + 1]? = some (.cells #[.int .u32 0, .slice none 0 0, .int .i64 0] 163 (0, 0)) := by
      rw [← hW4]; show (w3.setCell _ _).heap[B + 1]? = _; rw [heap_setCell_ne _ _ _ _ (by omega)]; exact HR3.out
    have HO4 : Hid (w4.ownsRow 0 9 1 (.slice (some ⟨g, 0, none⟩) (L.length + 1) cap) (L.length + 1) (strsV (L ++ [s]))) := by
      rw [← hW4]
      exact own_turn ho3.out (S := fun i => i = B) ((Turn.refl (fun i => i = B) w3).setCell (fun _ => rfl) _ _).drew (fun x e q => by cases e; exact HGB.out.1 q)
    have HG4 : Hid (w.grownBy w4 (Value.slice ra L.length rc).ownBlock) := by rw [← hW4]; exact grownBy_drew (grownBy_setNew hg3.out (by have := HBL.out; omega) _ _)
    have k0 := cell_of hb4 0
    have k1 := cell_of hb4 1
    have k2 := cell_of hb4 2
    have r0 := cell_of hr4 0
    have r1 := cell_of hr4 1
    have r2 := cell_of hr4 2
    have q0 := free_of hr4 0
    have q1 := free_of hr4 1
    have q2 := free_of hr4 2
    simp at k0 k1 k2 r0 r1 r2
    clear hW4 hb4 c2 f2 ho3 hg3 HB3 HR3
    go_wp2_with fail
    obtain ⟨w5, hW5⟩ : ∃ w5, ((w4.setCell ⟨B + 1, 0, none⟩ (.int .u32 t)).setCell ⟨B + 1, 1, none⟩ (.slice (some ⟨g, 0, none⟩) (L.length + 1) cap)).setCell ⟨B + 1, 2, none⟩ (.int .i64 (↑used + ↑P)) = w5 := ⟨_, rfl⟩
    rw [hW5]
    have hr5 : w5.heap[B + 1]? = some (.cells #[.int .u32 t, .slice (some ⟨g, 0, none⟩) (L.length + 1) cap, .int .i64 (↑used + ↑P)] 163 (0, 0)) := by
      rw [← hW5, heap_setCell (heap_setCell (heap_setCell hr4 0 _) 1 _) 2 _]; rfl
    have p0 := cell_of hr5 0
    have p1 := cell_of hr5 1
    have p2 := cell_of hr5 2
    simp at p0 p1 p2
    have HO5 : Hid (w5.ownsRow 0 9 1 (.slice (some ⟨g, 0, none⟩) (L.length + 1) cap) (L.length + 1) (strsV (L ++ [s]))) := by
      rw [← hW5]
      exact own_turn HO4.out (S := fun i => i = B + 1) ((((Turn.refl (fun i => i = B + 1) w4).setCell (fun _ => rfl) _ _).setCell (fun _ => rfl) _ _).setCell (fun _ => rfl) _ _) (fun x e q => by cases e; exact HGB.out.2 q)
    have HG5 : Hid (w.grownBy w5 (Value.slice ra L.length rc).ownBlock) := by
      rw [← hW5]
      exact grownBy_setNew (grownBy_setNew (grownBy_setNew HG4.out (by have := HBL.out; omega) _ _) (by have := HBL.out; omega) _ _) (by have := HBL.out; omega) _ _
    clear hW5 hr5 hr4 k0 k1 k2 r0 r1 r2 q0 q1 q2
    exact bodyPost_ret (v := .agg #[.int .u32 t, .slice (some ⟨g, 0, none⟩) (L.length + 1) cap, .int .i64 (↑used + ↑P)]) (by simp [results, Tryz.results131, go_sem, p0, p1, p2]; try rfl) rfl ⟨g, cap, by rw [Int.natCast_add], HO5.out, HG5.out, by rw [HBL.out]; exact HAT.out⟩
end Go.Proofs.YtbhoeiopckmfhaaGreatDoor

namespace Go.Proofs.YtbhoeiopckmfhaaGreatDoor
open Go.RowKit

/-- the bit of a text -/
def bitS (s : ByteArray) (i : Nat) : Nat := ((s.data.toList[i / 8]?).getD 0).toNat / 2 ^ (7 - i % 8) % 2
theorem bitS_le (s : ByteArray) (i : Nat) : bitS s i ≤ 1 := by unfold bitS; omega
theorem bitS_out (s : ByteArray) (i : Nat) (h : s.size ≤ i / 8) : bitS s i = 0 := by
  unfold bitS
  rw [List.getElem?_eq_none (by simpa using h)]
  simp
theorem bitS_in (s : ByteArray) (i q r : Nat) (hq : i / 8 = q) (hr : i % 8 = r) (h : q < s.size) : bitS s i = s[q].toNat / 2 ^ (7 - r) % 2 := by
  unfold bitS
  subst hq hr
  rw [List.getElem?_eq_getElem (by simpa using h)]
  rfl

set_option maxHeartbeats 400000 in
theorem bplace_any (r q : Nat) (hr : r < 8) (d : Nat) (hd : d = 8 * q + r) (hb : d < 9223372036854775808) (w : World) :
    Calls Tryz.prog 112 #[.int .i64 d] w fun e w' => e = .returned (.int .i64 ((7 - r : Nat) : Int)) ∧ w = w' := by
  have h1 : (d : Int) % 8 = (r : Int) := by omega
  have h2 : (7 : Int) - (r : Int) = ((7 - r : Nat) : Int) := by omega
  have h3 : ((7 - r : Nat) : Int) < 8 := by omega
  go_enter Tryz.func112, Tryz.ntmps112
  go_wp2_with fail
  go_ret
  exact ⟨congrArg (fun z => Ending.returned (.int .i64 z)) (by omega), rfl⟩

set_option maxHeartbeats 400000 in
theorem bands_any (d : Nat) (hb : d < 9223372036854775808) (w : World) :
    Calls Tryz.prog 63 #[.int .i64 d] w fun e w' => e = .returned (.bool (decide (d ≤ 16))) ∧ w = w' := by
  have h0 : (0 : Int) ≤ (d : Int) := by omega
  by_cases h : d ≤ 16
  · have h1 : (d : Int) ≤ 16 := by omega
    go_enter Tryz.func63, Tryz.ntmps63
    go_wp2_with fail
    go_ret
    exact ⟨by simp [h], rfl⟩
  · have h1 : ¬ (d : Int) ≤ 16 := by omega
    go_enter Tryz.func63, Tryz.ntmps63
    go_wp2_with fail
    go_ret
    exact ⟨by simp [h], rfl⟩
theorem bands_neg (z : Int) (hz : z < 0) (w : World) :
    Calls Tryz.prog 63 #[.int .i64 z] w fun e w' => e = .returned (.bool false) ∧ w = w' := by
  have h0 : ¬ (0 : Int) ≤ z := by omega
  go_enter Tryz.func63, Tryz.ntmps63
  go_wp2_with fail
  go_ret
  exact ⟨rfl, rfl⟩

theorem shr_bit (c k : Nat) (hc : c < 256) : (c : Int) / 2 ^ k = ((c / 2 ^ k : Nat) : Int) := by
  rw [Int.natCast_ediv]; simp
set_option maxRecDepth 100000 in
set_option maxHeartbeats 1600000 in
theorem bit_any (s : ByteArray) (hs : s.size ≤ maxLen) (d : Nat) (hb : d < 9223372036854775808) (w : World) :
    Calls Tryz.prog 64 #[.string s, .int .i64 d] w fun e w' => e = .returned (.int .i64 (bitS s d : Nat)) ∧ w.grownBy w' none := by
  unfold maxLen at hs
  obtain ⟨q, hq⟩ : ∃ q, d / 8 = q := ⟨_, rfl⟩
  obtain ⟨r, hr⟩ : ∃ r, d % 8 = r := ⟨_, rfl⟩
  have h0 : (0 : Int) ≤ (d : Int) := by omega
  have h00 : ¬ (d : Int) < 0 := by omega
  have hdq : (d : Int) / 8 = (q : Int) := by omega
  by_cases hin : q < s.size
  · have e := bitS_in s d q r hq hr hin
    have h1 : ¬ (s.size : Int) ≤ (q : Int) := by omega
    have h2 : (q : Int) < (s.size : Int) := by omega
    have h3 : (0 : Int) ≤ (q : Int) := by omega
    have h4 := wrap_i64_nat q (by omega)
    have HC := Lib.hid (fun w => bplace_any r q (by omega) d (by omega) hb w)
    have hr7 : 7 - r < 8 := by omega
    generalize 7 - r = k at HC e hr7
    have hc := s[q].toNat_lt
    have hx : (s[q].toNat : Int) / 2 ^ k = ((s[q].toNat / 2 ^ k : Nat) : Int) := shr_bit _ k hc
    have hy : s[q].toNat / 2 ^ k < 256 := Nat.lt_of_le_of_lt (Nat.div_le_self _ _) hc
    have hz := and_one_i64 (s[q].toNat / 2 ^ k) (by omega)
    rw [← e] at hz
    generalize s[q].toNat / 2 ^ k = m at hx hy hz
    have hm : (m : Int) < 256 := by omega
    have hmw := wrap_i64_nat m (by omega)
    clear e hc
    have hk0 : (0 : Int) ≤ (k : Int) := by omega
    have hk8 : (k : Int) < 8 := by omega
    go_enter Tryz.func64, Tryz.ntmps64
    go_wp2_with fail
    go_region_with ((go_at_call 112; refine (HC.out _).mono ?_; rintro e w1 ⟨rfl, rfl⟩))
    all_goals
      go_wp2_with fail
      go_ret
      exact ⟨by first | rfl | (show Ending.returned (.int .i64 _) = _; rfl), grownBy_drew (World.grownBy.refl _ _)⟩
  · have e := bitS_out s d (by omega)
    have h1 : (s.size : Int) ≤ (q : Int) := by omega
    rw [e]
    go_enter Tryz.func64, Tryz.ntmps64
    go_wp2_with fail
    go_ret
    exact ⟨rfl, World.grownBy.refl _ _⟩
end Go.Proofs.YtbhoeiopckmfhaaGreatDoor
