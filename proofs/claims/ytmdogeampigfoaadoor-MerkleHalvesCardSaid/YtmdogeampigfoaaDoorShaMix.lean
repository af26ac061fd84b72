/- The walk of hash.mix. -/
import Derived.Test.YtmdogeampigfoaaDoorShaSched
import Derived.Deep.DeepCutAuto
import Derived.Great.BuildSlice
import Derived.Deep.WholeRow
import Derived.ChangeKeysEq
namespace Go.Proofs.YtmdogeampigfoaaDoor
open Go.RowKit
attribute [local irreducible] sched

/-- the rounds' constants in memory -/
def RootsAt (w : World) : Prop := ∀ i, i < 64 → w.cell? ⟨1, i, none⟩ = some (.int .u32 (rootsL.getD i 0 : Nat))
theorem RootsAt.kept {w w' : World} {row : Option Nat} (h : RootsAt w) (hg : w.grownBy w' row) (hr : row ≠ some 1) : RootsAt w' := fun i hi => by
  have hl : 1 < w.heap.size := World.block_lt_of_cell? w _ (h i hi)
  have := hg.block 1 hl (fun e => hr e.symm)
  rw [← h i hi]
  unfold World.cell?
  simp only [this]

/-- an array's value, indexed by a letter: its elements are one cell each -/
theorem run_index_one {P : Program} {t e : TypeId} {n : Nat} (hu : P.underlying t = some (.array n e)) (he : P.plainKey e = true) {i0 : TypeInfo} (hi : P.info? e = some i0) (hc : P.cellsOf e = 1)
    {cs : Array Value} {j : Nat} {v : Value} (hj : j < n) (hv : cs[j]? = some v) (w : World) : (Instr.index t (.agg cs) (.int .i64 j)).run P w = .ok v w := by
  have h1 : (0 : Int) ≤ (j : Int) ∧ (j : Int) < (n : Int) := by omega
  simp [Instr.index, asIntOf, run_underlying hu, Sem.run_bind, run_sizeOf w hi, hc, hj, run_part_plain w he hv]
theorem st_index (v : St) (i : Nat) (hi : i < 8) (w : World) : (Instr.index 98 (.agg #[.int .u32 v.a, .int .u32 v.b, .int .u32 v.c, .int .u32 v.d, .int .u32 v.e, .int .u32 v.f, .int .u32 v.g, .int .u32 v.h]) (.int .i64 i)).run Tryd.prog w = .ok (.int .u32 (v.list.getD i 0 : Nat)) w := by
  obtain ⟨i0, h0⟩ : ∃ i0, Tryd.prog.info? 85 = some i0 := Option.isSome_iff_exists.1 (by kernel_rfl)
  refine run_index_one Tryd.underlying98 (by kernel_rfl) h0 (by kernel_rfl) hi ?_ w
  show (u32s v.list).toArray[i]? = _
  rw [List.getElem?_toArray]
  exact u32s_at v.list i hi
theorem list_ok {s : St} (h : s.ok) : ∀ x ∈ s.list, x < 4294967296 := by
  obtain ⟨ha, hb, hc, hd, he, hf, hg, hh⟩ := h
  intro x hx
  simp only [St.list, List.mem_cons, List.not_mem_nil, or_false] at hx
  rcases hx with rfl | rfl | rfl | rfl | rfl | rfl | rfl | rfl <;> assumption
theorem add_at (s v : St) (i : Nat) (hi : i < 8) : (s.add v).list.getD i 0 = (s.list.getD i 0 + v.list.getD i 0) % 4294967296 := by
  obtain rfl | rfl | rfl | rfl | rfl | rfl | rfl | rfl : i = 0 ∨ i = 1 ∨ i = 2 ∨ i = 3 ∨ i = 4 ∨ i = 5 ∨ i = 6 ∨ i = 7 := by omega
  all_goals rfl
/-- the hash, some of its words added up -/
structure LW (w wr : World) (b : Nat) (s v : St) (blk : List UInt8) (n i : Nat) : Prop where
  g : w.grownBy wr (some b)
  h : wr.heap[b]? = some (.cells (u32s ((s.add v).list.take i ++ s.list.drop i) ++ (u8s blk ++ [Value.int .u64 (n : Int)])).toArray 101 (0, 0))
theorem LW.cell {w wr : World} {b : Nat} {s v : St} {blk : List UInt8} {n i : Nat} (h : LW w wr b s v blk n i) (hi : i < 8) : wr.cell? ⟨b, i, none⟩ = some (.int .u32 (s.list.getD i 0 : Nat)) := by
  rw [cell_of h.h, List.getElem?_toArray, List.getElem?_append_left (by rw [u32s_length]; simp [St.list_length]; omega)]
  rw [u32s_at _ _ (by simp [St.list_length]; omega)]
  congr 2
  rw [List.getD_eq_getElem?_getD, List.getD_eq_getElem?_getD, List.getElem?_append_right (by simp [St.list_length]; omega)]
  simp [St.list_length]
  rw [show i + (i - min i 8) = i from by omega]
theorem LW.next {w wr : World} {b : Nat} {s v : St} {blk : List UInt8} {n i : Nat} (h : LW w wr b s v blk n i) (hi : i < 8) : LW w ((wr.setCell ⟨b, i, none⟩ (.int .u32 ((s.add v).list.getD i 0 : Nat))).drew) b s v blk n (i + 1) := by
  refine ⟨grownBy_drew (grownBy_setCell h.g _ _), ?_⟩
  show (wr.setCell _ _).heap[b]? = _
  rw [heap_setCell h.h]
  congr 2
  rw [List.setIfInBounds_toArray]
  congr 1
  rw [List.set_append_left _ _ (by rw [u32s_length]; simp [St.list_length]; omega), ← u32s_set]
  congr 2
  have h8 : s.list.length = 8 := rfl
  have h9 : (s.add v).list.length = 8 := rfl
  rw [List.set_append_right _ _ (by simp; omega)]
  have e : s.list.drop i = s.list[i]'(by omega) :: s.list.drop (i + 1) := List.drop_eq_getElem_cons (by omega)
  rw [e, List.length_take, h9, show i - min i 8 = 0 from by omega, List.set_cons_zero, List.take_succ_eq_append_getElem (by omega), List.append_assoc]
  congr 2
  rw [List.getD_eq_getElem?_getD, List.getElem?_eq_getElem (by omega)]
  rfl

/-- what the walk of mix keeps: the hash, the constants, the words' block -/
structure MW (w wr : World) (A b : Nat) (s : St) (blk : List UInt8) (n : Nat) : Prop where
  g : w.grownBy wr none
  h : HashAt wr b s blk n
  r : RootsAt wr
  c : ∀ i, i < 64 → wr.cell? ⟨A, i, none⟩ = some (.int .u32 ((sched blk).getD i 0 : Nat))
theorem MW.drewN {w wr : World} {A b : Nat} {s : St} {blk : List UInt8} {n : Nat} (h : MW w wr A b s blk n) (k : Nat) : MW w (wr.drewN k) A b s blk n :=
  ⟨grownBy_drewN h.g k, h.h, h.r, h.c⟩

theorem Sig1_bits (x : Nat) (hx : x < 4294967296) : bits .xor .u32 (bits .xor .u32 (rotr 6 x : Nat) (rotr 11 x : Nat)) (rotr 25 x : Nat) = (Sig1 x : Nat) := by
  rw [u32_xor_nat _ _ (rotr_lt (by decide) hx) (rotr_lt (by decide) hx), u32_xor_nat _ _ (xor_lt (rotr_lt (by decide) hx) (rotr_lt (by decide) hx)) (rotr_lt (by decide) hx)]
  rfl
theorem Sig0_bits (x : Nat) (hx : x < 4294967296) : bits .xor .u32 (bits .xor .u32 (rotr 2 x : Nat) (rotr 13 x : Nat)) (rotr 22 x : Nat) = (Sig0 x : Nat) := by
  rw [u32_xor_nat _ _ (rotr_lt (by decide) hx) (rotr_lt (by decide) hx), u32_xor_nat _ _ (xor_lt (rotr_lt (by decide) hx) (rotr_lt (by decide) hx)) (rotr_lt (by decide) hx)]
  rfl

theorem not32 (x : Nat) (hx : x < 4294967296) : 4294967295 ^^^ x = 4294967295 - x := by
  have h1 : (BitVec.allOnes 32 ^^^ BitVec.ofNat 32 x).toNat = (~~~ BitVec.ofNat 32 x).toNat := by rw [BitVec.allOnes_xor]
  rw [BitVec.toNat_xor, BitVec.toNat_not, BitVec.toNat_allOnes, BitVec.toNat_ofNat, Nat.mod_eq_of_lt hx] at h1
  exact h1
theorem chs_bits (e f g : Nat) (he : e < 4294967296) (hf : f < 4294967296) (hg : g < 4294967296) :
    bits .xor .u32 (bits .and .u32 (e : Int) f) (bits .and .u32 (bits .xor .u32 (if IntKind.u32.signed = true then -1 else IntKind.u32.max) (e : Int)) g) = (chs e f g : Nat) := by
  have h1 : (if IntKind.u32.signed = true then -1 else IntKind.u32.max) = ((4294967295 : Nat) : Int) := by decide
  rw [h1, u32_xor_nat _ _ (by decide) he, not32 e he, u32_and_nat _ _ he hf, u32_and_nat _ _ (by omega) hg, u32_xor_nat _ _ (and_lt he) (and_lt (by omega))]
  rfl
theorem maj_bits (a b c : Nat) (ha : a < 4294967296) (hb : b < 4294967296) (hc : c < 4294967296) :
    bits .xor .u32 (bits .xor .u32 (bits .and .u32 (a : Int) b) (bits .and .u32 (a : Int) c)) (bits .and .u32 (b : Int) c) = (maj a b c : Nat) := by
  rw [u32_and_nat _ _ ha hb, u32_and_nat _ _ ha hc, u32_and_nat _ _ hb hc, u32_xor_nat _ _ (and_lt ha) (and_lt ha), u32_xor_nat _ _ (xor_lt (and_lt ha) (and_lt ha)) (and_lt hb)]
  rfl
theorem step_a (t : St) (K W : Nat) : ((((t.h : Int) + Sig1 t.e + chs t.e t.f t.g + K + W) % 4294967296 + ((Sig0 t.a : Nat) + (maj t.a t.b t.c : Nat)) % 4294967296) % 4294967296 : Int) = ((t.step K W).a : Nat) := by
  simp [St.step, t1, t2]
theorem step_e (t : St) (K W : Nat) : (((t.d : Int) + ((t.h : Int) + Sig1 t.e + chs t.e t.f t.g + K + W) % 4294967296) % 4294967296 : Int) = ((t.step K W).e : Nat) := by
  simp [St.step, t1]

set_option maxRecDepth 100000 in
set_option maxHeartbeats 800000 in
theorem mix_any (w : World) (b : Nat) (s : St) (blk : List UInt8) (n : Nat) (h : HashAt w b s blk n) (hs : s.ok) (hr : RootsAt w) (hb : b ≠ 1) :
    Calls Tryd.prog 55 #[.pointer (some ⟨b, 0, none⟩)] w fun e w' => e = .returned (.tuple #[]) ∧ HashAt w' b (s.mix blk) blk n ∧ w.grownBy w' (some b) := by
  have hlt := h.lt
  have H := Lib.hid h
  have HR := Lib.hid hr
  clear h hr
  have hl := sched_length blk
  have HI : Hid ((Tryd.prog.info? 110).map (·.size) = some (u32s (sched blk)).toArray.size) := by
    show _ = _
    rw [List.size_toArray, u32s_length, hl]; kernel_rfl
  have H1 : Hid ((u32s (sched blk)).toArray.all (·.oneCell') = true) := all_oneCell_toArray (by
    intro v hv
    obtain ⟨x, _, rfl⟩ := List.mem_map.1 hv
    rfl)
  have HL : Hid ((u32s (sched blk)).toArray.size = 64) := by
    show _ = _
    rw [List.size_toArray, u32s_length, hl]
  clear hl
  go_enter Tryd.func55, Tryd.ntmps55
  go_wp2_with fail
  refine (schedule_any _ b s blk n H.out).mono ?_
  rintro e w1 ⟨rfl, g1⟩
  have hlt1 : b < w1.heap.size := Nat.lt_of_lt_of_le hlt g1.size
  have G1 := Lib.hid g1
  clear g1
  go_wp2_with (refine wpList_store_rowTo (by rfl) 110 (.tmp 2) (.tmp 19) (by rfl) (by rfl) w1.heap.size (u32s (sched blk)).toArray (by rfl) (by rfl) 110 _ (heap_alloc_new w1 _) HI.out (by exact HL.out.symm) H1.out ?_)
  generalize hW : World.setRow (World.alloc w1 _) w1.heap.size _ = w2
  rw [World.setRow_alloc_new] at hW
  have g2 : w1.grownBy w2 none := by rw [← hW]; exact World.grownBy_alloc _ _ _
  have hA : w2.heap[w1.heap.size]? = some (.cells (u32s (sched blk)).toArray 110 (0, 0)) := by rw [← hW]; exact heap_alloc_at _ _ _ rfl
  clear hW
  have hm : MW w w2 w1.heap.size b s blk n := by
    have g := grownBy_trans G1.out g2
    refine ⟨g, H.out.kept g (by simp), HR.out.kept g (by simp), fun i hi => ?_⟩
    rw [cell_of hA, List.getElem?_toArray, u32s_at _ _ (by rw [sched_length]; exact hi)]
  clear g2 hA
  have hA1 : w.heap.size ≤ w1.heap.size := G1.out.size
  generalize w1.heap.size = A at *
  have c0 : w2.cell? ⟨b, 0, none⟩ = some (.int .u32 s.a) := hm.h.word 0 (by decide)
  have c1 : w2.cell? ⟨b, 1, none⟩ = some (.int .u32 s.b) := hm.h.word 1 (by decide)
  have c2 : w2.cell? ⟨b, 2, none⟩ = some (.int .u32 s.c) := hm.h.word 2 (by decide)
  have c3 : w2.cell? ⟨b, 3, none⟩ = some (.int .u32 s.d) := hm.h.word 3 (by decide)
  have c4 : w2.cell? ⟨b, 4, none⟩ = some (.int .u32 s.e) := hm.h.word 4 (by decide)
  have c5 : w2.cell? ⟨b, 5, none⟩ = some (.int .u32 s.f) := hm.h.word 5 (by decide)
  have c6 : w2.cell? ⟨b, 6, none⟩ = some (.int .u32 s.g) := hm.h.word 6 (by decide)
  have c7 : w2.cell? ⟨b, 7, none⟩ = some (.int .u32 s.h) := hm.h.word 7 (by decide)
  have HM := Lib.hid hm
  clear hm
  go_quiet (fail)
  clear c0 c1 c2 c3 c4 c5 c6 c7
  have HM2 := Lib.hid (HM.out.drewN nq)
  clear HM
  generalize w2.drewN nq = w3 at HM2 ⊢
  go_wp2_with fail
  go_loopw [3, 4, 5, 6, 7, 8, 9, 10, 60] (fun v3 v4 v5 v6 v7 v8 v9 v10 v60 wr => ∃ i : Nat, ∃ t : St, i ≤ 64 ∧ Hid (roundsTo s rootsL (sched blk) i = t) ∧ v3 = .int .u32 t.a ∧ v4 = .int .u32 t.b ∧ v5 = .int .u32 t.c ∧ v6 = .int .u32 t.d ∧ v7 = .int .u32 t.e ∧ v8 = .int .u32 t.f ∧ v9 = .int .u32 t.g ∧ v10 = .int .u32 t.h ∧ v60 = .int .i64 i ∧ Hid (MW w wr A b s blk n)) (fun _ _ _ _ _ _ _ _ i _ => 64 - (intOf i).toNat)
  case atStart => exact ⟨0, s, by omega, rfl, rfl, rfl, rfl, rfl, rfl, rfl, rfl, rfl, rfl, HM2.out⟩
  case round =>
    clear HM2
    obtain ⟨i, t, hi, HT, rfl, rfl, rfl, rfl, rfl, rfl, rfl, rfl, rfl, HM⟩ := hrel
    obtain ⟨ta, tb, tc, td, te, tf, tg, th⟩ := t
    have ht : (⟨ta, tb, tc, td, te, tf, tg, th⟩ : St).ok := by rw [← HT.out]; exact roundsTo_ok hs _ _ _
    obtain ⟨la, lb, lc, ld, le, lf, lg, lh⟩ := ht
    simp only at la lb lc ld le lf lg lh
    have hw := getD_lt (sched_lt blk) (by decide) i
    have hk : rootsL.getD i 0 < 4294967296 := getD_lt (by decide) (by decide) i
    by_cases hlt : i < 64
    · have d1 := HM.out.r i hlt
      have d2 := HM.out.c i hlt
      generalize hK : rootsL.getD i 0 = K at d1 hk
      generalize hW : (sched blk).getD i 0 = W at d2 hw
      have HK := Lib.hid hK
      have HW := Lib.hid hW
      clear hK hW
      have b1 : (0 : Int) ≤ (i : Int) := by omega
      have b2 : (i : Int) < 64 := by omega
      have e1 := Sig1_bits te le
      have e0 := Sig0_bits ta la
      simp only
      go_wp2_with ((go_at_call 62; refine (rot_c _ _ (by assumption) (by decide) _).mono ?_; rintro e w' ⟨rfl, rfl⟩))
      go_quiet (fail)
      go_wp2_with ((go_at_call 62; refine (rot_c _ _ (by assumption) (by decide) _).mono ?_; rintro e w' ⟨rfl, rfl⟩))
      go_roundw
      case rel =>
        refine ⟨i + 1, (⟨ta, tb, tc, td, te, tf, tg, th⟩ : St).step K W, by omega, ?_, val_int ?_, rfl, rfl, rfl, val_int ?_, rfl, rfl, rfl, by go_num, HM.out.drewN _⟩
        · show roundsTo _ _ _ (i + 1) = _
          rw [roundsTo, HT.out, HK.out, HW.out]
        · rw [chs_bits te tf tg le lf lg, maj_bits ta tb tc la lb lc]
          exact step_a ⟨ta, tb, tc, td, te, tf, tg, th⟩ K W
        · rw [chs_bits te tf tg le lf lg]
          exact step_e ⟨ta, tb, tc, td, te, tf, tg, th⟩ K W
      case measure => simp [intOf]; omega
    · have : i = 64 := by omega
      subst this
      have HV : Hid (roundsTo s rootsL (sched blk) 64 = ⟨ta, tb, tc, td, te, tf, tg, th⟩) := HT
      generalize hv : (⟨ta, tb, tc, td, te, tf, tg, th⟩ : St) = v at HV
      have HVV := Lib.hid hv
      clear hv HT
      rw [show ((64 : Nat) : Int) = 64 from rfl]
      go_wp2_with fail
      go_loopw [134] (fun v134 wr => ∃ i : Nat, i ≤ 8 ∧ v134 = .int .i64 i ∧ LW w wr b s v blk n i) (fun i _ => 8 - (intOf i).toNat)
      case atStart => exact ⟨0, by omega, rfl, grownBy_any HM.out.g _, by rw [HM.out.h.2]; simp⟩
      case round =>
        obtain ⟨i, hi, rfl, hl⟩ := hrel
        by_cases hlt : i < 8
        · have HN := Lib.hid (hl.next hlt)
          have c := hl.cell hlt
          have f := free_of hl.h i
          have hx := getD_lt (show ∀ x ∈ s.list, x < 4294967296 from list_ok hs) (by decide) i
          clear hl
          have q := st_index v i hlt
          have hy := getD_lt (show ∀ x ∈ v.list, x < 4294967296 from list_ok (by rw [← HV.out]; exact roundsTo_ok hs _ _ _)) (by decide) i
          generalize hX : s.list.getD i 0 = x at c hx
          generalize hY : v.list.getD i 0 = y at q hy
          have HX := Lib.hid hX
          have HY := Lib.hid hY
          clear hX hY
          have b1 : (0 : Int) ≤ (i : Int) := by omega
          have b2 : (i : Int) < 8 := by omega
          go_wp2_with fail
          go_still_tail 11, (by kernel_rfl)
          go_wp2_with fail
          go_roundw
          case rel =>
            refine ⟨i + 1, by omega, by go_num, ?_⟩
            have := HN.out
            rw [add_at s v i hlt, HX.out, HY.out] at this
            exact this
          case measure => simp [intOf]; omega
        · have : i = 8 := by omega
          subst this
          have hh : HashAt wr b (s.mix blk) blk n := by
            refine ⟨H.out.1, ?_⟩
            rw [hl.h, St.mix, HV.out]
            rfl
          have hg := hl.g
          have HH := Lib.hid hh
          have HG := Lib.hid hg
          clear hl hh hg
          go_wp2_with fail
          go_end0
          exact ⟨rfl, HH.out, HG.out⟩
end Go.Proofs.YtmdogeampigfoaaDoor
