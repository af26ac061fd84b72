/- What the walk of the document's Sum keeps. -/
import Derived.Test.YtmdogeampigfoaaDoorShaRefD
import Derived.Test.YtmdogeampigfoaaDoorShaSum
import Derived.Deep.DeepCutAuto
import Derived.Deep.CutBlock
namespace Go.Proofs.YtmdogeampigfoaaDoor
open Go.RowKit

theorem word_rows {w : World} {B n : Nat} {v : Value} {L : List Nat} (h : w.ownsRow B 77 1 v n (u64s L)) (hn : 0 < n) : ∃ g cap cur, v = .slice (some ⟨g, 0, none⟩) n cap ∧ B ≤ g ∧ n ≤ cap ∧ w.heap[g]? = some (.cells cur 77 (0, 0)) ∧ ∀ i, i < n → w.cell? ⟨g, i, none⟩ = some (.int .u64 (L.getD i 0 : Nat)) := by
  have hl := h.1
  rw [u64s_length] at hl
  rcases h.2 with ⟨_, h0⟩ | ⟨g, cap, cur, rfl, hB, hg, hnc, hm, hcs, htake⟩
  · omega
  · refine ⟨g, cap, cur, rfl, hB, hnc, hg, fun i hi => ?_⟩
    rw [cell_of hg]
    have := u64s_at L i (by omega)
    rw [← htake, List.getElem?_take, if_pos (by omega)] at this
    simpa using this

/-- 'string([]byte{c})' -/
theorem one_string (w : World) (c : UInt8) (x : Int) (hx : x = c.toNat) :
    (convert 34 9 (.slice (some ⟨w.heap.size, 0, none⟩) 1 1)).run Tryd.prog (w.alloc (.cells #[.int .u8 x] 5)) = .ok (.string (str [c])) (w.alloc (.cells #[.int .u8 x] 5)) := by
  subst hx
  exact row_string (w := w.alloc (.cells #[.int .u8 c.toNat] 5)) (g := w.heap.size) (l := [c]) (t := 5) (heap_alloc_at _ _ _ rfl) 1
/-- what the walk over the blocks keeps: the roots, the state -/
structure RW (w wr : World) (bk bh : Nat) (L : List Nat) : Prop where
  g : w.grownBy wr none
  k : ∀ i, i < 64 → wr.cell? ⟨bk, i, none⟩ = some (.int .u64 (rootsL.getD i 0 : Nat))
  c : ∃ cur, wr.heap[bh]? = some (.cells cur 77 (0, 0))
  h : ∀ i, i < 8 → wr.cell? ⟨bh, i, none⟩ = some (.int .u64 (L.getD i 0 : Nat))
theorem RW.kept {w wr wq : World} {bk bh : Nat} {L : List Nat} (h : RW w wr bk bh L) (hg : wr.grownBy wq none) : RW w wq bk bh L := by
  refine ⟨grownBy_trans h.g hg, fun i hi => hg.cell (h.k i hi) (by simp), ?_, fun i hi => hg.cell (h.h i hi) (by simp)⟩
  obtain ⟨cur, hc⟩ := h.c
  exact ⟨cur, by rw [hg.block bh (Array.getElem?_eq_some_iff.1 hc).1 (by simp)]; exact hc⟩
theorem RW.free {w wr : World} {bk bh : Nat} {L : List Nat} (h : RW w wr bk bh L) (i : Nat) : wr.frozen? ⟨bh, i, none⟩ = false := by
  obtain ⟨cur, hc⟩ := h.c
  exact free_of hc i
theorem RW.put {w wr : World} {bk bh : Nat} {L : List Nat} (h : RW w wr bk bh L) (hb : w.heap.size ≤ bh) (hkh : bk ≠ bh) (hL : L.length = 8) (i x : Nat) (hi : i < 8) : RW w (wr.setCell ⟨bh, i, none⟩ (.int .u64 x)) bk bh (L.set i x) := by
  obtain ⟨cur, hc⟩ := h.c
  have hs := heap_setCell hc i (.int .u64 x)
  refine ⟨grownBy_setNew h.g hb _ _, fun j hj => ?_, ⟨_, hs⟩, fun j hj => ?_⟩
  · rw [← h.k j hj]
    unfold World.cell?
    simp only [heap_setCell_ne _ _ _ _ (Ne.symm hkh)]
  · rw [cell_of hs]
    have := h.h j hj
    rw [cell_of hc] at this
    have hz : j < cur.size := (Array.getElem?_eq_some_iff.1 this).1
    by_cases e : i = j
    · subst e
      rw [Array.getElem?_setIfInBounds_self_of_lt hz, List.getD_eq_getElem?_getD, List.getElem?_set_self (by omega)]
      rfl
    · rw [Array.getElem?_setIfInBounds_ne e, this, List.getD_eq_getElem?_getD, List.getD_eq_getElem?_getD, List.getElem?_set_ne e]
theorem RW.drewN {w wr : World} {bk bh : Nat} {L : List Nat} (h : RW w wr bk bh L) (n : Nat) : RW w (wr.drewN n) bk bh L := ⟨grownBy_drewN h.g n, h.k, h.c, h.h⟩

theorem RW.side {w wr : World} {bk bh : Nat} {L : List Nat} (h : RW w wr bk bh L) {A : Nat} (hA : w.heap.size ≤ A ∧ bk ≠ A ∧ bh ≠ A) (i : Nat) (v : Value) : RW w (wr.setCell ⟨A, i, none⟩ v) bk bh L := by
  obtain ⟨h0, h1, h2⟩ := hA
  refine ⟨grownBy_setNew h.g h0 _ _, fun j hj => ?_, ?_, fun j hj => ?_⟩
  · rw [← h.k j hj]
    unfold World.cell?
    simp only [heap_setCell_ne _ _ _ _ (Ne.symm h1)]
  · obtain ⟨cur, hc⟩ := h.c
    exact ⟨cur, by rw [heap_setCell_ne _ _ _ _ (Ne.symm h2)]; exact hc⟩
  · rw [← h.h j hj]
    unfold World.cell?
    simp only [heap_setCell_ne _ _ _ _ (Ne.symm h2)]
/-- .. and the words' block -/
structure BW (w wr : World) (bk bh A : Nat) (L X : List Nat) : Prop where
  r : RW w wr bk bh L
  x : RowAt wr A X
  a : w.heap.size ≤ A ∧ bk ≠ A ∧ bh ≠ A
theorem BW.put {w wr : World} {bk bh A : Nat} {L X : List Nat} (h : BW w wr bk bh A L X) (i x : Nat) : BW w (wr.setCell ⟨A, i, none⟩ (.int .u64 x)) bk bh A L (X.set i x) :=
  ⟨h.r.side h.a i _, h.x.put i x, h.a⟩
theorem BW.kept {w wr wq : World} {bk bh A : Nat} {L X : List Nat} (h : BW w wr bk bh A L X) (hg : wr.grownBy wq none) : BW w wq bk bh A L X :=
  ⟨h.r.kept hg, h.x.kept hg (by simp), h.a⟩
theorem BW.drew {w wr : World} {bk bh A : Nat} {L X : List Nat} (h : BW w wr bk bh A L X) : BW w wr.drew bk bh A L X := ⟨⟨grownBy_drew h.r.g, h.r.k, h.r.c, h.r.h⟩, h.x, h.a⟩
theorem BW.drewN {w wr : World} {bk bh A : Nat} {L X : List Nat} (h : BW w wr bk bh A L X) (n : Nat) : BW w (wr.drewN n) bk bh A L X := ⟨h.r.drewN n, h.x.drewN n, h.a⟩
theorem wordsZ_length (blk : List UInt8) (k : Nat) (h : k ≤ 64) : (wordsZ blk k).length = 64 := by simp [wordsZ, words_length]; omega
/-- a byte of the block at hand -/
theorem block_byte (u : ByteArray) (l : List UInt8) (at' i : Nat) (hu : u.data.toList = l) (h : at' + i < u.size) (hi : i < 64) : (u[at' + i]'h).toNat = (((l.drop at').take 64).getD i 0).toNat := by
  subst hu
  rw [List.getD_eq_getElem?_getD, List.getElem?_take, if_pos hi, List.getElem?_drop]
  have h2 : at' + i < u.data.toList.length := by simpa using h
  rw [List.getElem?_eq_getElem h2]
  rfl

/-- a call in a region that reads only, behind other such regions -/
theorem quiet_add {P : Program} {f : FuncId} {args : Array Value} {w : World} {a n : Nat} {v : Value}
    (h : Calls P f args (w.drewN (a + n)) fun e w' => e = .returned v ∧ ∃ m, w' = (w.drewN (a + n)).drewN m) :
    Calls P f args (w.drewN (a + n)) fun e w'' => e = .returned v ∧ ∃ m, w'' = w.drewN (a + m) :=
  h.mono fun _ _ ⟨he, m, hm⟩ => ⟨he, n + m, by rw [hm, World.drewN_drewN, Nat.add_assoc]⟩
theorem turn_c (x : Nat) (c : Int) (hx : x < 4294967296) (hc : 0 ≤ c ∧ c ≤ 32) (w : World) :
    Calls Tryd.prog 54 #[.int .u64 x, .int .u64 c] w fun e w' => e = .returned (.int .u64 (rotr c.toNat x : Nat)) ∧ ∃ k, w' = w.drewN k := by
  obtain ⟨n, rfl⟩ : ∃ n : Nat, c = n := ⟨c.toNat, by omega⟩
  exact turn_any x n hx (by omega) w
theorem shift_c (x : Nat) (c : Int) (hx : x < 4294967296) (hc : 0 ≤ c ∧ c ≤ 32) (w : World) :
    Calls Tryd.prog 52 #[.int .u64 x, .int .i64 c] w fun e w' => e = .returned (.int .u64 (x / 2 ^ c.toNat : Nat)) ∧ w' = w := by
  obtain ⟨n, rfl⟩ : ∃ n : Nat, c = n := ⟨c.toNat, by omega⟩
  exact (shift_any x n (by omega) (by omega) w).mono fun _ _ h => ⟨h.1, h.2.symm⟩
theorem lt64 {a : Nat} (h : a < 4294967296) : a < 18446744073709551616 := by omega
theorem shr_64 {a b x n m : Nat} (ha : a < 4294967296) (hb : b < 4294967296) (hx : x < 4294967296) (hm : 2 ^ n = m) : bits .xor .u64 (bits .xor .u64 (a : Int) b) ((x : Int) / (m : Nat)) = ((a ^^^ b ^^^ x / 2 ^ n : Nat) : Int) := by
  have h3 : (x : Int) / (m : Nat) = ((x / 2 ^ n : Nat) : Int) := by rw [hm]; simp
  rw [h3, u64_xor_nat _ _ (lt64 ha) (lt64 hb), u64_xor_nat _ _ (lt64 (xor_lt ha hb)) (lt64 (div_lt32 hx))]
theorem xor3_64 {a b c : Nat} (ha : a < 4294967296) (hb : b < 4294967296) (hc : c < 4294967296) : bits .xor .u64 (bits .xor .u64 (a : Int) b) c = ((a ^^^ b ^^^ c : Nat) : Int) := by
  rw [u64_xor_nat _ _ (lt64 ha) (lt64 hb), u64_xor_nat _ _ (lt64 (xor_lt ha hb)) (lt64 hc)]

/-- the text of some words -/
def outTo (L : List Nat) (i : Nat) : List UInt8 := (L.take i).flatMap fun x => be x 4
theorem outTo_succ (st : St) (i : Nat) (h : i < 8) : outTo st.list (i + 1) = outTo st.list i ++ be (st.list.getD i 0) 4 := by
  have e : st.list.take (i + 1) = st.list.take i ++ [st.list.getD i 0] := by
    rw [List.take_succ_eq_append_getElem (by exact h), List.getD_eq_getElem?_getD, List.getElem?_eq_getElem (by exact h)]
    rfl
  rw [outTo, outTo, e, List.flatMap_append]
  simp
theorem half_at (s t : St) (i : Nat) (h : i < 8) : ((s.add t).list.take i ++ s.list.drop i).getD i 0 = s.list.getD i 0 := by
  obtain rfl | rfl | rfl | rfl | rfl | rfl | rfl | rfl : i = 0 ∨ i = 1 ∨ i = 2 ∨ i = 3 ∨ i = 4 ∨ i = 5 ∨ i = 6 ∨ i = 7 := by omega
  all_goals rfl
theorem half_succ (s t : St) (i : Nat) (h : i < 8) : ((s.add t).list.take i ++ s.list.drop i).set i ((s.list.getD i 0 + t.list.getD i 0) % 4294967296) = (s.add t).list.take (i + 1) ++ s.list.drop (i + 1) := by
  obtain rfl | rfl | rfl | rfl | rfl | rfl | rfl | rfl : i = 0 ∨ i = 1 ∨ i = 2 ∨ i = 3 ∨ i = 4 ∨ i = 5 ∨ i = 6 ∨ i = 7 := by omega
  all_goals rfl
theorem list_ok' {s : St} (h : s.ok) : ∀ x ∈ s.list, x < 4294967296 := by
  obtain ⟨ha, hb, hc, hd, he, hf, hg, hh⟩ := h
  intro x hx
  simp only [St.list, List.mem_cons, List.not_mem_nil, or_false] at hx
  rcases hx with rfl | rfl | rfl | rfl | rfl | rfl | rfl | rfl <;> assumption
theorem blocks_ok (l : List UInt8) (n : Nat) : (blocksTo start l n).ok := by
  cases n with
  | zero => exact start_ok
  | succ n => exact mix_ok _ _

/-- the text so far, as the document pads it -/
def padTo (l : List UInt8) (k : Nat) : List UInt8 := l ++ 128 :: List.replicate k 0

/-- the loops of a piece of code, the outer ones first -/
def loopsIn : Code → List Code
  | .loop c => c :: loopsIn c
  | .seq a b => loopsIn a ++ loopsIn b
  | .block _ c => loopsIn c
  | .scope c => loopsIn c
  | .cond _ a b => loopsIn a ++ loopsIn b
  | _ => []
/-- the body of a function's loop -/
noncomputable def loopBody (f : Func) (n : Nat) : Code := ((f.body.map loopsIn).getD []).getD n .skip
end Go.Proofs.YtmdogeampigfoaaDoor
