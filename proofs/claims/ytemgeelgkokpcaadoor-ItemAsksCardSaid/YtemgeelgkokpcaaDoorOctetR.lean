/- The walks of a Reader's calls. -/
import Derived.Test.YtemgeelgkokpcaaDoorOctetRM
import Derived.Test.YtemgeelgkokpcaaDoorOctetP
namespace Go.Proofs.YtemgeelgkokpcaaDoor
open Go.RowKit

/-- a Reader's state: what wasn't read, and its error -/
structure RSt where
  rest : ByteArray
  err : Int
def RsAt (w : World) (p : Option Addr) : Option RSt → Prop
  | none => p = none
  | some st => ∃ b, p = some ⟨b, 0, none⟩ ∧ RdAt w b st.rest st.err
theorem RsAt.grown {w w' : World} {p : Option Addr} {st : Option RSt} (h : RsAt w p st) (hg : w.grownBy w' none) : RsAt w' p st := by
  cases st with
  | none => exact h
  | some st => obtain ⟨b, hp, hw⟩ := h; exact ⟨b, hp, hw.kept hg (by simp)⟩

def RSt.fail (s : RSt) (e : Int) : RSt := if s.err = 0 then ⟨s.rest, e⟩ else s
def RSt.fixed (s : RSt) (k : Int) : ByteArray × RSt :=
  if s.err ≠ 0 then (ByteArray.empty, s) else if k < 0 then (ByteArray.empty, s.fail 4) else if (s.rest.size : Int) < k then (ByteArray.empty, s.fail 3)
  else (s.rest.extract 0 k.toNat, ⟨s.rest.extract k.toNat s.rest.size, s.err⟩)
/-- the number of some bytes -/
def val (l : List UInt8) : Nat := l.foldl (fun n c => 256 * n + c.toNat) 0
def RSt.num (s : RSt) (k : Int) : Nat × RSt := if 1 ≤ k ∧ k ≤ 8 then (val (s.fixed k).1.data.toList, (s.fixed k).2) else (0, s.fail 4)
def RSt.text (s : RSt) : ByteArray × RSt := if 4096 < (s.num 2).1 then (ByteArray.empty, (s.num 2).2.fail 4) else (s.num 2).2.fixed (s.num 2).1
def RSt.done (s : RSt) : Int := if s.err = 0 ∧ s.rest.size ≠ 0 then 2 else s.err

theorem RdAt.failed {w : World} {b : Nat} {s : ByteArray} {x y : Int} (h : RdAt w b s x) : RdAt (w.setCell ⟨b, 1, none⟩ (.int .i64 y)) b s y := by
  have := heap_setCell h 1 (.int .i64 y)
  simpa [RdAt] using this

set_option maxHeartbeats 400000 in
theorem read_any (s : ByteArray) (w : World) :
    Calls Tryd.prog 27 #[.string s] w fun e w' => e = .returned (.pointer (some ⟨w.heap.size, 0, none⟩)) ∧ RdAt w' w.heap.size s 0 ∧ w.grownBy w' none := by
  go_enter Tryd.func27, Tryd.ntmps27
  go_wp2
  go_ret
  exact ⟨rfl, heap_alloc_at _ _ _ rfl, World.grownBy_alloc _ _ _⟩

set_option maxHeartbeats 400000 in
theorem rfail_any (x : Int) (w : World) (p : Option Addr) (st : Option RSt) (h : RsAt w p st) :
    Calls Tryd.prog 57 #[.pointer p, .int .i64 x] w fun e w' => e = .returned (.tuple #[]) ∧ RsAt w' p (st.map (·.fail x)) ∧ w.grownBy w' (prow p) := by
  cases st with
  | none =>
    obtain rfl := h
    go_enter Tryd.func57, Tryd.ntmps57
    go_wp2
    go_end0
    exact ⟨rfl, rfl, World.grownBy.refl _ _⟩
  | some st =>
    obtain ⟨b, rfl, hb⟩ := h
    have c1 := cell_of hb 1
    have f1 := free_of hb 1
    simp at c1
    have HB := Lib.hid hb
    clear hb
    by_cases he : st.err = 0
    · have ht : (st.err == 0) = true := by simpa using he
      rw [he] at c1
      have HE := Lib.hid he
      clear he ht
      go_enter Tryd.func57, Tryd.ntmps57
      go_wp2
      go_end0
      refine ⟨rfl, ⟨b, rfl, ?_⟩, grownBy_setCell (World.grownBy.refl _ _) _ _⟩
      have := HB.out.failed (y := x)
      simpa [RSt.fail, HE.out] using this
    · have ht : (st.err == 0) = false := by simpa using he
      have HE := Lib.hid he
      clear he
      go_enter Tryd.func57, Tryd.ntmps57
      go_wp2
      go_end0
      refine ⟨rfl, ⟨b, rfl, ?_⟩, World.grownBy.refl _ _⟩
      simpa [RSt.fail, HE.out] using HB.out

set_option maxHeartbeats 400000 in
theorem rfixed_any (k : Int) (w : World) (p : Option Addr) (st : Option RSt) (h : RsAt w p st) (hm : ∀ s, st = some s → s.rest.size ≤ maxLen) :
    Calls Tryd.prog 58 #[.pointer p, .int .i64 k] w fun e w' => e = .returned (.string ((st.map fun s => (s.fixed k).1).getD ByteArray.empty)) ∧ RsAt w' p (st.map fun s => (s.fixed k).2) ∧ w.grownBy w' (prow p) := by
  cases st with
  | none =>
    obtain rfl := h
    go_enter Tryd.func58, Tryd.ntmps58
    go_wp2
    go_ret
    exact ⟨rfl, rfl, World.grownBy.refl _ _⟩
  | some st =>
    have H := Lib.hid h
    obtain ⟨b, rfl, hb⟩ := h
    have hmx := hm st rfl
    unfold maxLen at hmx
    have c0 := cell_of hb 0
    have c1 := cell_of hb 1
    have f0 := free_of hb 0
    simp at c0 c1
    have HB := Lib.hid hb
    clear hb hm
    by_cases he : st.err = 0
    · rw [he] at c1
      have HE := Lib.hid he
      clear he
      by_cases hk : k < 0
      · go_enter Tryd.func58, Tryd.ntmps58
        go_wp2_with fail
        refine (rfail_any 4 _ _ (some st) H.out).mono ?_
        rintro e w' ⟨rfl, h1, h2⟩
        have H1 := Lib.hid h1
        have H2 := Lib.hid h2
        clear h1 h2
        go_wp2
        go_ret
        have hx : st.fixed k = (ByteArray.empty, st.fail 4) := by simp [RSt.fixed, HE.out, hk]
        refine ⟨?_, ?_, H2.out⟩
        · simp [hx]; rfl
        · simpa [hx] using H1.out
      · obtain ⟨k, rfl⟩ := Int.eq_ofNat_of_zero_le (show 0 ≤ k by omega)
        by_cases hl : st.rest.size < k
        · go_enter Tryd.func58, Tryd.ntmps58
          go_wp2_with fail
          refine (rfail_any 3 _ _ (some st) H.out).mono ?_
          rintro e w' ⟨rfl, h1, h2⟩
          have H1 := Lib.hid h1
          have H2 := Lib.hid h2
          clear h1 h2
          go_wp2
          go_ret
          have hx : st.fixed k = (ByteArray.empty, st.fail 3) := by simp [RSt.fixed, HE.out, hl]; intro; omega
          refine ⟨?_, ?_, H2.out⟩
          · simp [hx]; rfl
          · simpa [hx] using H1.out
        · go_enter Tryd.func58, Tryd.ntmps58
          go_wp2
          go_ret
          have hx : st.fixed k = (st.rest.extract 0 k, ⟨st.rest.extract k st.rest.size, st.err⟩) := by simp [RSt.fixed, HE.out, hl]; intro; omega
          refine ⟨?_, ?_, grownBy_setCell (World.grownBy.refl _ _) _ _⟩
          · simp [hx]
          · show RsAt _ _ (some (st.fixed k).2)
            rw [hx]
            refine ⟨b, rfl, ?_⟩
            have := heap_setCell HB.out 0 (.string (st.rest.extract k st.rest.size))
            simpa [RdAt] using this
    · have ht : (st.err != 0) = true := by simpa using he
      have HE := Lib.hid he
      clear he
      go_enter Tryd.func58, Tryd.ntmps58
      go_wp2
      go_ret
      have hx : st.fixed k = (ByteArray.empty, st) := by simp [RSt.fixed, HE.out]
      refine ⟨?_, ?_, World.grownBy.refl _ _⟩
      · simp [hx]; rfl
      · simpa [hx] using H.out

theorem val_snoc (l : List UInt8) (c : UInt8) : val (l ++ [c]) = 256 * val l + c.toNat := by simp [val, List.foldl_append]
theorem val_lt_rev (l : List UInt8) : val l.reverse < 256 ^ l.length := by
  induction l with
  | nil => simp [val]
  | cons c l ih =>
    rw [List.reverse_cons, val_snoc, List.length_cons, Nat.pow_succ]
    have := c.toNat_lt
    omega
theorem val_lt (l : List UInt8) : val l < 256 ^ l.length := by
  have := val_lt_rev l.reverse
  simpa using this
theorem take_snoc' (s : ByteArray) (k : Nat) (h : k < s.size) : s.data.toList.take (k + 1) = s.data.toList.take k ++ [s[k]] := by
  rw [List.take_succ_eq_append_getElem (by simpa using h)]; rfl
theorem or_byte (m c : Nat) (hm : m < 72057594037927936) (hc : c < 256) : bits .or .u64 ((m : Int) * 256) (IntKind.u64.wrap (c : Int)) = ((256 * m + c : Nat) : Int) := by
  have h1 : IntKind.u64.wrap (c : Int) = (c : Int) := by simp only [IntKind.wrap, IntKind.bits, IntKind.signed, IntKind.min, IntKind.max]; simp; omega
  have h2 : ((m : Int) * 256) = ((m * 256 : Nat) : Int) := by simp
  rw [h1, h2, u64_or_nat _ _ (by omega) (by omega)]
  congr 1
  have := Nat.two_pow_add_eq_or_of_lt (i := 8) (b := c) (by omega) m
  rw [Nat.mul_comm m 256]
  exact this.symm

theorem fixed_size (st : RSt) (k : Nat) : (st.fixed k).1.size ≤ k := by
  unfold RSt.fixed
  split
  · exact Nat.zero_le _
  split
  · exact Nat.zero_le _
  split
  · exact Nat.zero_le _
  · simp; omega

set_option maxHeartbeats 400000 in
theorem rnum_any (k : Int) (w : World) (p : Option Addr) (st : Option RSt) (h : RsAt w p st) (hm : ∀ s, st = some s → s.rest.size ≤ maxLen) :
    Calls Tryd.prog 45 #[.pointer p, .int .i64 k] w fun e w' => e = .returned (.int .u64 ((st.map fun s => (s.num k).1).getD 0 : Nat)) ∧ RsAt w' p (st.map fun s => (s.num k).2) ∧ w.grownBy w' (prow p) := by
  have H := Lib.hid h
  have HM := Lib.hid hm
  clear h hm
  by_cases hk : 1 ≤ k ∧ k ≤ 8
  · have hb : (decide (1 ≤ (k : Int)) && decide ((k : Int) ≤ 8)) = true := by simp; omega
    obtain ⟨k, rfl⟩ := Int.eq_ofNat_of_zero_le (show 0 ≤ k by omega)
    obtain ⟨x, hx⟩ : ∃ x, x = (st.map fun s => (s.fixed k).1).getD ByteArray.empty := ⟨_, rfl⟩
    have hxs : x.size ≤ k := by
      subst hx
      cases st with
      | none => exact Nat.zero_le _
      | some s => exact fixed_size s k
    have hx8 : x.size ≤ 8 := by omega
    have hn : (st.map fun s => (s.num k).1).getD 0 = val x.data.toList := by
      subst hx
      cases st with
      | none => rfl
      | some s => simp [RSt.num, hk]
    have hs : (fun s : RSt => (s.num k).2) = (fun s => (s.fixed k).2) := by funext s; simp [RSt.num, hk]
    rw [hn, hs]
    have HX := Lib.hid hx
    clear hn hs hx hk hxs
    go_enter Tryd.func45, Tryd.ntmps45
    go_wp2_with fail
    refine (numMayBe_any k _).mono ?_
    rintro e w' ⟨rfl, rfl⟩
    go_wp2_with fail
    refine (rfixed_any k _ p st H.out HM.out).mono ?_
    rintro e w1 ⟨rfl, h1, h2⟩
    rw [← HX.out]
    have H1 := Lib.hid h1
    have H2 := Lib.hid h2
    clear h1 h2
    go_wp2_with fail
    go_loop [6, 7, 18] (fun n _ i => ∃ j : Nat, ∃ m : Nat, j ≤ x.size ∧ i = .int .i64 j ∧ n = .int .u64 m ∧ Hid (m = val (x.data.toList.take j))) (fun _ _ i => x.size - (intOf i).toNat)
    case atStart => exact ⟨0, 0, Nat.zero_le _, rfl, rfl, rfl⟩
    case round =>
      obtain ⟨j, m, hj, rfl, rfl, HV⟩ := hrel
      by_cases hlt : j < x.size
      · have hm : m < 72057594037927936 := by
          have h1 := val_lt (x.data.toList.take j)
          rw [← HV.out] at h1
          have h2 : (x.data.toList.take j).length ≤ 7 := by simp; omega
          exact Nat.lt_of_lt_of_le h1 (Nat.pow_le_pow_right (by omega) h2)
        go_wp2
        go_round
        case rel =>
          refine ⟨j + 1, 256 * m + x[j].toNat, by omega, by go_num, ?_, ?_⟩
          · rw [or_byte m _ hm x[j].toNat_lt]
          · show _ = _
            rw [take_snoc' x j hlt, val_snoc, ← HV.out]
        case measure => simp [intOf]; omega
      · go_wp2
        go_ret
        refine ⟨?_, H1.out, H2.out⟩
        have := HV.out
        rw [List.take_of_length_le (by simp; omega)] at this
        subst this
        rfl
  · have hb : (decide (1 ≤ (k : Int)) && decide ((k : Int) ≤ 8)) = false := by
      rw [Bool.and_eq_false_iff, decide_eq_false_iff_not, decide_eq_false_iff_not]
      omega
    have hn : (st.map fun s => (s.num k).1).getD 0 = 0 := by
      cases st with
      | none => rfl
      | some s => simp [RSt.num, hk]
    have hs : (fun s : RSt => (s.num k).2) = (fun s => s.fail 4) := by funext s; simp [RSt.num, hk]
    rw [hn, hs]
    clear hn hs hk
    go_enter Tryd.func45, Tryd.ntmps45
    go_wp2_with fail
    refine (numMayBe_any k _).mono ?_
    rintro e w' ⟨rfl, rfl⟩
    go_wp2_with fail
    refine (rfail_any 4 _ p st H.out).mono ?_
    rintro e w1 ⟨rfl, h1, h2⟩
    have H1 := Lib.hid h1
    have H2 := Lib.hid h2
    clear h1 h2
    go_wp2
    go_ret
    exact ⟨rfl, H1.out, H2.out⟩

theorem rest_le (s : RSt) (k : Int) : (s.num k).2.rest.size ≤ s.rest.size ∧ (s.fixed k).2.rest.size ≤ s.rest.size := by
  have hf : ∀ e, (s.fail e).rest.size = s.rest.size := by intro e; unfold RSt.fail; split <;> rfl
  have h2 : (s.fixed k).2.rest.size ≤ s.rest.size := by
    unfold RSt.fixed
    split
    · exact Nat.le_refl _
    split
    · simp [hf]
    split
    · simp [hf]
    · simp
  refine ⟨?_, h2⟩
  unfold RSt.num
  split
  · exact h2
  · simp [hf]

end Go.Proofs.YtemgeelgkokpcaaDoor
