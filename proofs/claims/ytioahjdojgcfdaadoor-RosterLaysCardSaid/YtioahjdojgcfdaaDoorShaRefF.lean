/- The walks of the document's shift, turn, times, above. · The walks of the document's above, root, roots. · The walk of the document's above, at a cube. · The walks of the document's root, roots. · What the walk of the document's Sum keeps. -/
import Derived.Test.YtioahjdojgcfdaaDoorRosterLaysB7
import Derived.Test.YtioahjdojgcfdaaDoorShaCalls
import Derived.Test.YtioahjdojgcfdaaDoorRosterLaysB1
import Derived.OwnWalk
import Derived.Deep.MidRow
import Derived.BigQuiet
import Derived.StillTailTactics
import Derived.IntWalk
import Derived.Deep.DeepCutAuto
import Derived.Deep.CutBlock
namespace Go.Proofs.YtioahjdojgcfdaaDoor
open Go.RowKit

set_option maxHeartbeats 400000 in
theorem shift_any (x n : Nat) (hx : x ≤ 18446744073709551615) (hn : n ≤ 1000000) (w : World) :
    Calls Tryd.prog 91 #[.int .u64 x, .int .i64 n] w fun e w' => e = .returned (.int .u64 (x / 2 ^ n : Nat)) ∧ w = w' := by
  go_enter Tryd.func91, Tryd.ntmps91
  go_wp2
  go_loop [0, 5] (fun a i => ∃ k : Nat, k ≤ n ∧ i = .int .i64 k ∧ a = .int .u64 (x / 2 ^ k : Nat)) (fun _ i => n - (intOf i).toNat)
  case atStart => exact ⟨0, by omega, rfl, by simp⟩
  case round =>
    obtain ⟨k, hk, rfl, rfl⟩ := hrel
    have hb : x / 2 ^ k ≤ 18446744073709551615 := Nat.le_trans (Nat.div_le_self _ _) hx
    have hs : x / 2 ^ (k + 1) = x / 2 ^ k / 2 := by rw [Nat.pow_succ, Nat.div_div_eq_div_mul]
    have HS := Lib.hid hs
    clear hs
    by_cases hlt : k < n
    · generalize x / 2 ^ k = y at hb HS ⊢
      go_wp2
      go_round
      case rel =>
        refine ⟨k + 1, by omega, by go_num, ?_⟩
        rw [HS.out]
        simp
      case measure => simp [intOf]; omega
    · have : k = n := by omega
      subst this
      clear HS
      go_wp2
      go_ret
      exact ⟨ret_int (by simp), rfl⟩

set_option maxHeartbeats 400000 in
theorem turn_any (x n : Nat) (hx : x < 4294967296) (hn : n ≤ 32) (w : World) :
    Calls Tryd.prog 92 #[.int .u64 x, .int .u64 n] w fun e w' => e = .returned (.int .u64 (rotr n x : Nat)) ∧ ∃ k, w' = w.drewN k := by
  go_enter Tryd.func92, Tryd.ntmps92
  go_wp2
  go_loop [5, 6] (fun p i => ∃ k : Nat, k ≤ n ∧ i = .int .u64 k ∧ p = .int .u64 (2 ^ k : Nat)) (fun _ i => n - (intOf i).toNat)
  case atStart => exact ⟨0, by omega, rfl, rfl⟩
  case round =>
    obtain ⟨k, hk, rfl, rfl⟩ := hrel
    have hb : 2 ^ k ≤ 4294967296 := by
      have : 2 ^ k ≤ 2 ^ 32 := Nat.pow_le_pow_right (by decide) (by omega)
      simpa using this
    have h0 : 0 < 2 ^ k := Nat.two_pow_pos k
    by_cases hlt : k < n
    · have HS : Hid (2 ^ (k + 1) = 2 ^ k * 2) := Nat.pow_succ 2 k
      generalize 2 ^ k = y at hb h0 HS ⊢
      go_wp2
      go_round
      case rel =>
        refine ⟨k + 1, by omega, by go_num, ?_⟩
        rw [HS.out]
        simp
      case measure => simp [intOf]; omega
    · have : k = n := by omega
      subst this
      have hq : 4294967296 / 2 ^ k = 2 ^ (32 - k) := by
        have : (4294967296 : Nat) = 2 ^ k * 2 ^ (32 - k) := by rw [← Nat.pow_add]; rw [show k + (32 - k) = 32 from by omega]
        rw [this, Nat.mul_div_cancel_left _ h0]
      have hr := rotr_lt (n := k) (by omega) hx
      have hrr : x / 2 ^ k + x % 2 ^ k * 2 ^ (32 - k) = rotr k x := rfl
      obtain ⟨r, hre⟩ : ∃ r, rotr k x = r := ⟨_, rfl⟩
      rw [hre] at hr hrr
      have HRE := Lib.hid hre
      clear hre
      generalize 2 ^ k = p at hb h0 hq hrr ⊢
      have hvx := Nat.div_le_self x p
      generalize 2 ^ (32 - k) = q at hq hrr
      have hq2 : (4294967296 : Int) / (p : Int) = (q : Int) := by rw [← hq]; simp
      have hq3 : (4294967296 : Int).tdiv (p : Int) = (q : Int) := by rw [Int.tdiv_eq_ediv_of_nonneg (by omega)]; exact hq2
      have hm2 : (x : Int).tmod p = ((x % p : Nat) : Int) := by rw [Int.tmod_eq_emod_of_nonneg (by omega)]; simp
      have hd2 : (x : Int).tdiv p = ((x / p : Nat) : Int) := by rw [Int.tdiv_eq_ediv_of_nonneg (by omega)]; simp
      have hp0 : ((p : Int) == 0) = false := by rw [beq_eq_false_iff_ne]; omega
      obtain ⟨u, hu⟩ : ∃ u, u = x % p := ⟨_, rfl⟩
      obtain ⟨v, hv⟩ : ∃ v, v = x / p := ⟨_, rfl⟩
      rw [← hu] at hm2 hrr
      rw [← hv] at hd2 hrr
      obtain ⟨m, hm⟩ : ∃ m, u * q = m := ⟨_, rfl⟩
      have hm3 : (u : Int) * (q : Int) = (m : Int) := by rw [← hm]; simp
      rw [hm] at hrr
      have hwm : IntKind.u64.wrap (m : Int) = (m : Int) := wrap_u64 _ (by omega)
      have hwr : IntKind.u64.wrap ((v : Int) + (m : Int)) = (r : Int) := by
        rw [show (v : Int) + (m : Int) = (r : Int) from by omega]
        exact wrap_u64 _ (by omega)
      have hq4 : q ≤ 4294967296 := by rw [← hq]; exact Nat.div_le_self _ _
      have HRR := Lib.hid hrr
      clear hm hrr hu hq hq2
      go_wp2
      go_quiet (fail)
      go_wp2
      go_ret
      refine ⟨ret_int ?_, _, rfl⟩
      rw [show (x : Int) / p = (v : Int) from by rw [hv]; simp, hwr, HRE.out]

def u64s (l : List Nat) : List Value := l.map fun n : Nat => Value.int .u64 (n : Int)
theorem u64s_length (l : List Nat) : (u64s l).length = l.length := by simp [u64s]
theorem u64s_at (l : List Nat) (i : Nat) (h : i < l.length) : (u64s l)[i]? = some (.int .u64 (l.getD i 0 : Nat)) := by
  simp [u64s, List.getElem?_eq_getElem h, List.getD_eq_getElem?_getD]
theorem u64s_set (l : List Nat) (i x : Nat) : u64s (l.set i x) = (u64s l).set i (.int .u64 x) := by simp [u64s, List.map_set]
/-- a slice that holds these numbers -/
def NumsAt (w : World) (v : Value) (L : List Nat) : Prop := ∃ g o cap, v = .slice (some ⟨g, o, none⟩) L.length cap ∧ ∀ i, i < L.length → w.cell? ⟨g, o + i, none⟩ = some (.int .u64 (L.getD i 0 : Nat))
theorem NumsAt.kept {w w' : World} {v : Value} {L : List Nat} (h : NumsAt w v L) (hg : w.grownBy w' none) : NumsAt w' v L := by
  obtain ⟨g, o, cap, rfl, hc⟩ := h
  exact ⟨g, o, cap, rfl, fun i hi => hg.cell (hc i hi) (by simp)⟩
/-- a block that holds just these numbers -/
def RowAt (w : World) (g : Nat) (L : List Nat) : Prop := w.heap[g]? = some (.cells (u64s L).toArray 32 (0, 0))
theorem RowAt.cell {w : World} {g : Nat} {L : List Nat} (h : RowAt w g L) (i : Nat) (hi : i < L.length) : w.cell? ⟨g, i, none⟩ = some (.int .u64 (L.getD i 0 : Nat)) := by
  rw [cell_of h, List.getElem?_toArray, u64s_at _ _ hi]
theorem RowAt.nums {w : World} {g : Nat} {L : List Nat} (h : RowAt w g L) (cap : Nat) : NumsAt w (.slice (some ⟨g, 0, none⟩) L.length cap) L :=
  ⟨g, 0, cap, rfl, fun i hi => by rw [Nat.zero_add]; exact h.cell i hi⟩
theorem RowAt.put {w : World} {g : Nat} {L : List Nat} (h : RowAt w g L) (i x : Nat) : RowAt (w.setCell ⟨g, i, none⟩ (.int .u64 x)) g (L.set i x) := by
  unfold RowAt
  rw [heap_setCell h, List.setIfInBounds_toArray, ← u64s_set]
theorem RowAt.kept {w w' : World} {row : Option Nat} {g : Nat} {L : List Nat} (h : RowAt w g L) (hg : w.grownBy w' row) (hr : row ≠ some g) : RowAt w' g L := by
  unfold RowAt
  rw [hg.block g (Array.getElem?_eq_some_iff.1 h).1 (fun e => hr e.symm)]
  exact h
theorem RowAt.drewN {w : World} {g : Nat} {L : List Nat} (h : RowAt w g L) (n : Nat) : RowAt (w.drewN n) g L := h
theorem row_of_own {w : World} {B g n : Nat} {L : List Nat} (h : w.ownsRow B 32 1 (.slice (some ⟨g, 0, none⟩) n n) n (u64s L)) : RowAt w g L := by
  rcases h.2 with ⟨h', _⟩ | ⟨g', cap', cur, h', _, hg, _, _, hcs, htake⟩
  · simp at h'
  · simp only [Value.slice.injEq, Option.some.injEq, Addr.mk.injEq, and_true, true_and] at h'
    obtain ⟨rfl, rfl⟩ := h'
    unfold RowAt
    rw [hg, ← htake, List.take_of_length_le (by simp [hcs])]
theorem infoU64 : (Tryd.prog.info? 32).map (fun i => (i.zero, i.size, i.bytes)) = some (some (.int .u64 0), 1, 8) := by kernel_rfl
theorem made_u64 (n : Nat) : (madeCells #[Value.int .u64 0] n).toList = u64s (List.replicate n 0) := by
  apply List.ext_getElem?
  intro i
  simp [madeCells, u64s, List.getElem?_replicate]
  by_cases h : i < n <;> simp [h, Nat.mod_one]

set_option maxRecDepth 100000 in
set_option maxHeartbeats 1600000 in
theorem times_any (w : World) (va vb : Value) (A B : List Nat) (ha : NumsAt w va A) (hb : NumsAt w vb B) (da : Dig A) (db : Dig B) (la : A.length ≤ 100) (lb : B.length ≤ 100) :
    Calls Tryd.prog 161 #[va, vb] w fun e w' => e = .returned (.slice (some ⟨w.heap.size, 0, none⟩) (A.length + B.length) (A.length + B.length)) ∧ RowAt w' w.heap.size (timesL A B) ∧ w.grownBy w' none := by
  obtain ⟨ga, oa, ca, rfl, hca⟩ := ha
  obtain ⟨gb, ob, cb, rfl, hcb⟩ := hb
  obtain ⟨i0, hi, hz0, hz1, hz2⟩ := info_parts infoU64
  have HA := Lib.hid hca
  have HB := Lib.hid hcb
  clear hca hcb
  go_enter Tryd.func161, Tryd.ntmps161
  go_wp2_with (at_make; refine wpList_make_full _ rfl _ _ 145 rfl w.heap.size 32 i0 (.int .u64 0) 1 Tryd.underlying145 hi hz0 hz1 _ _ _ _ (A.length + B.length) rfl rfl rfl rfl ?c1 ?c2 ?c3 ?_)
  case c1 => rw [hz2]; omega
  case c2 => unfold maxLen; omega
  case c3 => omega
  intro w1 hown hg
  rw [made_u64] at hown
  have HR := Lib.hid (row_of_own hown)
  have HG := Lib.hid (grownBy_below ((Below.refl _ _).grown hg (Nat.le_refl _) (by intro k h; cases h)))
  clear hown hg
  go_wp2_with fail
  go_loopw [6] (fun iv wr => ∃ i : Nat, i ≤ A.length ∧ iv = .int .i64 i ∧ Hid (RowAt wr w.heap.size (tOut A B i)) ∧ Hid (w.grownBy wr none)) (fun iv _ => A.length - (intOf iv).toNat)
  case atStart => exact ⟨0, Nat.zero_le _, rfl, HR.out, HG.out⟩
  case round =>
    clear HR HG
    obtain ⟨i, hi, rfl, HR, HG⟩ := hrel
    by_cases hlt : i < A.length
    · have ok := outOk da db i (by omega)
      have HO := Lib.hid ok
      have hd1 := ok.len
      have hd2 := ok.dig
      have hin := fun k hk => inOk (i := i) (da i) db hd2 (by omega) k hk
      have HIN := Lib.hid hin
      have hai := da i
      have ca := HG.out.cell (HA.out i hlt) (by simp)
      have hdec : decide ((i : Int) < (A.length : Int)) = true := by simp; omega
      clear hin ok hd2
      have b1 : (0 : Int) ≤ (i : Int) := by omega
      have b2 : (i : Int) < (A.length : Int) := by omega
      go_wp2_with fail
      go_loopw [7, 8] (fun cv kv wr => ∃ k : Nat, k ≤ B.length ∧ kv = .int .i64 k ∧ cv = .int .u64 (tIn (A.getD i 0) i B (tOut A B i) k).2 ∧ Hid (RowAt wr w.heap.size (tIn (A.getD i 0) i B (tOut A B i) k).1) ∧ Hid (w.grownBy wr none)) (fun _ kv _ => B.length - (intOf kv).toNat)
      case atStart => exact ⟨0, Nat.zero_le _, rfl, rfl, HR.out, HG.out⟩
      case round =>
        clear HR HG ca
        obtain ⟨k, hk, rfl, rfl, HR, HG⟩ := hrel
        have ok := HIN.out k hk
        obtain ⟨k1, k2, k3, k4, -⟩ := ok
        by_cases hkl : k < B.length
        · have ca := HG.out.cell (HA.out i hlt) (by simp)
          have cb := HG.out.cell (HB.out k hkl) (by simp)
          have co := HR.out.cell (i + k) (by omega)
          have fo := free_of HR.out (i + k)
          have hbk := db k
          have hdk := k2 (i + k)
          have htt := t_lt hdk hai hbk k3
          obtain ⟨O, hO⟩ : ∃ O, (tIn (A.getD i 0) i B (tOut A B i) k).1 = O := ⟨_, rfl⟩
          obtain ⟨c, hc⟩ : ∃ c, (tIn (A.getD i 0) i B (tOut A B i) k).2 = c := ⟨_, rfl⟩
          obtain ⟨d, hd⟩ : ∃ d, O.getD (i + k) 0 = d := ⟨_, rfl⟩
          obtain ⟨bk, hbk2⟩ : ∃ bk, B.getD k 0 = bk := ⟨_, rfl⟩
          obtain ⟨ai, hai2⟩ : ∃ ai, A.getD i 0 = ai := ⟨_, rfl⟩
          have hs1 : (tIn (A.getD i 0) i B (tOut A B i) (k + 1)) = (O.set (i + k) ((d + ai * bk + c) % 65536), (d + ai * bk + c) / 65536) := by
            rw [tIn, hO, hc, hd, hbk2, hai2]
          have HS1 := Lib.hid hs1
          rw [hO] at co hdk htt HR
          rw [hd] at co hdk htt
          rw [hc] at htt k3
          rw [hbk2] at cb htt hbk
          rw [hai2] at ca htt
          rw [hc]
          obtain ⟨m, hm⟩ : ∃ m, ai * bk = m := ⟨_, rfl⟩
          have hm3 : (ai : Int) * (bk : Int) = (m : Int) := by rw [← hm]; simp
          rw [hm] at htt
          have HM := Lib.hid hm
          clear hO hc hd hbk2 hai2 hs1 k1 k2 k4 hm
          have e1 : IntKind.u64.wrap (m : Int) = (m : Int) := wrap_u64 _ (by omega)
          have e2 : IntKind.u64.wrap ((d : Int) + m) = (d : Int) + m := by
            rw [show (d : Int) + m = ((d + m : Nat) : Int) from by simp]; exact wrap_u64 _ (by omega)
          have e3 : IntKind.u64.wrap ((d : Int) + m + c) = (d : Int) + m + c := by
            rw [show (d : Int) + m + c = ((d + m + c : Nat) : Int) from by simp]; exact wrap_u64 _ (by omega)
          have e4 : IntKind.i64.wrap ((i : Int) + k) = (i : Int) + k := IntWalk.i64_in _ (by omega)
          have e5 : ((i : Int) + k).toNat = i + k := by omega
          have b3 : (0 : Int) ≤ (i : Int) + k := by omega
          have b4 : (i : Int) + k < (A.length : Int) + B.length := by omega
          have b5 : (k : Int) < (B.length : Int) := by omega
          have b6 : (0 : Int) ≤ (k : Int) := by omega
          go_wp2_with fail
          go_quiet (fail)
          go_wp2_with fail
          go_roundw
          case rel =>
            have hs := HS1.out
            rw [HM.out] at hs
            refine ⟨k + 1, by omega, by go_num, val_int ?_, ?_, ?_⟩
            · rw [hs]; simp
            · show RowAt _ _ _
              rw [hs]
              have := (HR.out.drewN nq).put (i + k) ((d + m + c) % 65536)
              simpa using this
            · exact grownBy_setNew (grownBy_drewN HG.out _) (Nat.le_refl _) _ _
          case measure => simp [intOf]; omega
        · have : k = B.length := by omega
          subst this
          have co := HR.out.cell (i + B.length) (by omega)
          have fo := free_of HR.out (i + B.length)
          have hsx : tOut A B (i + 1) = (tIn (A.getD i 0) i B (tOut A B i) B.length).1.set (i + B.length) ((tIn (A.getD i 0) i B (tOut A B i) B.length).1.getD (i + B.length) 0 + (tIn (A.getD i 0) i B (tOut A B i) B.length).2) := rfl
          have hdx := k2 (i + B.length)
          obtain ⟨O, hO⟩ : ∃ O, (tIn (A.getD i 0) i B (tOut A B i) B.length).1 = O := ⟨_, rfl⟩
          obtain ⟨c, hc⟩ : ∃ c, (tIn (A.getD i 0) i B (tOut A B i) B.length).2 = c := ⟨_, rfl⟩
          obtain ⟨d, hd⟩ : ∃ d, O.getD (i + B.length) 0 = d := ⟨_, rfl⟩
          rw [hO, hc, hd] at hsx
          rw [hO] at co HR hdx
          rw [hd] at co hdx
          rw [hc] at k3
          rw [hc]
          have HSX := Lib.hid hsx
          clear hsx hO hc hd k1 k2 k4
          have b3 : (0 : Int) ≤ (i : Int) + B.length := by omega
          have b4 : (i : Int) + B.length < (A.length : Int) + B.length := by omega
          have e5 : ((i : Int) + B.length).toNat = i + B.length := by omega
          go_wp2_with fail
          go_roundw
          case rel =>
            refine ⟨i + 1, by omega, by go_num, ?_, grownBy_setNew HG.out (Nat.le_refl _) _ _⟩
            show RowAt _ _ _
            rw [HSX.out]
            have := HR.out.put (i + B.length) (d + c)
            simpa using this
          case measure => simp [intOf]; omega
    · have : i = A.length := by omega
      subst this
      go_wp2_with fail
      go_ret
      exact ⟨rfl, HR.out, HG.out⟩
end Go.Proofs.YtioahjdojgcfdaaDoor

namespace Go.Proofs.YtioahjdojgcfdaaDoor
open Go.RowKit

theorem size_alloc (w : World) (o : Obj) : (w.alloc o).heap.size = w.heap.size + 1 := by simp
theorem V_drop_le (m : List Nat) (i : Nat) : V (m.drop i) * 65536 ^ i ≤ V m := by
  have := V_take_drop m i
  rw [Nat.mul_comm] at this
  omega
theorem drop_small {m : List Nat} {i n v : Nat} (hi : n ≤ i) (hv : V m < v * 65536 ^ n) : V (m.drop i) < v := by
  have h1 := V_drop_le m i
  have h2 : 65536 ^ n ≤ 65536 ^ i := Nat.pow_le_pow_right (by decide) hi
  have h3 : V (m.drop i) * 65536 ^ n ≤ V (m.drop i) * 65536 ^ i := Nat.mul_le_mul_left _ h2
  have h4 : V (m.drop i) * 65536 ^ n < v * 65536 ^ n := by omega
  exact Nat.lt_of_mul_lt_mul_right h4
/-- the whole part and the rest, from a place on -/
def wholeAt (m : List Nat) (n k : Nat) : Nat := V (m.drop (max k n))
def restAt (m : List Nat) (n k : Nat) : Bool := decide (V ((m.take n).drop k) ≠ 0)
theorem whole0 (m : List Nat) (n : Nat) : wholeAt m n 0 = V (m.drop n) := by rw [wholeAt, Nat.max_eq_right (Nat.zero_le n)]
theorem rest0 (m : List Nat) (n : Nat) : restAt m n 0 = decide (V (m.take n) ≠ 0) := by rw [restAt, List.drop_zero]
theorem above_sq_is (y p : Nat) : aboveP y p false = decide (p * 65536 ^ 4 < y * y) := by simp only [aboveP, Bool.false_eq_true, ↓reduceIte]
theorem above_cube_is (y p : Nat) : aboveP y p true = decide (p * 65536 ^ 6 < y * y * y) := by simp only [aboveP, ↓reduceIte]
theorem step_hi {m : List Nat} {n k : Nat} (h : n ≤ k) (hk : k < m.length) : wholeAt m n k = wholeAt m n (k + 1) * 65536 + m.getD k 0 ∧ restAt m n k = restAt m n (k + 1) := by
  refine ⟨?_, ?_⟩
  · rw [wholeAt, wholeAt, Nat.max_eq_left h, Nat.max_eq_left (by omega), V_drop m k hk]
    omega
  · rw [restAt, restAt, List.drop_of_length_le (by simp; omega), List.drop_of_length_le (by simp; omega)]
theorem step_lo {m : List Nat} {n k : Nat} (h : k < n) (hn : n ≤ m.length) : wholeAt m n k = wholeAt m n (k + 1) ∧ restAt m n k = (decide (0 < m.getD k 0) || restAt m n (k + 1)) := by
  refine ⟨?_, ?_⟩
  · rw [wholeAt, wholeAt, Nat.max_eq_right (by omega), Nat.max_eq_right (by omega)]
  · have hl : k < (m.take n).length := by simp; omega
    rw [restAt, restAt, V_drop _ k hl, Bool.eq_iff_iff]
    have e : (m.take n).getD k 0 = m.getD k 0 := by
      rw [List.getD_eq_getElem?_getD, List.getElem?_take, if_pos h, ← List.getD_eq_getElem?_getD]
    rw [e]
    simp
    omega

set_option maxRecDepth 100000 in
set_option maxHeartbeats 1600000 in
theorem above_sq (w : World) (y p : Nat) (hy : y < 274877906944) (hp : p ≤ 4294967296) :
    Calls Tryd.prog 137 #[.int .u64 y, .int .u64 p, .bool false] w fun e w' => e = .returned (.bool (aboveP y p false)) ∧ w.grownBy w' none := by
  have hd := pieces_dig y (by omega)
  have hVp := V_pieces y
  have HRow : Hid (RowAt (w.alloc (.cells #[.int .u64 ((y : Int) % 65536), .int .u64 ((y : Int) / 65536 % 65536), .int .u64 ((y : Int) / 4294967296)] 32)) w.heap.size (pieces y)) := by
    show _ = _
    rw [heap_alloc_at _ _ _ rfl]
    simp [pieces, u64s]
  have h3 : (pieces y).length = 3 := rfl
  obtain ⟨P, hP⟩ : ∃ P, pieces y = P := ⟨_, rfl⟩
  rw [hP] at hd hVp HRow h3
  clear hP
  have HY := Lib.hid hy
  have hV := V_times hd hd
  have hdm := timesL_dig hd hd
  have hlm : (timesL P P).length = 6 := by rw [timesL_length hd hd, h3]
  rw [hVp] at hV
  have hsplit := above_split _ hdm 4 p (by omega)
  rw [hV] at hsplit
  have hbd : ∀ i, 4 ≤ i → V ((timesL P P).drop i) < 1048576 := fun i hi => drop_small hi (by
    rw [hV]
    have hyy : y * y < 274877906944 * 274877906944 := Nat.mul_lt_mul'' HY.out HY.out
    omega)
  clear hV hVp
  go_enter Tryd.func137, Tryd.ntmps137
  go_wp2_with fail
  have hnums := HRow.out.nums 3
  rw [h3] at hnums
  refine (times_any _ _ _ P P hnums hnums hd hd (by omega) (by omega)).mono ?_
  rintro e w2 ⟨rfl, hr, hg⟩
  rw [size_alloc] at hr
  rw [h3]
  replace hg := grownBy_trans (World.grownBy_alloc _ _ _) hg
  generalize timesL P P = M at *
  have hlen : M.length = 6 := hlm
  have hdig : ∀ i, M.getD i 0 < 65536 := hdm
  have HV := Lib.hid (And.intro hbd (And.intro hsplit hdig))
  have HRW := Lib.hid hr
  have HG := Lib.hid hg
  clear hbd hsplit hdig hr hg hdm hlm
  go_wp2_with fail
  go_loop [10, 11, 12] (fun av rv iv => ∃ k : Nat, k ≤ 6 ∧ iv = .int .i64 ((k : Int) - 1) ∧ av = .int .u64 (wholeAt M 4 k : Nat) ∧ rv = .bool (restAt M 4 k)) (fun _ _ iv => (intOf iv + 1).toNat)
  case atStart =>
    refine ⟨6, by omega, rfl, ?_, ?_⟩
    · rw [wholeAt, List.drop_of_length_le (by omega)]; rfl
    · rw [restAt, List.drop_of_length_le (by simp; omega)]; rfl
  case round =>
    obtain ⟨k, hk, rfl, rfl, rfl⟩ := hrel
    by_cases hk0 : k = 0
    · subst hk0
      have hfin := HV.out.2.1
      have hwb : wholeAt M 4 0 < 1048576 := by
        rw [wholeAt]
        exact HV.out.1 _ (by omega)
      have hA : (decide (p < wholeAt M 4 0) || (decide (wholeAt M 4 0 = p) && restAt M 4 0)) = aboveP y p false := by rw [whole0, rest0, hfin, above_sq_is]
      have HA := Lib.hid hA
      clear hA hfin
      generalize wholeAt M 4 0 = a at hwb HA
      generalize restAt M 4 0 = r at HA
      rw [show (((0 : Nat) : Int) - 1) = -1 from rfl]
      by_cases h1 : p < a
      · have e : aboveP y p false = true := by rw [← HA.out]; simp [h1]
        have E := Lib.hid e
        clear e
        go_wp2_with fail
        go_ret
        exact ⟨by rw [E.out]; rfl, HG.out⟩
      · by_cases h2 : a = p
        · subst h2
          have e : aboveP y a false = r := by rw [← HA.out]; simp
          have E := Lib.hid e
          clear e h1
          have h3 : ((a : Int) == (a : Int)) = true := by simp
          go_wp2_with fail
          go_ret
          exact ⟨by rw [E.out]; rfl, HG.out⟩
        · have e : aboveP y p false = false := by rw [← HA.out]; simp [h1, h2]
          have E := Lib.hid e
          clear e
          have h3 : ((a : Int) == (p : Int)) = false := by rw [beq_eq_false_iff_ne]; omega
          go_wp2_with fail
          go_ret
          exact ⟨by rw [E.out]; rfl, HG.out⟩
    · obtain ⟨j, rfl⟩ : ∃ j, k = j + 1 := ⟨k - 1, by omega⟩
      have c := HRW.out.cell j (by omega)
      have hdj := HV.out.2.2 j
      have hjj : ((j + 1 : Nat) : Int) - 1 = (j : Int) := by omega
      rw [hjj]
      by_cases hjn : 4 ≤ j
      · have hs := step_hi (m := M) hjn (by omega)
        have hwb : wholeAt M 4 (j + 1) < 1048576 := by
          rw [wholeAt]
          exact HV.out.1 _ (by omega)
        obtain ⟨d, hd⟩ : ∃ d, M.getD j 0 = d := ⟨_, rfl⟩
        rw [hd] at c hs hdj
        obtain ⟨a, ha⟩ : ∃ a, wholeAt M 4 (j + 1) = a := ⟨_, rfl⟩
        rw [ha] at hs hwb
        have HS := Lib.hid hs
        clear hs hd
        rw [ha]
        clear ha
        have b1 : (j : Int) < 6 := by omega
        go_wp2_with fail
        go_round
        case rel =>
          refine ⟨j, by omega, rfl, ?_, ?_⟩
          · rw [HS.out.1]; simp
          · rw [HS.out.2]
        case measure => simp [intOf] <;> omega
      · have hs := step_lo (m := M) (show j < 4 by omega) (by omega)
        obtain ⟨d, hd⟩ : ∃ d, M.getD j 0 = d := ⟨_, rfl⟩
        rw [hd] at c hs hdj
        have HS := Lib.hid hs
        clear hs hd
        have b1 : (j : Int) < 6 := by omega
        by_cases hd0 : 0 < d
        · have hd2 : decide ((0 : Int) < (d : Int)) = true := by simp; omega
          go_wp2_with fail
          go_round
          case rel =>
            refine ⟨j, by omega, rfl, ?_, ?_⟩
            · rw [HS.out.1]
            · rw [HS.out.2]; simp [hd0]
          case measure => simp [intOf] <;> omega
        · have hd2 : decide ((0 : Int) < (d : Int)) = false := by simp; omega
          go_wp2_with fail
          go_round
          case rel =>
            refine ⟨j, by omega, rfl, ?_, ?_⟩
            · rw [HS.out.1]
            · rw [HS.out.2]; simp [hd0]
          case measure => simp [intOf] <;> omega

end Go.Proofs.YtioahjdojgcfdaaDoor

namespace Go.Proofs.YtioahjdojgcfdaaDoor
open Go.RowKit

set_option maxRecDepth 100000 in
set_option maxHeartbeats 1600000 in
theorem above_cube (w : World) (y p : Nat) (hy : y < 274877906944) (hp : p ≤ 4294967296) :
    Calls Tryd.prog 137 #[.int .u64 y, .int .u64 p, .bool true] w fun e w' => e = .returned (.bool (aboveP y p true)) ∧ w.grownBy w' none := by
  have hd := pieces_dig y (by omega)
  have hVp := V_pieces y
  have HRow : Hid (RowAt (w.alloc (.cells #[.int .u64 ((y : Int) % 65536), .int .u64 ((y : Int) / 65536 % 65536), .int .u64 ((y : Int) / 4294967296)] 32)) w.heap.size (pieces y)) := by
    show _ = _
    rw [heap_alloc_at _ _ _ rfl]
    simp [pieces, u64s]
  have h3 : (pieces y).length = 3 := rfl
  obtain ⟨P, hP⟩ : ∃ P, pieces y = P := ⟨_, rfl⟩
  rw [hP] at hd hVp HRow h3
  clear hP
  have HY := Lib.hid hy
  have hV := V_times hd hd
  have hdm1 := timesL_dig hd hd
  have hlm1 : (timesL P P).length = 6 := by rw [timesL_length hd hd, h3]
  have hV2 := V_times hdm1 hd
  have hdm := timesL_dig hdm1 hd
  have hlm : (timesL (timesL P P) P).length = 9 := by rw [timesL_length hdm1 hd, hlm1, h3]
  rw [hVp] at hV
  rw [hV, hVp] at hV2
  have hsplit := above_split _ hdm 6 p (by omega)
  rw [hV2] at hsplit
  have hbd : ∀ i, 6 ≤ i → V ((timesL (timesL P P) P).drop i) < 1048576 := fun i hi => drop_small hi (by
    rw [hV2]
    have hyy : y * y < 274877906944 * 274877906944 := Nat.mul_lt_mul'' HY.out HY.out
    have hyyy : y * y * y < 274877906944 * 274877906944 * 274877906944 := Nat.mul_lt_mul'' hyy HY.out
    omega)
  clear hV hV2 hVp
  go_enter Tryd.func137, Tryd.ntmps137
  go_wp2_with fail
  have hnums := HRow.out.nums 3
  rw [h3] at hnums
  refine (times_any _ _ _ P P hnums hnums hd hd (by omega) (by omega)).mono ?_
  rintro e w1 ⟨rfl, hr1, hg1⟩
  rw [size_alloc] at hr1
  rw [h3]
  have HN1 := Lib.hid (hr1.nums 6)
  have HNA := Lib.hid (hnums.kept hg1)
  have HG1 := Lib.hid (grownBy_trans (World.grownBy_alloc _ _ _) hg1)
  clear hr1 hg1 hnums
  go_wp2_with fail
  have hn1 := HN1.out
  have hna := HNA.out
  rw [hlm1] at hn1
  refine (times_any _ _ _ (timesL P P) P hn1 hna hdm1 hd (by omega) (by omega)).mono ?_
  rintro e w2 ⟨rfl, hr, hg⟩
  rw [hlm1, h3]
  replace hg := grownBy_trans HG1.out hg
  clear hn1 hna HN1 HNA HG1 hdm1
  generalize timesL (timesL P P) P = M at *
  have hlen : M.length = 9 := hlm
  have hdig : ∀ i, M.getD i 0 < 65536 := hdm
  have HV := Lib.hid (And.intro hbd (And.intro hsplit hdig))
  have HRW := Lib.hid hr
  have HG := Lib.hid hg
  clear hbd hsplit hdig hr hg hdm hlm
  go_wp2_with fail
  go_loop [10, 11, 12] (fun av rv iv => ∃ k : Nat, k ≤ 9 ∧ iv = .int .i64 ((k : Int) - 1) ∧ av = .int .u64 (wholeAt M 6 k : Nat) ∧ rv = .bool (restAt M 6 k)) (fun _ _ iv => (intOf iv + 1).toNat)
  case atStart =>
    refine ⟨9, by omega, rfl, ?_, ?_⟩
    · rw [wholeAt, List.drop_of_length_le (by omega)]; rfl
    · rw [restAt, List.drop_of_length_le (by simp; omega)]; rfl
  case round =>
    obtain ⟨k, hk, rfl, rfl, rfl⟩ := hrel
    by_cases hk0 : k = 0
    · subst hk0
      have hfin := HV.out.2.1
      have hwb : wholeAt M 6 0 < 1048576 := by
        rw [wholeAt]
        exact HV.out.1 _ (by omega)
      have hA : (decide (p < wholeAt M 6 0) || (decide (wholeAt M 6 0 = p) && restAt M 6 0)) = aboveP y p true := by rw [whole0, rest0, hfin, above_cube_is]
      have HA := Lib.hid hA
      clear hA hfin
      generalize wholeAt M 6 0 = a at hwb HA
      generalize restAt M 6 0 = r at HA
      rw [show (((0 : Nat) : Int) - 1) = -1 from rfl]
      by_cases h1 : p < a
      · have e : aboveP y p true = true := by rw [← HA.out]; simp [h1]
        have E := Lib.hid e
        clear e
        go_wp2_with fail
        go_ret
        exact ⟨by rw [E.out]; rfl, HG.out⟩
      · by_cases h2 : a = p
        · subst h2
          have e : aboveP y a true = r := by rw [← HA.out]; simp
          have E := Lib.hid e
          clear e h1
          have h3 : ((a : Int) == (a : Int)) = true := by simp
          go_wp2_with fail
          go_ret
          exact ⟨by rw [E.out]; rfl, HG.out⟩
        · have e : aboveP y p true = false := by rw [← HA.out]; simp [h1, h2]
          have E := Lib.hid e
          clear e
          have h3 : ((a : Int) == (p : Int)) = false := by rw [beq_eq_false_iff_ne]; omega
          go_wp2_with fail
          go_ret
          exact ⟨by rw [E.out]; rfl, HG.out⟩
    · obtain ⟨j, rfl⟩ : ∃ j, k = j + 1 := ⟨k - 1, by omega⟩
      have c := HRW.out.cell j (by omega)
      have hdj := HV.out.2.2 j
      have hjj : ((j + 1 : Nat) : Int) - 1 = (j : Int) := by omega
      rw [hjj]
      by_cases hjn : 6 ≤ j
      · have hs := step_hi (m := M) hjn (by omega)
        have hwb : wholeAt M 6 (j + 1) < 1048576 := by
          rw [wholeAt]
          exact HV.out.1 _ (by omega)
        obtain ⟨d, hd⟩ : ∃ d, M.getD j 0 = d := ⟨_, rfl⟩
        rw [hd] at c hs hdj
        obtain ⟨a, ha⟩ : ∃ a, wholeAt M 6 (j + 1) = a := ⟨_, rfl⟩
        rw [ha] at hs hwb
        have HS := Lib.hid hs
        clear hs hd
        rw [ha]
        clear ha
        have b1 : (j : Int) < 9 := by omega
        go_wp2_with fail
        go_round
        case rel =>
          refine ⟨j, by omega, rfl, ?_, ?_⟩
          · rw [HS.out.1]; simp
          · rw [HS.out.2]
        case measure => simp [intOf] <;> omega
      · have hs := step_lo (m := M) (show j < 6 by omega) (by omega)
        obtain ⟨d, hd⟩ : ∃ d, M.getD j 0 = d := ⟨_, rfl⟩
        rw [hd] at c hs hdj
        have HS := Lib.hid hs
        clear hs hd
        have b1 : (j : Int) < 9 := by omega
        by_cases hd0 : 0 < d
        · have hd2 : decide ((0 : Int) < (d : Int)) = true := by simp; omega
          go_wp2_with fail
          go_round
          case rel =>
            refine ⟨j, by omega, rfl, ?_, ?_⟩
            · rw [HS.out.1]
            · rw [HS.out.2]; simp [hd0]
          case measure => simp [intOf] <;> omega
        · have hd2 : decide ((0 : Int) < (d : Int)) = false := by simp; omega
          go_wp2_with fail
          go_round
          case rel =>
            refine ⟨j, by omega, rfl, ?_, ?_⟩
            · rw [HS.out.1]
            · rw [HS.out.2]; simp [hd0]
          case measure => simp [intOf] <;> omega

theorem above_any (w : World) (y p : Nat) (cube : Bool) (hy : y < 274877906944) (hp : p ≤ 4294967296) :
    Calls Tryd.prog 137 #[.int .u64 y, .int .u64 p, .bool cube] w fun e w' => e = .returned (.bool (aboveP y p cube)) ∧ w.grownBy w' none := by
  cases cube
  · exact above_sq w y p hy hp
  · exact above_cube w y p hy hp
end Go.Proofs.YtioahjdojgcfdaaDoor

namespace Go.Proofs.YtioahjdojgcfdaaDoor
open Go.RowKit

theorem bit_next (j : Nat) : 68719476736 / 2 ^ (j + 1) = 68719476736 / 2 ^ j / 2 := by rw [Nat.pow_succ, Nat.div_div_eq_div_mul]
theorem bit_pos (j : Nat) (h : j < 37) : 0 < 68719476736 / 2 ^ j := by
  refine Nat.div_pos ?_ (Nat.two_pow_pos j)
  have : 2 ^ j ≤ 2 ^ 36 := Nat.pow_le_pow_right (by decide) (by omega)
  simpa using this
theorem bit_le (j : Nat) : 68719476736 / 2 ^ j ≤ 68719476736 := Nat.div_le_self _ _
theorem bit_twice (j : Nat) (h : j < 37) : 137438953472 / 2 ^ j = 2 * (68719476736 / 2 ^ j) := by
  obtain ⟨r, hr⟩ : ∃ r, 36 = j + r := ⟨36 - j, by omega⟩
  have e1 : (68719476736 : Nat) = 2 ^ j * 2 ^ r := by rw [← Nat.pow_add, ← hr]
  have e2 : (137438953472 : Nat) = 2 ^ j * (2 * 2 ^ r) := by rw [Nat.mul_left_comm, ← e1]
  rw [e2, Nat.mul_div_cancel_left _ (Nat.two_pow_pos j), e1, Nat.mul_div_cancel_left _ (Nat.two_pow_pos j)]

set_option maxRecDepth 100000 in
set_option maxHeartbeats 800000 in
theorem root_any (w : World) (p : Nat) (cube : Bool) (hp : p ≤ 4294967296) :
    Calls Tryd.prog 119 #[.int .u64 p, .bool cube] w fun e w' => e = .returned (.int .u64 (rootR p cube : Nat)) ∧ w.grownBy w' none := by
  go_enter Tryd.func119, Tryd.ntmps119
  go_wp2_with fail
  go_loopw [5, 6] (fun xv bv wr => ∃ j : Nat, j ≤ 37 ∧ xv = .int .u64 (rootTo p cube j : Nat) ∧ bv = .int .u64 (68719476736 / 2 ^ j : Nat) ∧ Hid (w.grownBy wr none)) (fun _ bv _ => (intOf bv).toNat)
  case atStart => exact ⟨0, by omega, rfl, rfl, World.grownBy.refl _ _⟩
  case round =>
    obtain ⟨j, hj, rfl, rfl, HG⟩ := hrel
    have hlt := rootTo_lt p cube j hj
    by_cases hjl : j < 37
    · have hb0 := bit_pos j hjl
      have hb1 := bit_le j
      rw [bit_twice j hjl] at hlt
      have hn := bit_next j
      have hs : rootTo p cube (j + 1) = if aboveP (rootTo p cube j + 68719476736 / 2 ^ j) p cube then rootTo p cube j else rootTo p cube j + 68719476736 / 2 ^ j := rfl
      obtain ⟨x, hx⟩ : ∃ x, rootTo p cube j = x := ⟨_, rfl⟩
      obtain ⟨b, hb⟩ : ∃ b, 68719476736 / 2 ^ j = b := ⟨_, rfl⟩
      rw [hx, hb] at hs hlt
      rw [hb] at hb0 hb1 hn
      rw [hx, hb]
      have HS := Lib.hid (And.intro hs hn)
      clear hs hn hx hb
      go_wp2_with fail
      rw [show (x : Int) + (b : Int) = ((x + b : Nat) : Int) from by simp]
      refine (above_any _ (x + b) p cube (by omega) hp).mono ?_
      rintro e w1 ⟨rfl, g1⟩
      have HG1 := Lib.hid (grownBy_trans HG.out g1)
      clear g1
      have hab := HS.out.1
      generalize aboveP (x + b) p cube = t at hab ⊢
      have HAB := Lib.hid hab
      clear hab
      cases t
      all_goals
        go_wp2_with fail
        go_roundw
      · case rel =>
          refine ⟨j + 1, by omega, ?_, ?_, HG1.out⟩
          · rw [HAB.out]; rfl
          · rw [HS.out.2]; simp
      · case measure => simp [intOf] <;> omega
      · case rel =>
          refine ⟨j + 1, by omega, ?_, ?_, HG1.out⟩
          · rw [HAB.out]; rfl
          · rw [HS.out.2]; simp
      · case measure => simp [intOf] <;> omega
    · have : j = 37 := by omega
      subst this
      have hr : rootR p cube = rootTo p cube 37 % 4294967296 := rfl
      rw [show 68719476736 / 2 ^ 37 = 0 from by decide] 
      have hlt2 : rootTo p cube 37 ≤ 137438953472 := by omega
      clear hlt
      generalize rootTo p cube 37 = x at hr hlt2 ⊢
      have HRR := Lib.hid hr
      clear hr
      go_wp2_with fail
      go_ret
      refine ⟨ret_int ?_, HG.out⟩
      rw [HRR.out]
      simp

/-- the primes' roots -/
def rootsTo (q : Nat) (cube : Bool) : List Nat := (primesTo q).map (rootR · cube)
theorem rootsTo_length (q : Nat) (cube : Bool) : (rootsTo q cube).length = (primesTo q).length := by simp [rootsTo]
theorem rootsTo_succ (q : Nat) (cube : Bool) (h : 2 ≤ q) : rootsTo (q + 1) cube = rootsTo q cube ++ if isP q then [rootR q cube] else [] := by
  rw [rootsTo, rootsTo, primesTo_succ q h, List.map_append]
  congr 1
  split <;> rfl
theorem slice_of_own {w : World} {B n : Nat} {t : TypeId} {v : Value} {xs : List Value} (h : w.ownsRow B t 1 v n xs) : ∃ a cap, v = .slice a n cap := by
  rcases h.2 with ⟨rfl, rfl⟩ | ⟨g, cap, cur, rfl, _⟩
  · exact ⟨_, _, rfl⟩
  · exact ⟨_, _, rfl⟩
theorem u64_kept {w w' : World} {B n : Nat} {v : Value} {xs : List Value} (h : w.ownsRow B 32 1 v n xs) (hg : w.grownBy w' none) : w'.ownsRow B 32 1 v n xs := by
  refine ⟨h.1, ?_⟩
  rcases h.2 with h' | ⟨g, cap, cur, rfl, a, hgg, r⟩
  · exact .inl h'
  · refine .inr ⟨g, cap, cur, rfl, a, ?_, r⟩
    rw [hg.block g (Array.getElem?_eq_some_iff.1 hgg).1 (by simp)]
    exact hgg

set_option maxRecDepth 100000 in
set_option maxHeartbeats 1600000 in
theorem roots_any (w : World) (count : Nat) (cube : Bool) (E : Nat) (hE : E ≤ 1000) (hE2 : 2 ≤ E) (hc : (primesTo E).length = count) (hb : (primesTo (E - 1)).length < count) :
    Calls Tryd.prog 90 #[.int .i64 count, .bool cube] w fun e w' => ∃ v, e = .returned v ∧ w'.ownsRow w.heap.size 32 1 v count (u64s (rootsTo E cube)) ∧ w.grownBy w' none := by
  obtain ⟨i0, hi, hz0, hz1, hz2⟩ := info_parts infoU64
  have HC := Lib.hid (And.intro hc hb)
  have hcl : count ≤ 1000 := by
    rw [← hc]
    unfold primesTo
    exact Nat.le_trans (List.length_filter_le _ _) (by simp; omega)
  clear hc hb
  go_enter Tryd.func90, Tryd.ntmps90
  go_wp2_with fail
  go_loopw [5, 6] (fun ov pv wr => ∃ q : Nat, ∃ a cap, 2 ≤ q ∧ q ≤ E ∧ pv = .int .u64 q ∧ ov = .slice a (primesTo q).length cap ∧ Hid (wr.ownsRow w.heap.size 32 1 (.slice a (primesTo q).length cap) (primesTo q).length (u64s (rootsTo q cube))) ∧ Hid (w.grownBy wr none)) (fun _ pv _ => E - (intOf pv).toNat)
  case atStart => exact ⟨2, none, 0, by omega, by omega, rfl, rfl, ⟨by rw [u64s_length, rootsTo_length]; rfl, .inl ⟨rfl, rfl⟩⟩, World.grownBy.refl _ _⟩
  case round =>
    obtain ⟨q, a, cap, hq2, hqE, rfl, rfl, HO, HG⟩ := hrel
    by_cases hlt : (primesTo q).length < count
    · have hqe : q ≠ E := by
        intro e
        subst e
        have := HC.out.1
        omega
      obtain ⟨n, hn⟩ : ∃ n, (primesTo q).length = n := ⟨_, rfl⟩
      rw [hn] at hlt HO
      rw [hn]
      have HN := Lib.hid hn
      clear hn
      have hdec : decide ((n : Int) < (count : Int)) = true := by simp; omega
      go_wp2_with fail
      go_loop [7, 8] (fun tv dv => ∃ d : Nat, 2 ≤ d ∧ d ≤ q + 1 ∧ dv = .int .u64 d ∧ tv = .bool (noDiv q d) ∧ Hid (∀ k, k < d → 2 ≤ k → k * k ≤ q)) (fun _ dv => q + 1 - (intOf dv).toNat)
      case atStart => exact ⟨2, by omega, by omega, rfl, by rfl, fun k h1 h2 => by omega⟩
      case round =>
        obtain ⟨d, hd2, hdq, rfl, rfl, HD⟩ := hrel
        have hm0 : d * d ≤ 1100000 := by
          have : d * d ≤ 1001 * 1001 := Nat.mul_le_mul (by omega) (by omega)
          omega
        have hself := Nat.le_mul_self d
        obtain ⟨m, hm⟩ : ∃ m, d * d = m := ⟨_, rfl⟩
        have hm3 : (d : Int) * (d : Int) = (m : Int) := by rw [← hm]; simp
        rw [hm] at hm0
        have HM := Lib.hid (And.intro hm hself)
        clear hm hself
        have hd0 : ((d : Int) == 0) = false := by rw [beq_eq_false_iff_ne]; omega
        by_cases hmq : m ≤ q
        · have hns := noDiv_succ q d hd2
          have hdd : d ≤ q := by have := HM.out; omega
          obtain ⟨t, ht⟩ : ∃ t : Bool, ((q : Int) % (d : Int) == 0) = t := ⟨_, rfl⟩
          have hqd : (q % d != 0) = !t := by
            rw [← ht]
            have : (q : Int) % (d : Int) = ((q % d : Nat) : Int) := by simp
            rw [this]
            generalize q % d = r
            rw [Bool.eq_iff_iff, bne_iff_ne, Bool.not_eq_true', beq_eq_false_iff_ne]
            omega
          rw [hqd] at hns
          have HNS := Lib.hid hns
          clear hns hqd
          cases t
          all_goals
            go_wp2_with fail
            go_round
          · case rel =>
              refine ⟨d + 1, by omega, by omega, by go_num, ?_, fun k h1 h2 => ?_⟩
              · rw [HNS.out]; simp
              · by_cases e : k = d
                · subst e; have := HM.out.1; omega
                · exact HD.out k (by omega) h2
          · case measure => simp [intOf]; omega
          · case rel =>
              refine ⟨d + 1, by omega, by omega, by go_num, ?_, fun k h1 h2 => ?_⟩
              · rw [HNS.out]; simp
              · by_cases e : k = d
                · subst e; have := HM.out.1; omega
                · exact HD.out k (by omega) h2
          · case measure => simp [intOf]; omega
        · have hpp := noDiv_isP q d (by have := HM.out.1; omega) HD.out
          have hrs := rootsTo_succ q cube hq2
          have hps := primesTo_succ q hq2
          rw [hpp]
          have hlen : (primesTo (q + 1)).length = n + if isP q then 1 else 0 := by
            rw [hps, List.length_append, HN.out]
            split <;> rfl
          generalize isP q = t at hrs hlen ⊢
          have HRS := Lib.hid (And.intro hrs hlen)
          clear hrs hps hpp hlen
          cases t
          · go_wp2_with fail
            go_roundw
            case rel =>
              have h1 := HRS.out.1
              have h2 := HRS.out.2
              simp at h1 h2
              refine ⟨q + 1, a, cap, by omega, by omega, by go_num, by rw [h2], ?_, HG.out⟩
              show World.ownsRow _ _ _ _ _ _ _
              rw [h1, h2]
              exact HO.out
            case measure => simp [intOf]; omega
          · go_wp2_with fail
            refine (root_any _ q cube (by omega)).mono ?_
            rintro e w2 ⟨rfl, g2⟩
            have hO2 := u64_kept HO.out g2
            have HG2 := Lib.hid (grownBy_trans HG.out g2)
            have hsz := HG2.out.size
            clear g2
            go_wp2_with (at_builtin; refine wpList_append_own _ rfl _ _ 145 rfl w.heap.size 32 i0 (.int .u64 0) 1 8 Tryd.underlying145 hi hz0 hz1 hz2 rfl (by decide) _ _ _ rfl (hO2.alloc _) ⟨w2.heap.size, 0, none⟩ 1 1 [.int .u64 (rootR q cube : Nat)] rfl rfl ?q1 ?q2 ?q3 ?q4 ?q5 ?_)
            case q1 =>
              intro j u hj
              match j, hj with
              | 0, hj => simp at hj; subst hj; simp [Addr.add]
            case q2 => intro u hu; simp at hu; subst hu; rfl
            case q3 => unfold maxLen; omega
            case q4 => omega
            case q5 => simp; omega
            intro v' w3 hown' hg3 _
            have HG3 : Hid (w.grownBy w3 none) := grownBy_below (((below_grownBy HG2.out).alloc hsz _).grown hg3 (by simp; omega) (fun k hk => (hO2.lt k hk).1))
            obtain ⟨a', cap', rfl⟩ := slice_of_own hown'
            have HO3 := Lib.hid hown'
            clear hown' hg3 hO2
            go_wp2_with fail
            go_roundw
            case rel =>
              have h1 := HRS.out.1
              have h2 := HRS.out.2
              simp at h1 h2
              refine ⟨q + 1, a', cap', by omega, by omega, by go_num, by rw [h2], ?_, HG3.out⟩
              show World.ownsRow _ _ _ _ _ _ _
              rw [h1, h2]
              have := HO3.out
              simpa [u64s] using this
            case measure => simp [intOf]; omega
    · have hqq : q = E := by
        rcases Nat.lt_or_ge q E with h | h
        · have h1 := primesTo_mono q (E - 1) (by omega)
          have h2 := HC.out.2
          omega
        · omega
      subst hqq
      have hn := HC.out.1
      rw [hn] at HO
      rw [hn]
      go_wp2_with fail
      go_ret
      exact ⟨_, rfl, HO.out, HG.out⟩
end Go.Proofs.YtioahjdojgcfdaaDoor

namespace Go.Proofs.YtioahjdojgcfdaaDoor
open Go.RowKit

theorem word_rows {w : World} {B n : Nat} {v : Value} {L : List Nat} (h : w.ownsRow B 32 1 v n (u64s L)) (hn : 0 < n) : ∃ g cap cur, v = .slice (some ⟨g, 0, none⟩) n cap ∧ B ≤ g ∧ n ≤ cap ∧ w.heap[g]? = some (.cells cur 32 (0, 0)) ∧ ∀ i, i < n → w.cell? ⟨g, i, none⟩ = some (.int .u64 (L.getD i 0 : Nat)) := by
  have hl := h.1
  rw [u64s_length] at hl
  rcases h.2 with ⟨_, h0⟩ | ⟨g, cap, cur, rfl, hB, hg, hnc, hm, hcs, htake⟩
  · omega
  · refine ⟨g, cap, cur, rfl, hB, hnc, hg, fun i hi => ?_⟩
    rw [cell_of hg]
    have := u64s_at L i (by omega)
    rw [← htake, List.getElem?_take, if_pos (by omega)] at this
    simpa using this

/-- 'string([]byte{c})' -/
theorem one_string (w : World) (c : UInt8) (x : Int) (hx : x = c.toNat) :
    (convert 57 9 (.slice (some ⟨w.heap.size, 0, none⟩) 1 1)).run Tryd.prog (w.alloc (.cells #[.int .u8 x] 5)) = .ok (.string (str [c])) (w.alloc (.cells #[.int .u8 x] 5)) := by
  subst hx
  exact row_string (w := w.alloc (.cells #[.int .u8 c.toNat] 5)) (g := w.heap.size) (l := [c]) (t := 5) (heap_alloc_at _ _ _ rfl) 1
/-- what the walk over the blocks keeps: the roots, the state -/
structure RW (w wr : World) (bk bh : Nat) (L : List Nat) : Prop where
  g : w.grownBy wr none
  k : ∀ i, i < 64 → wr.cell? ⟨bk, i, none⟩ = some (.int .u64 (rootsL.getD i 0 : Nat))
  c : ∃ cur, wr.heap[bh]? = some (.cells cur 32 (0, 0))
  h : ∀ i, i < 8 → wr.cell? ⟨bh, i, none⟩ = some (.int .u64 (L.getD i 0 : Nat))
theorem RW.kept {w wr wq : World} {bk bh : Nat} {L : List Nat} (h : RW w wr bk bh L) (hg : wr.grownBy wq none) : RW w wq bk bh L := by
  refine ⟨grownBy_trans h.g hg, fun i hi => hg.cell (h.k i hi) (by simp), ?_, fun i hi => hg.cell (h.h i hi) (by simp)⟩
  obtain ⟨cur, hc⟩ := h.c
  exact ⟨cur, by rw [hg.block bh (Array.getElem?_eq_some_iff.1 hc).1 (by simp)]; exact hc⟩
theorem RW.free {w wr : World} {bk bh : Nat} {L : List Nat} (h : RW w wr bk bh L) (i : Nat) : wr.frozen? ⟨bh, i, none⟩ = false := by
  obtain ⟨cur, hc⟩ := h.c
  exact free_of hc i
theorem RW.put {w wr : World} {bk bh : Nat} {L : List Nat} (h : RW w wr bk bh L) (hb : w.heap.size ≤ bh) (hkh : bk ≠ bh) (hL : L.length = 8) (i x : Nat) (hi : i < 8) : RW w (wr.setCell ⟨bh, i, none⟩ (.int .u64 x)) bk bh (L.set i x) := by
  obtain ⟨cur, hc⟩ := h.c
  have hs := heap_setCell hc i (.int .u64 x)
  refine ⟨grownBy_setNew h.g hb _ _, fun j hj => ?_, ⟨_, hs⟩, fun j hj => ?_⟩
  · rw [← h.k j hj]
    unfold World.cell?
    simp only [heap_setCell_ne _ _ _ _ (Ne.symm hkh)]
  · rw [cell_of hs]
    have := h.h j hj
    rw [cell_of hc] at this
    have hz : j < cur.size := (Array.getElem?_eq_some_iff.1 this).1
    by_cases e : i = j
    · subst e
      rw [Array.getElem?_setIfInBounds_self_of_lt hz, List.getD_eq_getElem?_getD, List.getElem?_set_self (by omega)]
      rfl
    · rw [Array.getElem?_setIfInBounds_ne e, this, List.getD_eq_getElem?_getD, List.getD_eq_getElem?_getD, List.getElem?_set_ne e]
theorem RW.drewN {w wr : World} {bk bh : Nat} {L : List Nat} (h : RW w wr bk bh L) (n : Nat) : RW w (wr.drewN n) bk bh L := ⟨grownBy_drewN h.g n, h.k, h.c, h.h⟩

theorem RW.side {w wr : World} {bk bh : Nat} {L : List Nat} (h : RW w wr bk bh L) {A : Nat} (hA : w.heap.size ≤ A ∧ bk ≠ A ∧ bh ≠ A) (i : Nat) (v : Value) : RW w (wr.setCell ⟨A, i, none⟩ v) bk bh L := by
  obtain ⟨h0, h1, h2⟩ := hA
  refine ⟨grownBy_setNew h.g h0 _ _, fun j hj => ?_, ?_, fun j hj => ?_⟩
  · rw [← h.k j hj]
    unfold World.cell?
    simp only [heap_setCell_ne _ _ _ _ (Ne.symm h1)]
  · obtain ⟨cur, hc⟩ := h.c
    exact ⟨cur, by rw [heap_setCell_ne _ _ _ _ (Ne.symm h2)]; exact hc⟩
  · rw [← h.h j hj]
    unfold World.cell?
    simp only [heap_setCell_ne _ _ _ _ (Ne.symm h2)]
/-- .. and the words' block -/
structure BW (w wr : World) (bk bh A : Nat) (L X : List Nat) : Prop where
  r : RW w wr bk bh L
  x : RowAt wr A X
  a : w.heap.size ≤ A ∧ bk ≠ A ∧ bh ≠ A
theorem BW.put {w wr : World} {bk bh A : Nat} {L X : List Nat} (h : BW w wr bk bh A L X) (i x : Nat) : BW w (wr.setCell ⟨A, i, none⟩ (.int .u64 x)) bk bh A L (X.set i x) :=
  ⟨h.r.side h.a i _, h.x.put i x, h.a⟩
theorem BW.kept {w wr wq : World} {bk bh A : Nat} {L X : List Nat} (h : BW w wr bk bh A L X) (hg : wr.grownBy wq none) : BW w wq bk bh A L X :=
  ⟨h.r.kept hg, h.x.kept hg (by simp), h.a⟩
theorem BW.drew {w wr : World} {bk bh A : Nat} {L X : List Nat} (h : BW w wr bk bh A L X) : BW w wr.drew bk bh A L X := ⟨⟨grownBy_drew h.r.g, h.r.k, h.r.c, h.r.h⟩, h.x, h.a⟩
theorem BW.drewN {w wr : World} {bk bh A : Nat} {L X : List Nat} (h : BW w wr bk bh A L X) (n : Nat) : BW w (wr.drewN n) bk bh A L X := ⟨h.r.drewN n, h.x.drewN n, h.a⟩
theorem wordsZ_length (blk : List UInt8) (k : Nat) (h : k ≤ 64) : (wordsZ blk k).length = 64 := by simp [wordsZ, words_length]; omega
/-- a byte of the block at hand -/
theorem block_byte (u : ByteArray) (l : List UInt8) (at' i : Nat) (hu : u.data.toList = l) (h : at' + i < u.size) (hi : i < 64) : (u[at' + i]'h).toNat = (((l.drop at').take 64).getD i 0).toNat := by
  subst hu
  rw [List.getD_eq_getElem?_getD, List.getElem?_take, if_pos hi, List.getElem?_drop]
  have h2 : at' + i < u.data.toList.length := by simpa using h
  rw [List.getElem?_eq_getElem h2]
  rfl

/-- a call in a region that reads only, behind other such regions -/
theorem quiet_add {P : Program} {f : FuncId} {args : Array Value} {w : World} {a n : Nat} {v : Value}
    (h : Calls P f args (w.drewN (a + n)) fun e w' => e = .returned v ∧ ∃ m, w' = (w.drewN (a + n)).drewN m) :
    Calls P f args (w.drewN (a + n)) fun e w'' => e = .returned v ∧ ∃ m, w'' = w.drewN (a + m) :=
  h.mono fun _ _ ⟨he, m, hm⟩ => ⟨he, n + m, by rw [hm, World.drewN_drewN, Nat.add_assoc]⟩
theorem turn_c (x : Nat) (c : Int) (hx : x < 4294967296) (hc : 0 ≤ c ∧ c ≤ 32) (w : World) :
    Calls Tryd.prog 92 #[.int .u64 x, .int .u64 c] w fun e w' => e = .returned (.int .u64 (rotr c.toNat x : Nat)) ∧ ∃ k, w' = w.drewN k := by
  obtain ⟨n, rfl⟩ : ∃ n : Nat, c = n := ⟨c.toNat, by omega⟩
  exact turn_any x n hx (by omega) w
theorem shift_c (x : Nat) (c : Int) (hx : x < 4294967296) (hc : 0 ≤ c ∧ c ≤ 32) (w : World) :
    Calls Tryd.prog 91 #[.int .u64 x, .int .i64 c] w fun e w' => e = .returned (.int .u64 (x / 2 ^ c.toNat : Nat)) ∧ w' = w := by
  obtain ⟨n, rfl⟩ : ∃ n : Nat, c = n := ⟨c.toNat, by omega⟩
  exact (shift_any x n (by omega) (by omega) w).mono fun _ _ h => ⟨h.1, h.2.symm⟩
theorem lt64 {a : Nat} (h : a < 4294967296) : a < 18446744073709551616 := by omega
theorem shr_64 {a b x n m : Nat} (ha : a < 4294967296) (hb : b < 4294967296) (hx : x < 4294967296) (hm : 2 ^ n = m) : bits .xor .u64 (bits .xor .u64 (a : Int) b) ((x : Int) / (m : Nat)) = ((a ^^^ b ^^^ x / 2 ^ n : Nat) : Int) := by
  have h3 : (x : Int) / (m : Nat) = ((x / 2 ^ n : Nat) : Int) := by rw [hm]; simp
  rw [h3, u64_xor_nat _ _ (lt64 ha) (lt64 hb), u64_xor_nat _ _ (lt64 (xor_lt ha hb)) (lt64 (div_lt32 hx))]
theorem xor3_64 {a b c : Nat} (ha : a < 4294967296) (hb : b < 4294967296) (hc : c < 4294967296) : bits .xor .u64 (bits .xor .u64 (a : Int) b) c = ((a ^^^ b ^^^ c : Nat) : Int) := by
  rw [u64_xor_nat _ _ (lt64 ha) (lt64 hb), u64_xor_nat _ _ (lt64 (xor_lt ha hb)) (lt64 hc)]

/-- the text of some words -/
def outTo (L : List Nat) (i : Nat) : List UInt8 := (L.take i).flatMap fun x => be x 4
theorem outTo_succ (st : St) (i : Nat) (h : i < 8) : outTo st.list (i + 1) = outTo st.list i ++ be (st.list.getD i 0) 4 := by
  have e : st.list.take (i + 1) = st.list.take i ++ [st.list.getD i 0] := by
    rw [List.take_succ_eq_append_getElem (by exact h), List.getD_eq_getElem?_getD, List.getElem?_eq_getElem (by exact h)]
    rfl
  rw [outTo, outTo, e, List.flatMap_append]
  simp
theorem half_at (s t : St) (i : Nat) (h : i < 8) : ((s.add t).list.take i ++ s.list.drop i).getD i 0 = s.list.getD i 0 := by
  obtain rfl | rfl | rfl | rfl | rfl | rfl | rfl | rfl : i = 0 ∨ i = 1 ∨ i = 2 ∨ i = 3 ∨ i = 4 ∨ i = 5 ∨ i = 6 ∨ i = 7 := by omega
  all_goals rfl
theorem half_succ (s t : St) (i : Nat) (h : i < 8) : ((s.add t).list.take i ++ s.list.drop i).set i ((s.list.getD i 0 + t.list.getD i 0) % 4294967296) = (s.add t).list.take (i + 1) ++ s.list.drop (i + 1) := by
  obtain rfl | rfl | rfl | rfl | rfl | rfl | rfl | rfl : i = 0 ∨ i = 1 ∨ i = 2 ∨ i = 3 ∨ i = 4 ∨ i = 5 ∨ i = 6 ∨ i = 7 := by omega
  all_goals rfl
theorem list_ok' {s : St} (h : s.ok) : ∀ x ∈ s.list, x < 4294967296 := by
  obtain ⟨ha, hb, hc, hd, he, hf, hg, hh⟩ := h
  intro x hx
  simp only [St.list, List.mem_cons, List.not_mem_nil, or_false] at hx
  rcases hx with rfl | rfl | rfl | rfl | rfl | rfl | rfl | rfl <;> assumption
theorem blocks_ok (l : List UInt8) (n : Nat) : (blocksTo start l n).ok := by
  cases n with
  | zero => exact start_ok
  | succ n => exact mix_ok _ _

/-- the text so far, as the document pads it -/
def padTo (l : List UInt8) (k : Nat) : List UInt8 := l ++ 128 :: List.replicate k 0

/-- the loops of a piece of code, the outer ones first -/
def loopsIn : Code → List Code
  | .loop c => c :: loopsIn c
  | .seq a b => loopsIn a ++ loopsIn b
  | .block _ c => loopsIn c
  | .scope c => loopsIn c
  | .cond _ a b => loopsIn a ++ loopsIn b
  | _ => []
/-- the body of a function's loop -/
noncomputable def loopBody (f : Func) (n : Nat) : Code := ((f.body.map loopsIn).getD []).getD n .skip
end Go.Proofs.YtioahjdojgcfdaaDoor
