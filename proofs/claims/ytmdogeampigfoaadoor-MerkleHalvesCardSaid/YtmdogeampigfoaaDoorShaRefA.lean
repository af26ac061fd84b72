/- The walks of the document's shift, turn, times, above. -/
import Derived.Test.YtmdogeampigfoaaDoorShaNums
import Derived.Test.YtmdogeampigfoaaDoorShaRot
import Derived.Test.YtmdogeampigfoaaDoorMem
import Derived.OwnWalk
import Derived.Deep.MidRow
import Derived.BigQuiet
import Derived.StillTailTactics
import Derived.IntWalk
namespace Go.Proofs.YtmdogeampigfoaaDoor
open Go.RowKit

set_option maxHeartbeats 400000 in
theorem shift_any (x n : Nat) (hx : x ≤ 18446744073709551615) (hn : n ≤ 1000000) (w : World) :
    Calls Tryd.prog 52 #[.int .u64 x, .int .i64 n] w fun e w' => e = .returned (.int .u64 (x / 2 ^ n : Nat)) ∧ w = w' := by
  go_enter Tryd.func52, Tryd.ntmps52
  go_wp2
  go_loop [0, 5] (fun a i => ∃ k : Nat, k ≤ n ∧ i = .int .i64 k ∧ a = .int .u64 (x / 2 ^ k : Nat)) (fun _ i => n - (intOf i).toNat)
  case atStart => exact ⟨0, by omega, rfl, by simp⟩
  case round =>
    obtain ⟨k, hk, rfl, rfl⟩ := hrel
    have hb : x / 2 ^ k ≤ 18446744073709551615 := Nat.le_trans (Nat.div_le_self _ _) hx
    have hs : x / 2 ^ (k + 1) = x / 2 ^ k / 2 := by rw [Nat.pow_succ, Nat.div_div_eq_div_mul]
    have HS := Lib.hid hs
    clear hs
    by_cases hlt : k < n
    · generalize x / 2 ^ k = y at hb HS ⊢
      go_wp2
      go_round
      case rel =>
        refine ⟨k + 1, by omega, by go_num, ?_⟩
        rw [HS.out]
        simp
      case measure => simp [intOf]; omega
    · have : k = n := by omega
      subst this
      clear HS
      go_wp2
      go_ret
      exact ⟨ret_int (by simp), rfl⟩

set_option maxHeartbeats 400000 in
theorem turn_any (x n : Nat) (hx : x < 4294967296) (hn : n ≤ 32) (w : World) :
    Calls Tryd.prog 54 #[.int .u64 x, .int .u64 n] w fun e w' => e = .returned (.int .u64 (rotr n x : Nat)) ∧ ∃ k, w' = w.drewN k := by
  go_enter Tryd.func54, Tryd.ntmps54
  go_wp2
  go_loop [5, 6] (fun p i => ∃ k : Nat, k ≤ n ∧ i = .int .u64 k ∧ p = .int .u64 (2 ^ k : Nat)) (fun _ i => n - (intOf i).toNat)
  case atStart => exact ⟨0, by omega, rfl, rfl⟩
  case round =>
    obtain ⟨k, hk, rfl, rfl⟩ := hrel
    have hb : 2 ^ k ≤ 4294967296 := by
      have : 2 ^ k ≤ 2 ^ 32 := Nat.pow_le_pow_right (by decide) (by omega)
      simpa using this
    have h0 : 0 < 2 ^ k := Nat.two_pow_pos k
    by_cases hlt : k < n
    · have HS : Hid (2 ^ (k + 1) = 2 ^ k * 2) := Nat.pow_succ 2 k
      generalize 2 ^ k = y at hb h0 HS ⊢
      go_wp2
      go_round
      case rel =>
        refine ⟨k + 1, by omega, by go_num, ?_⟩
        rw [HS.out]
        simp
      case measure => simp [intOf]; omega
    · have : k = n := by omega
      subst this
      have hq : 4294967296 / 2 ^ k = 2 ^ (32 - k) := by
        have : (4294967296 : Nat) = 2 ^ k * 2 ^ (32 - k) := by rw [← Nat.pow_add]; rw [show k + (32 - k) = 32 from by omega]
        rw [this, Nat.mul_div_cancel_left _ h0]
      have hr := rotr_lt (n := k) (by omega) hx
      have hrr : x / 2 ^ k + x % 2 ^ k * 2 ^ (32 - k) = rotr k x := rfl
      obtain ⟨r, hre⟩ : ∃ r, rotr k x = r := ⟨_, rfl⟩
      rw [hre] at hr hrr
      have HRE := Lib.hid hre
      clear hre
      generalize 2 ^ k = p at hb h0 hq hrr ⊢
      have hvx := Nat.div_le_self x p
      generalize 2 ^ (32 - k) = q at hq hrr
      have hq2 : (4294967296 : Int) / (p : Int) = (q : Int) := by rw [← hq]; simp
      have hq3 : (4294967296 : Int).tdiv (p : Int) = (q : Int) := by rw [Int.tdiv_eq_ediv_of_nonneg (by omega)]; exact hq2
      have hm2 : (x : Int).tmod p = ((x % p : Nat) : Int) := by rw [Int.tmod_eq_emod_of_nonneg (by omega)]; simp
      have hd2 : (x : Int).tdiv p = ((x / p : Nat) : Int) := by rw [Int.tdiv_eq_ediv_of_nonneg (by omega)]; simp
      have hp0 : ((p : Int) == 0) = false := by rw [beq_eq_false_iff_ne]; omega
      obtain ⟨u, hu⟩ : ∃ u, u = x % p := ⟨_, rfl⟩
      obtain ⟨v, hv⟩ : ∃ v, v = x / p := ⟨_, rfl⟩
      rw [← hu] at hm2 hrr
      rw [← hv] at hd2 hrr
      obtain ⟨m, hm⟩ : ∃ m, u * q = m := ⟨_, rfl⟩
      have hm3 : (u : Int) * (q : Int) = (m : Int) := by rw [← hm]; simp
      rw [hm] at hrr
      have hwm : IntKind.u64.wrap (m : Int) = (m : Int) := wrap_u64 _ (by omega)
      have hwr : IntKind.u64.wrap ((v : Int) + (m : Int)) = (r : Int) := by
        rw [show (v : Int) + (m : Int) = (r : Int) from by omega]
        exact wrap_u64 _ (by omega)
      have hq4 : q ≤ 4294967296 := by rw [← hq]; exact Nat.div_le_self _ _
      have HRR := Lib.hid hrr
      clear hm hrr hu hq hq2
      go_wp2
      go_quiet (fail)
      go_wp2
      go_ret
      refine ⟨ret_int ?_, _, rfl⟩
      rw [show (x : Int) / p = (v : Int) from by rw [hv]; simp, hwr, HRE.out]

def u64s (l : List Nat) : List Value := l.map fun n : Nat => Value.int .u64 (n : Int)
theorem u64s_length (l : List Nat) : (u64s l).length = l.length := by simp [u64s]
theorem u64s_at (l : List Nat) (i : Nat) (h : i < l.length) : (u64s l)[i]? = some (.int .u64 (l.getD i 0 : Nat)) := by
  simp [u64s, List.getElem?_eq_getElem h, List.getD_eq_getElem?_getD]
theorem u64s_set (l : List Nat) (i x : Nat) : u64s (l.set i x) = (u64s l).set i (.int .u64 x) := by simp [u64s, List.map_set]
/-- a slice that holds these numbers -/
def NumsAt (w : World) (v : Value) (L : List Nat) : Prop := ∃ g o cap, v = .slice (some ⟨g, o, none⟩) L.length cap ∧ ∀ i, i < L.length → w.cell? ⟨g, o + i, none⟩ = some (.int .u64 (L.getD i 0 : Nat))
theorem NumsAt.kept {w w' : World} {v : Value} {L : List Nat} (h : NumsAt w v L) (hg : w.grownBy w' none) : NumsAt w' v L := by
  obtain ⟨g, o, cap, rfl, hc⟩ := h
  exact ⟨g, o, cap, rfl, fun i hi => hg.cell (hc i hi) (by simp)⟩
/-- a block that holds just these numbers -/
def RowAt (w : World) (g : Nat) (L : List Nat) : Prop := w.heap[g]? = some (.cells (u64s L).toArray 77 (0, 0))
theorem RowAt.cell {w : World} {g : Nat} {L : List Nat} (h : RowAt w g L) (i : Nat) (hi : i < L.length) : w.cell? ⟨g, i, none⟩ = some (.int .u64 (L.getD i 0 : Nat)) := by
  rw [cell_of h, List.getElem?_toArray, u64s_at _ _ hi]
theorem RowAt.nums {w : World} {g : Nat} {L : List Nat} (h : RowAt w g L) (cap : Nat) : NumsAt w (.slice (some ⟨g, 0, none⟩) L.length cap) L :=
  ⟨g, 0, cap, rfl, fun i hi => by rw [Nat.zero_add]; exact h.cell i hi⟩
theorem RowAt.put {w : World} {g : Nat} {L : List Nat} (h : RowAt w g L) (i x : Nat) : RowAt (w.setCell ⟨g, i, none⟩ (.int .u64 x)) g (L.set i x) := by
  unfold RowAt
  rw [heap_setCell h, List.setIfInBounds_toArray, ← u64s_set]
theorem RowAt.kept {w w' : World} {row : Option Nat} {g : Nat} {L : List Nat} (h : RowAt w g L) (hg : w.grownBy w' row) (hr : row ≠ some g) : RowAt w' g L := by
  unfold RowAt
  rw [hg.block g (Array.getElem?_eq_some_iff.1 h).1 (fun e => hr e.symm)]
  exact h
theorem RowAt.drewN {w : World} {g : Nat} {L : List Nat} (h : RowAt w g L) (n : Nat) : RowAt (w.drewN n) g L := h
theorem row_of_own {w : World} {B g n : Nat} {L : List Nat} (h : w.ownsRow B 77 1 (.slice (some ⟨g, 0, none⟩) n n) n (u64s L)) : RowAt w g L := by
  rcases h.2 with ⟨h', _⟩ | ⟨g', cap', cur, h', _, hg, _, _, hcs, htake⟩
  · simp at h'
  · simp only [Value.slice.injEq, Option.some.injEq, Addr.mk.injEq, and_true, true_and] at h'
    obtain ⟨rfl, rfl⟩ := h'
    unfold RowAt
    rw [hg, ← htake, List.take_of_length_le (by simp [hcs])]
theorem infoU64 : (Tryd.prog.info? 77).map (fun i => (i.zero, i.size, i.bytes)) = some (some (.int .u64 0), 1, 8) := by kernel_rfl
theorem made_u64 (n : Nat) : (madeCells #[Value.int .u64 0] n).toList = u64s (List.replicate n 0) := by
  apply List.ext_getElem?
  intro i
  simp [madeCells, u64s, List.getElem?_replicate]
  by_cases h : i < n <;> simp [h, Nat.mod_one]

set_option maxRecDepth 100000 in
set_option maxHeartbeats 1600000 in
theorem times_any (w : World) (va vb : Value) (A B : List Nat) (ha : NumsAt w va A) (hb : NumsAt w vb B) (da : Dig A) (db : Dig B) (la : A.length ≤ 100) (lb : B.length ≤ 100) :
    Calls Tryd.prog 64 #[va, vb] w fun e w' => e = .returned (.slice (some ⟨w.heap.size, 0, none⟩) (A.length + B.length) (A.length + B.length)) ∧ RowAt w' w.heap.size (timesL A B) ∧ w.grownBy w' none := by
  obtain ⟨ga, oa, ca, rfl, hca⟩ := ha
  obtain ⟨gb, ob, cb, rfl, hcb⟩ := hb
  obtain ⟨i0, hi, hz0, hz1, hz2⟩ := info_parts infoU64
  have HA := Lib.hid hca
  have HB := Lib.hid hcb
  clear hca hcb
  go_enter Tryd.func64, Tryd.ntmps64
  go_wp2_with (at_make; refine wpList_make_full _ rfl _ _ 95 rfl w.heap.size 77 i0 (.int .u64 0) 1 Tryd.underlying95 hi hz0 hz1 _ _ _ _ (A.length + B.length) rfl rfl rfl rfl ?c1 ?c2 ?c3 ?_)
  case c1 => rw [hz2]; omega
  case c2 => unfold maxLen; omega
  case c3 => omega
  intro w1 hown hg
  rw [made_u64] at hown
  have HR := Lib.hid (row_of_own hown)
  have HG := Lib.hid (grownBy_below ((Below.refl _ _).grown hg (Nat.le_refl _) (by intro k h; cases h)))
  clear hown hg
  go_wp2_with fail
  go_loopw [6] (fun iv wr => ∃ i : Nat, i ≤ A.length ∧ iv = .int .i64 i ∧ Hid (RowAt wr w.heap.size (tOut A B i)) ∧ Hid (w.grownBy wr none)) (fun iv _ => A.length - (intOf iv).toNat)
  case atStart => exact ⟨0, Nat.zero_le _, rfl, HR.out, HG.out⟩
  case round =>
    clear HR HG
    obtain ⟨i, hi, rfl, HR, HG⟩ := hrel
    by_cases hlt : i < A.length
    · have ok := outOk da db i (by omega)
      have HO := Lib.hid ok
      have hd1 := ok.len
      have hd2 := ok.dig
      have hin := fun k hk => inOk (i := i) (da i) db hd2 (by omega) k hk
      have HIN := Lib.hid hin
      have hai := da i
      have ca := HG.out.cell (HA.out i hlt) (by simp)
      have hdec : decide ((i : Int) < (A.length : Int)) = true := by simp; omega
      clear hin ok hd2
      have b1 : (0 : Int) ≤ (i : Int) := by omega
      have b2 : (i : Int) < (A.length : Int) := by omega
      go_wp2_with fail
      go_loopw [7, 8] (fun cv kv wr => ∃ k : Nat, k ≤ B.length ∧ kv = .int .i64 k ∧ cv = .int .u64 (tIn (A.getD i 0) i B (tOut A B i) k).2 ∧ Hid (RowAt wr w.heap.size (tIn (A.getD i 0) i B (tOut A B i) k).1) ∧ Hid (w.grownBy wr none)) (fun _ kv _ => B.length - (intOf kv).toNat)
      case atStart => exact ⟨0, Nat.zero_le _, rfl, rfl, HR.out, HG.out⟩
      case round =>
        clear HR HG ca
        obtain ⟨k, hk, rfl, rfl, HR, HG⟩ := hrel
        have ok := HIN.out k hk
        obtain ⟨k1, k2, k3, k4, -⟩ := ok
        by_cases hkl : k < B.length
        · have ca := HG.out.cell (HA.out i hlt) (by simp)
          have cb := HG.out.cell (HB.out k hkl) (by simp)
          have co := HR.out.cell (i + k) (by omega)
          have fo := free_of HR.out (i + k)
          have hbk := db k
          have hdk := k2 (i + k)
          have htt := t_lt hdk hai hbk k3
          obtain ⟨O, hO⟩ : ∃ O, (tIn (A.getD i 0) i B (tOut A B i) k).1 = O := ⟨_, rfl⟩
          obtain ⟨c, hc⟩ : ∃ c, (tIn (A.getD i 0) i B (tOut A B i) k).2 = c := ⟨_, rfl⟩
          obtain ⟨d, hd⟩ : ∃ d, O.getD (i + k) 0 = d := ⟨_, rfl⟩
          obtain ⟨bk, hbk2⟩ : ∃ bk, B.getD k 0 = bk := ⟨_, rfl⟩
          obtain ⟨ai, hai2⟩ : ∃ ai, A.getD i 0 = ai := ⟨_, rfl⟩
          have hs1 : (tIn (A.getD i 0) i B (tOut A B i) (k + 1)) = (O.set (i + k) ((d + ai * bk + c) % 65536), (d + ai * bk + c) / 65536) := by
            rw [tIn, hO, hc, hd, hbk2, hai2]
          have HS1 := Lib.hid hs1
          rw [hO] at co hdk htt HR
          rw [hd] at co hdk htt
          rw [hc] at htt k3
          rw [hbk2] at cb htt hbk
          rw [hai2] at ca htt
          rw [hc]
          obtain ⟨m, hm⟩ : ∃ m, ai * bk = m := ⟨_, rfl⟩
          have hm3 : (ai : Int) * (bk : Int) = (m : Int) := by rw [← hm]; simp
          rw [hm] at htt
          have HM := Lib.hid hm
          clear hO hc hd hbk2 hai2 hs1 k1 k2 k4 hm
          have e1 : IntKind.u64.wrap (m : Int) = (m : Int) := wrap_u64 _ (by omega)
          have e2 : IntKind.u64.wrap ((d : Int) + m) = (d : Int) + m := by
            rw [show (d : Int) + m = ((d + m : Nat) : Int) from by simp]; exact wrap_u64 _ (by omega)
          have e3 : IntKind.u64.wrap ((d : Int) + m + c) = (d : Int) + m + c := by
            rw [show (d : Int) + m + c = ((d + m + c : Nat) : Int) from by simp]; exact wrap_u64 _ (by omega)
          have e4 : IntKind.i64.wrap ((i : Int) + k) = (i : Int) + k := IntWalk.i64_in _ (by omega)
          have e5 : ((i : Int) + k).toNat = i + k := by omega
          have b3 : (0 : Int) ≤ (i : Int) + k := by omega
          have b4 : (i : Int) + k < (A.length : Int) + B.length := by omega
          have b5 : (k : Int) < (B.length : Int) := by omega
          have b6 : (0 : Int) ≤ (k : Int) := by omega
          go_wp2_with fail
          go_quiet (fail)
          go_wp2_with fail
          go_roundw
          case rel =>
            have hs := HS1.out
            rw [HM.out] at hs
            refine ⟨k + 1, by omega, by go_num, val_int ?_, ?_, ?_⟩
            · rw [hs]; simp
            · show RowAt _ _ _
              rw [hs]
              have := (HR.out.drewN nq).put (i + k) ((d + m + c) % 65536)
              simpa using this
            · exact grownBy_setNew (grownBy_drewN HG.out _) (Nat.le_refl _) _ _
          case measure => simp [intOf]; omega
        · have : k = B.length := by omega
          subst this
          have co := HR.out.cell (i + B.length) (by omega)
          have fo := free_of HR.out (i + B.length)
          have hsx : tOut A B (i + 1) = (tIn (A.getD i 0) i B (tOut A B i) B.length).1.set (i + B.length) ((tIn (A.getD i 0) i B (tOut A B i) B.length).1.getD (i + B.length) 0 + (tIn (A.getD i 0) i B (tOut A B i) B.length).2) := rfl
          have hdx := k2 (i + B.length)
          obtain ⟨O, hO⟩ : ∃ O, (tIn (A.getD i 0) i B (tOut A B i) B.length).1 = O := ⟨_, rfl⟩
          obtain ⟨c, hc⟩ : ∃ c, (tIn (A.getD i 0) i B (tOut A B i) B.length).2 = c := ⟨_, rfl⟩
          obtain ⟨d, hd⟩ : ∃ d, O.getD (i + B.length) 0 = d := ⟨_, rfl⟩
          rw [hO, hc, hd] at hsx
          rw [hO] at co HR hdx
          rw [hd] at co hdx
          rw [hc] at k3
          rw [hc]
          have HSX := Lib.hid hsx
          clear hsx hO hc hd k1 k2 k4
          have b3 : (0 : Int) ≤ (i : Int) + B.length := by omega
          have b4 : (i : Int) + B.length < (A.length : Int) + B.length := by omega
          have e5 : ((i : Int) + B.length).toNat = i + B.length := by omega
          go_wp2_with fail
          go_roundw
          case rel =>
            refine ⟨i + 1, by omega, by go_num, ?_, grownBy_setNew HG.out (Nat.le_refl _) _ _⟩
            show RowAt _ _ _
            rw [HSX.out]
            have := HR.out.put (i + B.length) (d + c)
            simpa using this
          case measure => simp [intOf]; omega
    · have : i = A.length := by omega
      subst this
      go_wp2_with fail
      go_ret
      exact ⟨rfl, HR.out, HG.out⟩
end Go.Proofs.YtmdogeampigfoaaDoor
