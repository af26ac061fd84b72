/- Plain functions for package merkle: nodes, roots, paths, climbs, each by levels and by halves. No walk of the program. · The walks of digits' small functions. · The walk of digits.Of. · The walks of wots' places, secrets, walks. · The walks of wots.Public, Sign, Recover. · Bits of numbers of kind i64 that are not below 0. No walk. · The walks of merkle.Node, isTree, above, isBehind. · The walks of merkle.Root, Path, Climb. -/
import Derived.Test.YtemndmhdlgfajaaGreatDoorPolicyCodesB2
import Derived.Test.YtemndmhdlgfajaaGreatDoorPolicyCodesB1
import Derived.WalkSpells
import Derived.WalkLawsBesides
import Derived.Laws.IdiomStrings
import Derived.Deep.LoopGhost
import Derived.Deep.DeepCutAuto
import Derived.Deep.CutBlock
import Derived.Laws.Bits64b
import Derived.WalkKit
import Derived.Deep.RegionHeld3
import Derived.Deep.QuietTactic
import Derived.BigQuiet
import Derived.IntWalk
namespace Go.Proofs.YtemndmhdlgfajaaGreatDoor
attribute [local irreducible] shaL

def nodeS (a b : ByteArray) : ByteArray := tagS 5 [a, b]
theorem nodeS_size (a b : ByteArray) : (nodeS a b).size = 16 := tagS_size _ _
/-- the level above -/
def aboveS : List ByteArray → List ByteArray
  | a :: b :: r => nodeS a b :: aboveS r
  | _ => []
def rootS : Nat → List ByteArray → ByteArray
  | 0, l => l.headD ByteArray.empty
  | h + 1, l => rootS h (aboveS l)
def pathS : Nat → List ByteArray → Nat → List ByteArray
  | 0, _, _ => []
  | h + 1, l, i => l.getD (i ^^^ 1) ByteArray.empty :: pathS h (aboveS l) (i / 2)
def stepC (x : ByteArray) (i : Nat) (b : ByteArray) : ByteArray := if i % 2 = 1 then nodeS b x else nodeS x b
def climbS (x : ByteArray) (i : Nat) : List ByteArray → ByteArray
  | [] => x
  | b :: r => climbS (stepC x i b) (i / 2) r
/-- by halves -/
def rootH : Nat → List ByteArray → ByteArray
  | 0, l => l.headD ByteArray.empty
  | h + 1, l => nodeS (rootH h (l.take (2 ^ h))) (rootH h (l.drop (2 ^ h)))
def pathH : Nat → List ByteArray → Nat → List ByteArray
  | 0, _, _ => []
  | h + 1, l, i => if i < 2 ^ h then pathH h (l.take (2 ^ h)) i ++ [rootH h (l.drop (2 ^ h))] else pathH h (l.drop (2 ^ h)) (i - 2 ^ h) ++ [rootH h (l.take (2 ^ h))]

theorem aboveS_length : ∀ (n : Nat) (l : List ByteArray), l.length = 2 * n → (aboveS l).length = n
  | 0, [], _ => rfl
  | n + 1, a :: b :: r, h => by
    simp only [List.length_cons] at h
    rw [aboveS, List.length_cons, aboveS_length n r (by omega)]
  | 0, _ :: _, h => by simp at h
  | n + 1, [], h => by simp at h
  | n + 1, [_], h => by simp at h; omega
theorem aboveS_at : ∀ (k : Nat) (l : List ByteArray) (a b : ByteArray), l[2 * k]? = some a → l[2 * k + 1]? = some b → (aboveS l)[k]? = some (nodeS a b)
  | 0, a' :: b' :: r, a, b, h1, h2 => by
    simp at h1 h2
    subst h1; subst h2
    rfl
  | k + 1, a' :: b' :: r, a, b, h1, h2 => by
    rw [show 2 * (k + 1) = 2 * k + 1 + 1 from by omega] at h1 h2
    simp only [List.getElem?_cons_succ] at h1 h2
    rw [aboveS, List.getElem?_cons_succ]
    exact aboveS_at k r a b h1 h2
  | 0, [], _, _, h, _ => by simp at h
  | 0, [_], _, _, _, h => by simp at h
  | k + 1, [], _, _, h, _ => by simp at h
  | k + 1, [_], _, _, h, _ => by
    rw [show 2 * (k + 1) = 2 * k + 1 + 1 from by omega] at h
    simp at h
theorem aboveS_append : ∀ (n : Nat) (l m : List ByteArray), l.length = 2 * n → aboveS (l ++ m) = aboveS l ++ aboveS m
  | 0, [], m, _ => rfl
  | n + 1, a :: b :: r, m, h => by
    simp only [List.length_cons] at h
    rw [List.cons_append, List.cons_append, aboveS, aboveS, aboveS_append n r m (by omega), List.cons_append]
  | 0, _ :: _, _, h => by simp at h
  | n + 1, [], _, h => by simp at h
  | n + 1, [_], _, h => by simp at h; omega
theorem aboveS_sizes : ∀ (l : List ByteArray), ∀ s ∈ aboveS l, s.size = 16
  | a :: b :: r, s, h => by
    rw [aboveS] at h
    rcases List.mem_cons.1 h with rfl | h
    · exact nodeS_size _ _
    · exact aboveS_sizes r s h
  | [], s, h => by cases h
  | [_], s, h => by cases h
theorem aboveS_take (n : Nat) (l : List ByteArray) (h : 2 * n ≤ l.length) : (aboveS l).take n = aboveS (l.take (2 * n)) := by
  have e := aboveS_append n (l.take (2 * n)) (l.drop (2 * n)) (by rw [List.length_take]; omega)
  rw [List.take_append_drop] at e
  rw [e, List.take_append_of_le_length (by rw [aboveS_length n _ (by rw [List.length_take]; omega)]; exact Nat.le_refl _), List.take_of_length_le]
  rw [aboveS_length n _ (by rw [List.length_take]; omega)]
  exact Nat.le_refl _
theorem aboveS_drop (n : Nat) (l : List ByteArray) (h : 2 * n ≤ l.length) : (aboveS l).drop n = aboveS (l.drop (2 * n)) := by
  have e := aboveS_append n (l.take (2 * n)) (l.drop (2 * n)) (by rw [List.length_take]; omega)
  rw [List.take_append_drop] at e
  have hl := aboveS_length n (l.take (2 * n)) (by rw [List.length_take]; omega)
  rw [e, List.drop_append, List.drop_of_length_le (by omega), hl, Nat.sub_self, List.nil_append]
  rfl
theorem xor1d (i : Nat) : (i ^^^ 1) / 2 = i / 2 := by rw [Nat.xor_div_two]; simp
theorem xor1m (i : Nat) : (i ^^^ 1) % 2 = 1 - i % 2 := by
  have h : (i ^^^ 1) % 2 ^ 1 = (i % 2 ^ 1) ^^^ (1 % 2 ^ 1) := Nat.xor_mod_two_pow
  rw [Nat.pow_one] at h
  rw [h]
  have : i % 2 < 2 := Nat.mod_lt _ (by decide)
  rcases (show i % 2 = 0 ∨ i % 2 = 1 by omega) with e | e <;> rw [e] <;> rfl
theorem xor1 (i : Nat) : i ^^^ 1 = if i % 2 = 1 then i - 1 else i + 1 := by
  have h1 := xor1d i
  have h2 := xor1m i
  split <;> omega
theorem pow_succ2 (h : Nat) : 2 ^ (h + 1) = 2 * 2 ^ h := by rw [Nat.pow_succ]; omega
theorem root_halves : ∀ (h : Nat) (l : List ByteArray), l.length = 2 ^ h → rootS h l = rootH h l
  | 0, _, _ => rfl
  | 1, l, e => by
    match l, e with
    | [a, b], _ => rfl
  | h + 2, l, e => by
    have e1 : 2 ^ (h + 2) = 2 * 2 ^ (h + 1) := pow_succ2 (h + 1)
    have e2 := pow_succ2 h
    have hl : (aboveS l).length = 2 ^ (h + 1) := aboveS_length _ _ (by omega)
    rw [rootS, root_halves (h + 1) _ hl, rootH, rootH]
    have q1 : (aboveS l).take (2 ^ h) = aboveS (l.take (2 ^ (h + 1))) := by rw [e2]; exact aboveS_take _ _ (by omega)
    have q2 : (aboveS l).drop (2 ^ h) = aboveS (l.drop (2 ^ (h + 1))) := by rw [e2]; exact aboveS_drop _ _ (by omega)
    have l1 : (l.take (2 ^ (h + 1))).length = 2 ^ (h + 1) := by rw [List.length_take]; omega
    have l2 : (l.drop (2 ^ (h + 1))).length = 2 ^ (h + 1) := by rw [List.length_drop]; omega
    rw [q1, q2, ← root_halves h _ (aboveS_length _ _ (by omega)), ← root_halves h _ (aboveS_length _ _ (by omega))]
    show nodeS (rootS (h + 1) _) (rootS (h + 1) _) = _
    rw [root_halves (h + 1) _ l1, root_halves (h + 1) _ l2]
theorem pathS_length (h : Nat) : ∀ (l : List ByteArray) (i : Nat), (pathS h l i).length = h := by
  induction h with
  | zero => intro l i; rfl
  | succ h ih => intro l i; rw [pathS, List.length_cons, ih]
theorem pathH_length (h : Nat) : ∀ (l : List ByteArray) (i : Nat), (pathH h l i).length = h := by
  induction h with
  | zero => intro l i; rfl
  | succ h ih => intro l i; rw [pathH]; split <;> simp [ih]
theorem path_halves : ∀ (h : Nat) (l : List ByteArray) (i : Nat), l.length = 2 ^ h → i < 2 ^ h → pathS h l i = pathH h l i
  | 0, _, _, _, _ => rfl
  | 1, l, i, e, hi => by
    match l, e, i, hi with
    | [a, b], _, 0, _ => rfl
    | [a, b], _, 1, _ => rfl
  | h + 2, l, i, e, hi => by
    have e1 : 2 ^ (h + 2) = 2 * 2 ^ (h + 1) := pow_succ2 (h + 1)
    have e2 := pow_succ2 h
    have p1 : (0 : Nat) < 2 ^ h := Nat.pow_pos (by decide)
    have hl : (aboveS l).length = 2 ^ (h + 1) := aboveS_length _ _ (by omega)
    have q1 : (aboveS l).take (2 ^ h) = aboveS (l.take (2 ^ (h + 1))) := by rw [e2]; exact aboveS_take _ _ (by omega)
    have q2 : (aboveS l).drop (2 ^ h) = aboveS (l.drop (2 ^ (h + 1))) := by rw [e2]; exact aboveS_drop _ _ (by omega)
    have l1 : (l.take (2 ^ (h + 1))).length = 2 ^ (h + 1) := by rw [List.length_take]; omega
    have l2 : (l.drop (2 ^ (h + 1))).length = 2 ^ (h + 1) := by rw [List.length_drop]; omega
    have m1 : min (2 ^ (h + 1)) l.length = 2 ^ (h + 1) := by omega
    have la1 : (aboveS (l.take (2 ^ (h + 1)))).length = 2 ^ h := aboveS_length _ _ (by omega)
    have la2 : (aboveS (l.drop (2 ^ (h + 1)))).length = 2 ^ h := aboveS_length _ _ (by omega)
    have x1 : i ^^^ 1 < 2 ^ (h + 1) ↔ i < 2 ^ (h + 1) := by
      have := xor1d i
      have := xor1m i
      omega
    rw [pathS, path_halves (h + 1) _ _ hl (by omega), pathH, pathH]
    by_cases hlt : i < 2 ^ (h + 1)
    · rw [if_pos (by omega), if_pos hlt, q1, q2, ← path_halves (h + 1) _ i l1 hlt, pathS, ← path_halves h _ (i / 2) la1 (by omega)]
      rw [List.cons_append]
      congr 1
      · rw [List.getD_eq_getElem?_getD, List.getD_eq_getElem?_getD, List.getElem?_take, if_pos (x1.2 hlt)]
      · congr 2
        rw [← root_halves h _ la2, ← root_halves (h + 1) _ l2]
        rfl
    · rw [if_neg (by omega), if_neg hlt, q1, q2, ← path_halves (h + 1) _ (i - 2 ^ (h + 1)) l2 (by omega), pathS, show i / 2 - 2 ^ h = (i - 2 ^ (h + 1)) / 2 from by omega, ← path_halves h _ ((i - 2 ^ (h + 1)) / 2) la2 (by omega)]
      rw [List.cons_append]
      congr 1
      · rw [List.getD_eq_getElem?_getD, List.getD_eq_getElem?_getD, List.getElem?_drop]
        have y1 := xor1d i
        have y2 := xor1d (i - 2 ^ (h + 1))
        have y3 := xor1m i
        have y4 := xor1m (i - 2 ^ (h + 1))
        rw [show 2 ^ (h + 1) + ((i - 2 ^ (h + 1)) ^^^ 1) = i ^^^ 1 from by omega]
      · congr 2
        rw [← root_halves h _ la1, ← root_halves (h + 1) _ l1]
        rfl
theorem climb_path : ∀ (h : Nat) (l : List ByteArray) (i : Nat) (x : ByteArray), l.length = 2 ^ h → l[i]? = some x → climbS x i (pathS h l i) = rootS h l
  | 0, l, i, x, e, hx => by
    match l, e, i, hx with
    | [a], _, 0, hx => simp at hx; subst hx; rfl
    | [a], _, i + 1, hx => simp at hx
  | h + 1, l, i, x, e, hx => by
    have e1 := pow_succ2 h
    have hi := (List.getElem?_eq_some_iff.1 hx).1
    rw [pathS, climbS, rootS]
    refine climb_path h _ _ _ (aboveS_length _ _ (by omega)) ?_
    have y := xor1 i
    unfold stepC
    by_cases h2 : i % 2 = 1
    · rw [if_pos h2] at y ⊢
      have hy : i - 1 < l.length := by omega
      rw [y, List.getD_eq_getElem?_getD, List.getElem?_eq_getElem hy]
      refine aboveS_at _ _ _ _ ?_ ?_
      · rw [show 2 * (i / 2) = i - 1 from by omega, List.getElem?_eq_getElem hy]; rfl
      · rw [show 2 * (i / 2) + 1 = i from by omega, hx]
    · rw [if_neg h2] at y ⊢
      have hy : i + 1 < l.length := by omega
      rw [y, List.getD_eq_getElem?_getD, List.getElem?_eq_getElem hy]
      refine aboveS_at _ _ _ _ ?_ ?_
      · rw [show 2 * (i / 2) = i from by omega, hx]
      · rw [show 2 * (i / 2) + 1 = i + 1 from by omega, List.getElem?_eq_getElem hy]; rfl
theorem rootS_size : ∀ (h : Nat) (l : List ByteArray) (N : Nat), 16 ≤ N → (∀ s ∈ l, s.size ≤ N) → (rootS h l).size ≤ N
  | 0, [], N, _, _ => by simp [rootS]
  | 0, a :: _, N, _, h => h a (by simp)
  | h + 1, l, N, h16, _ => rootS_size h _ N h16 (fun s hs => by rw [aboveS_sizes _ s hs]; exact h16)
theorem pathS_sizes : ∀ (h : Nat) (l : List ByteArray) (i N : Nat), 16 ≤ N → (∀ s ∈ l, s.size ≤ N) → ∀ s ∈ pathS h l i, s.size ≤ N
  | 0, _, _, _, _, _, s, hs => by cases hs
  | h + 1, l, i, N, h16, hl, s, hs => by
    rw [pathS] at hs
    rcases List.mem_cons.1 hs with rfl | hs
    · rw [List.getD_eq_getElem?_getD]
      cases hx : l[i ^^^ 1]? with
      | none => simp
      | some y => exact hl y (List.mem_of_getElem? hx)
    · exact pathS_sizes h _ _ N h16 (fun s hs => by rw [aboveS_sizes _ s hs]; exact h16) s hs
end Go.Proofs.YtemndmhdlgfajaaGreatDoor

namespace Go.Proofs.YtemndmhdlgfajaaGreatDoor
open Go.RowKit

theorem infoIntD : (Tryz.prog.info? 3).map (fun i => (i.zero, i.size, i.bytes)) = some (some (.int .i64 0), 1, 8) := by kernel_rfl
theorem and_low (c : Nat) (h : c < 256) : bits .and .u8 (c : Int) 15 = (c : Int) % 16 := by
  rw [show (15 : Int) = ((15 : Nat) : Int) from rfl, u8_and_nat _ _ h (by omega)]
  have : c &&& 15 = c % 16 := Nat.and_two_pow_sub_one_eq_mod c 4
  rw [this]
  omega

set_option maxHeartbeats 400000 in
theorem halves_any (b : UInt8) (w : World) :
    Calls Tryz.prog 128 #[.int .u8 b.toNat] w fun e w' => e = .returned (.agg #[.int .i64 ((b.toNat : Int) / 16), .int .i64 ((b.toNat : Int) % 16)]) ∧ Below w.heap.size w w' := by
  have hc := b.toNat_lt
  have hl := and_low b.toNat hc
  generalize b.toNat = c at hc hl
  have b4 : (c : Int) / 16 < 16 := by omega
  have b5 : (c : Int) / 16 < 256 := by omega
  go_enter Tryz.func128, Tryz.ntmps128
  go_wp2
  exact bodyPost_ret (v := .agg #[.int .i64 ((c : Int) / 16), .int .i64 ((c : Int) % 16)]) (by simp [results, Tryz.results128, go_sem]) rfl ⟨rfl, (Below.refl _ _).alloc (Nat.le_refl _) _⟩

set_option maxHeartbeats 400000 in
theorem dsum_any (v : Value) (L : List Int) (w : World) (hv : IntsAt w v L) (hL : ∀ x ∈ L, 0 ≤ x ∧ x ≤ 15) (hn : L.length ≤ 1000000) :
    Calls Tryz.prog 130 #[v] w fun e w' => e = .returned (.int .i64 (sumI L)) ∧ w = w' := by
  obtain ⟨a, cap, rfl, hc⟩ := hv
  have HC := Lib.hid hc
  have HL := Lib.hid hL
  clear hc hL
  go_enter Tryz.func130, Tryz.ntmps130
  go_wp2
  go_loop [3, 8] (fun nv iv => ∃ k : Nat, k ≤ L.length ∧ iv = .int .i64 k ∧ nv = .int .i64 (sumI (L.take k))) (fun _ iv => L.length - (intOf iv).toNat)
  case atStart => exact ⟨0, Nat.zero_le _, rfl, rfl⟩
  case round =>
    obtain ⟨k, hk, rfl, rfl⟩ := hrel
    by_cases hlt : k < L.length
    · obtain ⟨g, o, rfl, hcell⟩ := HC.out k hlt
      have hx := HL.out L[k] (List.getElem_mem hlt)
      have hs := sumI_bd (L.take k) (fun x hx => HL.out x (List.mem_of_mem_take hx))
      have hsn : sumI (L.take (k + 1)) = sumI (L.take k) + L[k] := by rw [List.take_succ_eq_append_getElem hlt, sumI_snoc]
      have hlk : (L.take k).length ≤ L.length := by simp; omega
      generalize L[k] = x at hcell hx hsn
      have HS := Lib.hid hsn
      clear hsn
      generalize sumI (L.take k) = m at hs HS ⊢
      have b1 : (0 : Int) ≤ (k : Int) := by omega
      have b2 : (k : Int) < (L.length : Int) := by omega
      go_wp2
      go_round
      case rel => exact ⟨k + 1, by omega, by go_num, by rw [HS.out]⟩
      case measure => simp [intOf]; omega
    · have : k = L.length := by omega
      subst this
      go_wp2
      go_ret
      exact ⟨rfl, rfl⟩

set_option maxHeartbeats 800000 in
theorem left_any (v : Value) (L : List Int) (w : World) (hv : IntsAt w v L) (hn : L.length ≤ 1000000) :
    Calls Tryz.prog 131 #[v] w fun e w' => ∃ v', e = .returned v' ∧ IntsAt w' v' (lefts L) ∧ w.grownBy w' none := by
  obtain ⟨i0, hi, hz0, hz1, hz2⟩ := info_parts infoIntD
  obtain ⟨a, cap, rfl, hc⟩ := hv
  have HC := Lib.hid hc
  clear hc
  go_enter Tryz.func131, Tryz.ntmps131
  go_wp2_with (at_make; refine wpList_make_full _ rfl _ _ 152 rfl w.heap.size 3 i0 (.int .i64 0) 1 Tryz.underlying152 hi hz0 hz1 _ _ _ _ L.length rfl rfl rfl rfl ?c1 ?c2 ?c3 ?_)
  case c1 => rw [hz2]; omega
  case c2 => unfold maxLen; omega
  case c3 => omega
  intro w1 hown hg
  have hrow : ∀ k, k ≤ L.length → ((madeCells #[Value.int .i64 0] L.length).toList = ints (lefts (L.take 0) ++ List.replicate (L.length - 0) 0)) := by
    intro k hk
    apply List.ext_getElem?
    intro i
    simp [madeCells, ints, lefts, List.getElem?_replicate]
    by_cases h : i < L.length <;> simp [h, Nat.mod_one]
  rw [hrow 0 (Nat.zero_le _)] at hown
  have HO := Lib.hid hown
  have HG := Lib.hid hg
  clear hown hg hrow
  go_wp2_with fail
  go_loopw [4, 5, 11] (fun _ _ i wr => ∃ k : Nat, k ≤ L.length ∧ i = .int .i64 k ∧ Hid (wr.ownsRow w.heap.size 3 1 (.slice (some ⟨w.heap.size, 0, none⟩) L.length L.length) L.length (ints (lefts (L.take k) ++ List.replicate (L.length - k) 0))) ∧ Hid (w.grownBy wr none))
    (fun _ _ i _ => L.length - (intOf i).toNat)
  case atStart => exact ⟨0, Nat.zero_le _, rfl, HO.out, HG.out⟩
  case round =>
    clear HO HG
    obtain ⟨k, hk, rfl, HO, HG⟩ := hrel
    by_cases hlt : k < L.length
    · obtain ⟨g, o, rfl, hcell⟩ := HC.out k hlt
      have hcell' : wr.cell? ⟨g, o + k, none⟩ = some (.int .i64 L[k]) := HG.out.cell hcell (by simp)
      have hsn : lefts (L.take (k + 1)) = lefts (L.take k) ++ [leftI L[k]] := by rw [List.take_succ_eq_append_getElem hlt]; unfold lefts; rw [List.map_append]; rfl
      have hset : (ints (lefts (L.take k) ++ List.replicate (L.length - k) 0)).set k (.int .i64 (leftI L[k])) = ints (lefts (L.take (k + 1)) ++ List.replicate (L.length - (k + 1)) 0) := by
        have hll : (lefts (L.take k)).length = k := by rw [lefts_length]; simp; omega
        rw [hsn, show L.length - k = (L.length - (k + 1)) + 1 from by omega, List.replicate_succ, ints_append, List.set_append_right _ _ (by rw [ints_length]; omega), ints_length, hll, Nat.sub_self]
        simp [ints]
      have hat : wr.cell? ⟨w.heap.size, k, none⟩ = some (.int .i64 0) := by
        rw [HO.out.cellAt k (by omega), ints_append, List.getElem?_append_right (by rw [ints_length, lefts_length]; simp; omega), ints_length, lefts_length]
        simp [ints, List.getElem?_replicate]
        omega
      have hf := HO.out.frozenAt k
      have HS := Lib.hid hset
      clear hset hsn hcell
      generalize L[k] = x at hcell' HS
      have b1 : (0 : Int) ≤ (k : Int) := by omega
      have b2 : (k : Int) < (L.length : Int) := by omega
      by_cases hx : 0 ≤ x ∧ x ≤ 15
      · obtain ⟨hx0, hx1⟩ := hx
        go_wp2_with fail
        go_roundw
        case rel =>
          refine ⟨k + 1, by omega, by go_num, ?_, grownBy_setNew HG.out (Nat.le_refl _) _ _⟩
          show World.ownsRow _ _ _ _ _ _ _
          rw [← HS.out, leftI_yes x hx0 hx1]
          exact (HO.out.stored _ _).1
        case measure => simp [intOf]; omega
      · have hno := leftI_no x hx
        rw [hno] at HS
        have hz : (ints (lefts (L.take k) ++ List.replicate (L.length - k) 0)).set k (.int .i64 0) = ints (lefts (L.take k) ++ List.replicate (L.length - k) 0) := by
          have h0 := HO.out.cellAt k (by omega)
          rw [hat] at h0
          apply List.ext_getElem?
          intro i
          rw [List.getElem?_set]
          split
          · next h => subst h; rw [← h0]; simp; exact (List.getElem?_eq_some_iff.1 h0.symm).1
          · rfl
        rw [hz] at HS
        clear hno hz hf hat
        by_cases hx0 : 0 ≤ x
        · have hx1 : ¬ x ≤ 15 := fun h => hx ⟨hx0, h⟩
          clear hx
          go_wp2_with fail
          go_roundw
          case rel =>
            refine ⟨k + 1, by omega, by go_num, ?_, HG.out⟩
            show World.ownsRow _ _ _ _ _ _ _
            rw [← HS.out]
            exact HO.out
          case measure => simp [intOf]; omega
        · clear hx
          go_wp2_with fail
          go_roundw
          case rel =>
            refine ⟨k + 1, by omega, by go_num, ?_, HG.out⟩
            show World.ownsRow _ _ _ _ _ _ _
            rw [← HS.out]
            exact HO.out
          case measure => simp [intOf]; omega
    · have : k = L.length := by omega
      subst this
      have hr := HO.out
      rw [Nat.sub_self, List.take_of_length_le (Nat.le_refl _), List.replicate_zero, List.append_nil] at hr
      have hi := ints_of_own hr
      have HI := Lib.hid hi
      clear hr hi HO
      go_wp2_with fail
      go_ret
      exact ⟨_, rfl, HI.out, HG.out⟩

def sixQ (n : Int) : Nat → Int | 0 => n | 1 => n / 16 | 2 => n / 16 / 16 | _ => n / 16 / 16 / 16
def sixR (n : Int) : Nat → List Int | 0 => [0, 0, 0] | 1 => [0, 0, n % 16] | 2 => [0, n / 16 % 16, n % 16] | _ => [n / 16 / 16 % 16, n / 16 % 16, n % 16]

set_option maxHeartbeats 800000 in
theorem inSixteens_any (n : Int) (h0 : 0 ≤ n) (h1 : n ≤ 4095) (w : World) :
    Calls Tryz.prog 129 #[.int .i64 n] w fun e w' => e = .returned (.agg #[.int .i64 (n / 256), .int .i64 (n / 16 % 16), .int .i64 (n % 16)]) ∧ Below w.heap.size w w' := by
  go_enter Tryz.func129, Tryz.ntmps129
  go_wp2_with fail
  go_loopw [0, 4, 5] (fun nv _ iv wr => ∃ k : Nat, k ≤ 3 ∧ iv = .int .i64 k ∧ nv = .int .i64 (sixQ n k) ∧ Hid (wr.heap[w.heap.size + 1]? = some (.cells (ints (sixR n k)).toArray 186 (0, 0))) ∧ Hid (wr.heap[w.heap.size]? = some (.cells (ints [0, 0, 0]).toArray 186 (0, 0))) ∧ Hid (w.grownBy wr none)) (fun _ _ iv _ => 3 - (intOf iv).toNat)
  case atStart =>
    refine ⟨0, Nat.zero_le _, rfl, rfl, ?_, ?_, grownBy_alloc' (grownBy_alloc' (World.grownBy.refl _ _) _) _⟩
    · show _ = _
      exact heap_alloc_at _ _ _ (by simp)
    · show _ = _
      rw [Below.heap_alloc _ _ _ (by simp)]
      exact heap_alloc_at _ _ _ rfl
  case round =>
    obtain ⟨k, hk, rfl, rfl, HC, HD, HG⟩ := hrel
    have hk4 : k = 0 ∨ k = 1 ∨ k = 2 ∨ k = 3 := by omega
    have c := cell_of HC.out
    have f := free_of HC.out
    rcases hk4 with rfl | rfl | rfl | rfl
    · have c2 := c 2
      have f2 := f 2
      clear c f
      simp [sixR, ints] at c2
      simp only [sixQ]
      go_wp2_with fail
      go_roundw
      case rel =>
        refine ⟨1, by omega, rfl, rfl, ?_, ?_, grownBy_setNew HG.out (by omega) _ _⟩
        · show _ = _
          rw [heap_setCell HC.out]
          rfl
        · show _ = _
          rw [heap_setCell_ne _ _ _ _ (by omega)]
          exact HD.out
      case measure => simp [intOf]
    · have c2 := c 1
      have f2 := f 1
      clear c f
      simp [sixR, ints] at c2
      simp only [sixQ]
      go_wp2_with fail
      go_roundw
      case rel =>
        refine ⟨2, by omega, rfl, rfl, ?_, ?_, grownBy_setNew HG.out (by omega) _ _⟩
        · show _ = _
          rw [heap_setCell HC.out]
          rfl
        · show _ = _
          rw [heap_setCell_ne _ _ _ _ (by omega)]
          exact HD.out
      case measure => simp [intOf]
    · have c2 := c 0
      have f2 := f 0
      clear c f
      simp [sixR, ints] at c2
      simp only [sixQ]
      go_wp2_with fail
      go_roundw
      case rel =>
        refine ⟨3, by omega, rfl, rfl, ?_, ?_, grownBy_setNew HG.out (by omega) _ _⟩
        · show _ = _
          rw [heap_setCell HC.out]
          rfl
        · show _ = _
          rw [heap_setCell_ne _ _ _ _ (by omega)]
          exact HD.out
      case measure => simp [intOf]
    · have d := cell_of HD.out
      have fd := free_of HD.out
      have c0 := c 0
      have c1 := c 1
      have c2 := c 2
      have d0 := d 0
      have d1 := d 1
      have d2 := d 2
      have f0 := fd 0
      have f1 := fd 1
      have f2 := fd 2
      clear c f d fd
      simp [sixR, ints] at c0 c1 c2 d0 d1 d2
      simp only [sixQ]
      go_wp2_with fail
      have e : n / 16 / 16 % 16 = n / 256 := by omega
      rw [e] at *
      have hW : (((wr.setCell ⟨w.heap.size, 0, none⟩ (.int .i64 (n / 256))).setCell ⟨w.heap.size, 1, none⟩ (.int .i64 (n / 16 % 16))).setCell ⟨w.heap.size, 2, none⟩ (.int .i64 (n % 16))).heap[w.heap.size]? = some (.cells (ints [n / 256, n / 16 % 16, n % 16]).toArray 186 (0, 0)) := by
        rw [heap_setCell (heap_setCell (heap_setCell HD.out 0 _) 1 _) 2 _]
        rfl
      refine bodyPost_ret (v := .agg (ints [n / 256, n / 16 % 16, n % 16]).toArray) (results_cell_row (p := 2) (ty := 186) (by kernel_rfl) _ _ w.heap.size 186 _ (0, 0) (.array 3 3) (by rfl) hW Tryz.underlying186 rfl (by kernel_rfl)) rfl ⟨rfl, ?_⟩
      exact below_grownBy (grownBy_setNew (grownBy_setNew (grownBy_setNew HG.out (Nat.le_refl _) _ _) (Nat.le_refl _) _ _) (Nat.le_refl _) _ _)
end Go.Proofs.YtemndmhdlgfajaaGreatDoor

namespace Go.Proofs.YtemndmhdlgfajaaGreatDoor
open Go.RowKit

theorem slice_two (B : Nat) (w : World) : (Instr.sliceAt 184 (.pointer (some ⟨B, 0, none⟩)) none none none).run Tryz.prog w = .ok (.slice (some ⟨B, 0, none⟩) 2 2) w := by
  have hl : Tryz.prog.arrayLen 184 = 2 := by kernel_rfl
  have he : Tryz.prog.elem 184 = 3 := by kernel_rfl
  obtain ⟨i0, h0⟩ : ∃ i0, Tryz.prog.info? 3 = some i0 := Option.isSome_iff_exists.1 (by kernel_rfl)
  have hc : Tryz.prog.cellsOf 3 = 1 := by kernel_rfl
  rw [run_sliceAt_array_all w 184 ⟨B, 0, none⟩ (by rw [hl, he]; exact Tryz.underlying184), hl, he, run_sizeOf w h0, hc]
  simp [Result.andThen, slicedAt, Addr.add]
theorem slice_three (B : Nat) (w : World) : (Instr.sliceAt 186 (.pointer (some ⟨B, 0, none⟩)) none none none).run Tryz.prog w = .ok (.slice (some ⟨B, 0, none⟩) 3 3) w := by
  have hl : Tryz.prog.arrayLen 186 = 3 := by kernel_rfl
  have he : Tryz.prog.elem 186 = 3 := by kernel_rfl
  obtain ⟨i0, h0⟩ : ∃ i0, Tryz.prog.info? 3 = some i0 := Option.isSome_iff_exists.1 (by kernel_rfl)
  have hc : Tryz.prog.cellsOf 3 = 1 := by kernel_rfl
  rw [run_sliceAt_array_all w 186 ⟨B, 0, none⟩ (by rw [hl, he]; exact Tryz.underlying186), hl, he, run_sizeOf w h0, hc]
  simp [Result.andThen, slicedAt, Addr.add]
theorem cells_new (w : World) (t : TypeId) (cs : List Value) : ∀ j u, cs[j]? = some u → (w.alloc (.cells cs.toArray t)).cell? ((⟨w.heap.size, 0, none⟩ : Addr).add j) = some u := by
  intro j u hj
  rw [show Addr.add ⟨w.heap.size, 0, none⟩ j = (⟨w.heap.size, j, none⟩ : Addr) from by simp [Addr.add]; omega, cell_of (heap_alloc_at w (.cells cs.toArray t) _ rfl)]
  simpa using hj
theorem ints_one (L : List Int) : ∀ u ∈ ints L, u.oneCell' = true := by
  intro u hu
  obtain ⟨x, _, rfl⟩ := List.mem_map.1 hu
  rfl

set_option maxHeartbeats 400000 in
theorem of_bad (s : ByteArray) (hs : s.size ≤ maxLen) (h : s.size ≠ 16) (w : World) :
    Calls Tryz.prog 99 #[.string s] w fun e w' => e = .returned (.tuple #[.slice none 0 0, .int .i64 1]) ∧ w = w' := by
  unfold maxLen at hs
  have hb : ((s.size : Int) != 16) = true := by simp; omega
  go_enter Tryz.func99, Tryz.ntmps99
  go_wp2
  go_ret2
  exact ⟨rfl, rfl⟩

set_option maxRecDepth 100000 in
set_option maxHeartbeats 800000 in
theorem of_ok (s : ByteArray) (h : s.size = 16) (w : World) :
    Calls Tryz.prog 99 #[.string s] w fun e w' => ∃ v, e = .returned (.tuple #[v, .int .i64 0]) ∧ IntsAt w' v (digs s.data.toList) ∧ w.grownBy w' none := by
  obtain ⟨i0, hi, hz0, hz1, hz2⟩ := info_parts infoIntD
  have hb : ((s.size : Int) != 16) = false := by simp; omega
  have H16 := Lib.hid h
  have hs1 : s.size ≤ 16 := by omega
  clear h
  go_enter Tryz.func99, Tryz.ntmps99
  go_wp2_with (at_make; refine wpList_make_own _ rfl _ _ 152 rfl w.heap.size 3 i0 (.int .i64 0) 1 Tryz.underlying152 hi hz0 hz1 _ _ _ 35 rfl rfl rfl ?c1 ?c2 ?c3 ?_)
  case c1 => rw [hz2]; omega
  case c2 => unfold maxLen; omega
  case c3 => omega
  intro w1 hown hg
  have HO := Lib.hid hown
  have HG := Lib.hid hg
  clear hown hg
  go_wp2_with fail
  go_loopw [4, 5, 6, 14] (fun lv _ _ iv wr => ∃ k : Nat, ∃ len : Nat, k ≤ 16 ∧ len = 2 * k ∧ iv = .int .i64 k ∧ lv = .slice (some ⟨w.heap.size, 0, none⟩) len 35 ∧ Hid (wr.ownsRow w.heap.size 3 1 (.slice (some ⟨w.heap.size, 0, none⟩) len 35) len (ints (digL (s.data.toList.take k)))) ∧ Hid (w.grownBy wr none)) (fun _ _ _ iv _ => 16 - (intOf iv).toNat)
  case atStart => exact ⟨0, 0, Nat.zero_le _, rfl, rfl, rfl, HO.out, HG.out⟩
  case round =>
    clear HO HG
    obtain ⟨k, len, hk, hlen, rfl, rfl, HO, HG⟩ := hrel
    by_cases hlt : k < 16
    · have hl35 : len + 2 ≤ 35 := by omega
      have HLN := Lib.hid hlen
      clear hlen
      have hks : k < s.size := by have := H16.out; omega
      have hsn := digL_take s k hks
      have b1 : (0 : Int) ≤ (k : Int) := by omega
      have b2 : (k : Int) < (s.size : Int) := by omega
      generalize hc : s[k] = c at hsn
      have HS := Lib.hid hsn
      have HCC := Lib.hid hc
      clear hsn hc
      have hbl := HO.out.lt w.heap.size rfl
      go_wp2_with fail
      rw [HCC.out]
      refine (halves_any c _).mono ?_
      rintro e w2 ⟨rfl, h2⟩
      have G2 := Lib.hid (grownBy_trans HG.out (grownBy_below h2))
      have HO2 := Lib.hid (own_kept HO.out (grownBy_below h2))
      clear h2 HO HG HCC
      have hsl := slice_two w2.heap.size
      go_wp2_with (refine wpList_append_fits _ rfl _ _ 152 rfl w.heap.size 3 i0 1 Tryz.underlying152 hi hz1 w.heap.size len 35 _ rfl (HO2.out.alloc _) ⟨w2.heap.size, 0, none⟩ 2 2 (ints [(c.toNat : Int) / 16, (c.toNat : Int) % 16]) rfl rfl ?q1 ?q2 ?q3 ?_)
      case q1 => exact cells_new w2 _ (ints [(c.toNat : Int) / 16, (c.toNat : Int) % 16])
      case q2 => exact ints_one _
      case q3 => omega
      intro w3 hown3 hg3
      have HO3 := Lib.hid hown3
      have HG3 : Hid (w.grownBy w3 none) := grownBy_below (((below_grownBy G2.out).alloc G2.out.size _).grown hg3 (by have := G2.out.size; simp; omega) (by intro r hr; cases hr; exact Nat.le_refl _))
      clear hown3 hg3 HO2 G2
      go_wp2_with fail
      go_roundw
      case rel =>
        refine ⟨k + 1, len + 2, by omega, by have := HLN.out; omega, by go_num, rfl, ?_, HG3.out⟩
        show World.ownsRow _ _ _ _ _ _ _
        rw [HS.out, ints_append]
        exact HO3.out
      case measure => simp [intOf]; omega
    · have : k = 16 := by omega
      subst this
      obtain rfl : len = 32 := by omega
      have hl16 : s.data.toList.length = 16 := H16.out
      have ho := HO.out
      rw [List.take_of_length_le (by omega)] at ho
      have hin := ints_of_own ho
      have hb1 := sum_lefts_bd s.data.toList
      have hb2 := lefts_bd (digL s.data.toList)
      have hb3 : (digL s.data.toList).length = 32 := by rw [digL_length]; omega
      have hD : digs s.data.toList = digL s.data.toList ++ chk (sumI (lefts (digL s.data.toList))) := rfl
      rw [hl16] at hb1
      have HO2 := Lib.hid ho
      have HI := Lib.hid hin
      have HB := Lib.hid (And.intro hb2 hb3)
      have HD := Lib.hid hD
      clear ho hin HO hb2 hb3 hD hl16
      generalize digL s.data.toList = L at hb1 HO2 HI HB HD
      have hbl := HO2.out.lt w.heap.size rfl
      go_wp2_with fail
      refine (left_any _ L _ HI.out (by rw [HB.out.2]; omega)).mono ?_
      rintro e w2 ⟨v2, rfl, h2, g2⟩
      have HI2 := Lib.hid h2
      have HO3 := Lib.hid (own_kept HO2.out g2)
      have HG3 := Lib.hid (grownBy_trans HG.out g2)
      clear h2 g2 HO2 HI HG
      go_wp2_with fail
      refine (dsum_any _ _ _ HI2.out HB.out.1 (by rw [lefts_length, HB.out.2]; omega)).mono ?_
      rintro e w' ⟨rfl, rfl⟩
      obtain ⟨n, hn⟩ : ∃ n, sumI (lefts L) = n := ⟨_, rfl⟩
      rw [hn] at hb1 HD ⊢
      clear hn
      go_wp2_with fail
      refine (inSixteens_any n hb1.1 (by omega) _).mono ?_
      rintro e w4 ⟨rfl, h4⟩
      have HO4 := Lib.hid (own_kept HO3.out (grownBy_below h4))
      have HG4 := Lib.hid (grownBy_trans HG3.out (grownBy_below h4))
      clear h4 HO3 HG3
      have hsl := slice_three w4.heap.size
      go_wp2_with (refine wpList_append_fits _ rfl _ _ 152 rfl w.heap.size 3 i0 1 Tryz.underlying152 hi hz1 w.heap.size 32 35 _ rfl (HO4.out.alloc _) ⟨w4.heap.size, 0, none⟩ 3 3 (ints (chk n)) rfl rfl ?r1 ?r2 ?r3 ?_)
      case r1 => exact cells_new w4 _ (ints (chk n))
      case r2 => exact ints_one _
      case r3 => omega
      intro w5 hown5 hg5
      have HG5 : Hid (w.grownBy w5 none) := grownBy_below (((below_grownBy HG4.out).alloc HG4.out.size _).grown hg5 (by have := HG4.out.size; simp; omega) (by intro r hr; cases hr; exact Nat.le_refl _))
      rw [← ints_append, ← HD.out] at hown5
      have HI5 := Lib.hid (ints_of_own hown5)
      clear hown5 hg5 HO4 HG4
      go_wp2_with fail
      go_ret2
      exact ⟨.slice (some ⟨w.heap.size, 0, none⟩) 35 35, rfl, HI5.out, HG5.out⟩
end Go.Proofs.YtemndmhdlgfajaaGreatDoor

namespace Go.Proofs.YtemndmhdlgfajaaGreatDoor
open Go.RowKit
attribute [local irreducible] shaL

theorem place_bytes (n c k : Nat) (hc : c < 256) (hk : k < 256) : [Value.int .u8 ((n : Int) / 16777216 % 256), .int .u8 ((n : Int) / 65536 % 256), .int .u8 ((n : Int) / 256 % 256), .int .u8 ((n : Int) % 256), .int .u8 (c : Int), .int .u8 (k : Int)] = u8s (placeL n c k) := by
  have h := four_bytes n
  have e : u8s (placeL n c k) = u8s (be n 4) ++ u8s [UInt8.ofNat c, UInt8.ofNat k] := by simp [placeL, u8s]
  rw [e, ← h]
  have e1 : (UInt8.ofNat c).toNat = c := by simp; omega
  have e2 : (UInt8.ofNat k).toNat = k := by simp; omega
  simp [u8s, e1, e2]

set_option maxHeartbeats 400000 in
set_option maxRecDepth 100000 in
theorem place_any (leaf chain step : Nat) (c k : Int) (hl : leaf ≤ 4294967295) (hc : chain < 256) (hk : step < 256) (ec : (chain : Int) = c) (ek : (step : Int) = k) (w : World) :
    Calls Tryz.prog 126 #[.int .i64 leaf, .int .i64 c, .int .i64 k] w fun e w' => e = .returned (.string (placeS leaf chain step)) ∧ w.grownBy w' none := by
  subst ec
  subst ek
  have b1 : (leaf : Int) / 16777216 < 256 := by omega
  have b2 : (chain : Int) < 256 := by omega
  have b3 : (step : Int) < 256 := by omega
  have hcv := row_string_w w _ (placeL leaf chain step) (place_bytes leaf chain step hc hk)
  rw [show (placeL leaf chain step).length = 6 from placeS_size leaf chain step, show (leaf : Int) / 16777216 % 256 = (leaf : Int) / 16777216 from by omega] at hcv
  have HP := Lib.hid (show str (placeL leaf chain step) = placeS leaf chain step from rfl)
  rw [HP.out] at hcv
  generalize placeS leaf chain step = S at hcv ⊢
  clear HP
  go_enter Tryz.func126, Tryz.ntmps126
  go_wp2_with fail
  go_ret
  exact ⟨rfl, World.grownBy_alloc _ _ _⟩

set_option maxHeartbeats 400000 in
set_option maxRecDepth 100000 in
theorem wopen_any (seed : ByteArray) (hs : seed.size ≤ 1000000000000) (w : World) (hr : ShaReady w) :
    Calls Tryz.prog 34 #[.string seed] w fun e w' => e = .returned (.string (openS seed)) ∧ w.grownBy w' none := by
  have HR := Lib.hid hr
  have ht := Lib.hid (tagged_new w 3 [seed] _ 1 3 rfl rfl rfl hr (by simp) (by simpa using hs))
  clear hr
  go_enter Tryz.func34, Tryz.ntmps34
  go_wp2_with fail
  refine ht.out.mono ?_
  rintro e w1 ⟨rfl, g1⟩
  have G1 := Lib.hid g1
  clear g1
  go_wp2_with fail
  go_ret
  exact ⟨rfl, G1.out⟩

set_option maxHeartbeats 400000 in
set_option maxRecDepth 100000 in
theorem secret_any (seed : ByteArray) (leaf chain : Nat) (hs : seed.size ≤ 1000000000000) (hl : leaf ≤ 4294967295) (hc : chain < 256) (w : World) (hr : ShaReady w) :
    Calls Tryz.prog 80 #[.string seed, .int .i64 leaf, .int .i64 chain] w fun e w' => e = .returned (.string (secretS seed leaf chain)) ∧ w.grownBy w' none := by
  have HR := Lib.hid hr
  have hp := Lib.hid (place_any leaf chain 0 chain 0 hl hc (by decide) rfl rfl w)
  clear hr
  go_enter Tryz.func80, Tryz.ntmps80
  go_wp2_with fail
  refine hp.out.mono ?_
  rintro e w1 ⟨rfl, g1⟩
  have G1 := Lib.hid g1
  clear g1
  have ht := Lib.hid (tagged_new w1 1 [seed, placeS leaf chain 0] _ 2 1 rfl rfl rfl (HR.out.grown G1.out) (by simp) (by
    intro s hs'
    simp at hs'
    rcases hs' with rfl | rfl
    · exact hs
    · rw [placeS_size]; omega))
  go_wp2_with fail
  refine ht.out.mono ?_
  rintro e w2 ⟨rfl, g2⟩
  have G2 := Lib.hid (grownBy_trans G1.out g2)
  clear g2
  go_wp2_with fail
  go_ret
  exact ⟨rfl, G2.out⟩

set_option maxHeartbeats 400000 in
set_option maxRecDepth 100000 in
theorem wwalk_any (o x : ByteArray) (leaf chain : Nat) (a b : Int) (ho : o.size ≤ 1000000000000) (hx : x.size ≤ 1000000000000) (hl : leaf ≤ 4294967295) (hc : chain < 256) (ha : -9223372036854775808 ≤ a ∧ a ≤ 9223372036854775807) (hb : -9223372036854775808 ≤ b ∧ b ≤ 9223372036854775807) (w : World) (hr : ShaReady w) :
    Calls Tryz.prog 79 #[.string o, .int .i64 leaf, .int .i64 chain, .int .i64 a, .int .i64 b, .string x] w fun e w' => e = .returned (.string (walkZ o leaf chain a b x)) ∧ w.grownBy w' none := by
  have HR := Lib.hid hr
  clear hr
  obtain ⟨p, hp⟩ : ∃ p : Nat, (max a 0).toNat = p := ⟨_, rfl⟩
  have HS := Lib.hid (fun n => walkS_size o leaf chain p n x 1000000000000 hx (by decide))
  have hpa : ((p : Nat) : Int) = max a 0 := by omega
  have HW : Hid (walkZ o leaf chain a b x = walkS o leaf chain p (min b 15 - p).toNat x) := by
    show _ = _
    unfold walkZ
    rw [hp, ← hpa]
  clear hp
  have HP := Lib.hid hpa
  clear hpa
  go_enter Tryz.func79, Tryz.ntmps79
  go_upto_region 1 with (fail)
  go_cut [13] (fun iv wx => iv = .int .i64 p ∧ w = wx)
  case first =>
    by_cases ha0 : 0 ≤ a
    · have e : a = p := by have := HP.out; omega
      subst e
      go_wp2
      all_goals
        go_meet
        case rel => exact ⟨by first | rfl | (congr 1; omega), rfl⟩
    · have e : p = 0 := by have := HP.out; omega
      subst e
      go_wp2
      all_goals
        go_meet
        case rel => exact ⟨by first | rfl | (congr 1; omega), rfl⟩
  case rest =>
    obtain ⟨rfl, rfl⟩ := hcut
    by_cases hb15 : b ≤ 15
    · go_wp2_with fail
      go_loopw [5, 13] (fun xv iv wr => ∃ k : Nat, ∃ y : ByteArray, p ≤ k ∧ (k = p ∨ k ≤ 15) ∧ (k = p ∨ (k : Int) ≤ b) ∧ iv = .int .i64 k ∧ xv = .string y ∧ Hid (y = walkS o leaf chain p (k - p) x) ∧ Hid (w.grownBy wr none)) (fun _ iv _ => (b - intOf iv).toNat)
      case atStart => exact ⟨p, x, Nat.le_refl _, .inl rfl, .inl rfl, rfl, rfl, by show _ = _; rw [Nat.sub_self]; rfl, World.grownBy.refl _ _⟩
      case round =>
        obtain ⟨k, y, hk, hk15, hkb, rfl, rfl, HY, HG⟩ := hrel
        by_cases hlt : (k : Int) < b
        · have hk2 : k < 15 := by omega
          have hys : y.size ≤ 1000000000000 := by rw [HY.out]; exact HS.out _
          have hpl := Lib.hid (place_any leaf chain k chain k hl hc (by omega) rfl rfl wr)
          clear hk15 hkb
          go_wp2_with fail
          refine hpl.out.mono ?_
          rintro e w1 ⟨rfl, g1⟩
          have G1 := Lib.hid (grownBy_trans HG.out g1)
          clear g1
          have ht := Lib.hid (tagged_new w1 2 [o, placeS leaf chain k, y] _ 3 2 rfl rfl rfl (HR.out.grown G1.out) (by simp) (by
            intro s hs'
            simp at hs'
            rcases hs' with rfl | rfl | rfl
            · exact ho
            · rw [placeS_size]; omega
            · exact hys))
          go_wp2_with fail
          refine ht.out.mono ?_
          rintro e w2 ⟨rfl, g2⟩
          have G2 := Lib.hid (grownBy_trans G1.out g2)
          clear g2
          go_wp2_with fail
          go_roundw
          case rel =>
            refine ⟨k + 1, _, by omega, by omega, by omega, by go_num, rfl, ?_, G2.out⟩
            show _ = _
            rw [show k + 1 - p = (k - p) + 1 from by omega, walkS_succ, ← HY.out, show p + (k - p) = k from by omega]
            rfl
          case measure => simp [intOf]; omega
        · have HF : Hid (y = walkZ o leaf chain a b x) := by
            show _ = _
            rw [HW.out, HY.out]
            congr 1
            have := HP.out
            omega
          clear hk15 hkb
          go_wp2_with fail
          go_ret
          exact ⟨by rw [HF.out]; rfl, HG.out⟩
    · go_wp2_with fail
      go_loopw [5, 13] (fun xv iv wr => ∃ k : Nat, ∃ y : ByteArray, p ≤ k ∧ (k = p ∨ k ≤ 15) ∧ (k = p ∨ (k : Int) ≤ 15) ∧ iv = .int .i64 k ∧ xv = .string y ∧ Hid (y = walkS o leaf chain p (k - p) x) ∧ Hid (w.grownBy wr none)) (fun _ iv _ => (15 - intOf iv).toNat)
      case atStart => exact ⟨p, x, Nat.le_refl _, .inl rfl, .inl rfl, rfl, rfl, by show _ = _; rw [Nat.sub_self]; rfl, World.grownBy.refl _ _⟩
      case round =>
        obtain ⟨k, y, hk, hk15, hkb, rfl, rfl, HY, HG⟩ := hrel
        by_cases hlt : (k : Int) < 15
        · have hk2 : k < 15 := by omega
          have hys : y.size ≤ 1000000000000 := by rw [HY.out]; exact HS.out _
          have hpl := Lib.hid (place_any leaf chain k chain k hl hc (by omega) rfl rfl wr)
          clear hk15 hkb
          go_wp2_with fail
          refine hpl.out.mono ?_
          rintro e w1 ⟨rfl, g1⟩
          have G1 := Lib.hid (grownBy_trans HG.out g1)
          clear g1
          have ht := Lib.hid (tagged_new w1 2 [o, placeS leaf chain k, y] _ 3 2 rfl rfl rfl (HR.out.grown G1.out) (by simp) (by
            intro s hs'
            simp at hs'
            rcases hs' with rfl | rfl | rfl
            · exact ho
            · rw [placeS_size]; omega
            · exact hys))
          go_wp2_with fail
          refine ht.out.mono ?_
          rintro e w2 ⟨rfl, g2⟩
          have G2 := Lib.hid (grownBy_trans G1.out g2)
          clear g2
          go_wp2_with fail
          go_roundw
          case rel =>
            refine ⟨k + 1, _, by omega, by omega, by omega, by go_num, rfl, ?_, G2.out⟩
            show _ = _
            rw [show k + 1 - p = (k - p) + 1 from by omega, walkS_succ, ← HY.out, show p + (k - p) = k from by omega]
            rfl
          case measure => simp [intOf]; omega
        · have HF : Hid (y = walkZ o leaf chain a b x) := by
            show _ = _
            rw [HW.out, HY.out]
            congr 1
            have := HP.out
            omega
          clear hk15 hkb
          go_wp2_with fail
          go_ret
          exact ⟨by rw [HF.out]; rfl, HG.out⟩
end Go.Proofs.YtemndmhdlgfajaaGreatDoor

namespace Go.Proofs.YtemndmhdlgfajaaGreatDoor
open Go.RowKit
attribute [local irreducible] shaL

set_option maxHeartbeats 800000 in
set_option maxRecDepth 100000 in
theorem publicOf_any (o : ByteArray) (leaf : Nat) (v : Value) (L : List ByteArray) (ho : o.size ≤ 1000000000000) (hl : leaf ≤ 4294967295) (hN : L.length ≤ 900) (hN0 : 0 < L.length) (hs : ∀ s ∈ L, s.size ≤ 1000000000000) (w : World) (hv : StrsAt w v L) (hr : ShaReady w) :
    Calls Tryz.prog 81 #[.string o, .int .i64 leaf, v] w fun e w' => e = .returned (.string (publicOfS o leaf L)) ∧ w.grownBy w' none := by
  obtain ⟨i0, hi, hz0, hz1, hz2⟩ := info_parts infoStrW
  have HR := Lib.hid hr
  have HV := Lib.hid hv
  have hp := Lib.hid (place_any leaf 0 0 0 0 hl (by decide) (by decide) rfl rfl w)
  obtain ⟨a, cap, rfl⟩ := hv.form
  obtain ⟨g, oo, rfl, -⟩ := hv.at_ 0 _ (List.getElem?_eq_getElem hN0)
  have HSZ := Lib.hid hs
  clear hr hv hs
  go_enter Tryz.func81, Tryz.ntmps81
  go_wp2_with fail
  refine hp.out.mono ?_
  rintro e w1 ⟨rfl, g1⟩
  have G1 := Lib.hid g1
  clear g1
  have ho2 : Hid ((w1.alloc (.cells #[.string o, .string (placeS leaf 0 0)] 9)).ownsRow w.heap.size 9 1 (.slice (some ⟨w1.heap.size, 0, none⟩) 2 2) 2 [.string o, .string (placeS leaf 0 0)]) :=
    World.ownsRow_lit w1 #[.string o, .string (placeS leaf 0 0)] 2 G1.out.size (by unfold maxLen; omega) rfl
  have HV2 := Lib.hid ((HV.out.grown G1.out).grown (World.grownBy_alloc _ (.cells #[.string o, .string (placeS leaf 0 0)] 9) none))
  go_wp2_with (at_builtin; refine wpList_append_own _ rfl _ _ 35 rfl w.heap.size 9 i0 (.string ⟨#[]⟩) 1 16 Tryz.underlying35 hi hz0 hz1 hz2 rfl (by decide) _ _ _ rfl ho2.out ⟨g, oo, none⟩ L.length cap (strsV L) rfl (by rw [strsV_length, Nat.mul_one]) ?q1 ?q2 ?q3 ?q4 ?q5 ?_)
  case q1 => exact HV2.out.news
  case q2 => exact strsV_one L
  case q3 => unfold maxLen; omega
  case q4 => omega
  case q5 => have := G1.out.size; simp; omega
  intro v' w2 hown2 hg2 _
  obtain ⟨a', cap', rfl⟩ := slice_own' hown2
  have HG2 : Hid (w.grownBy w2 none) := grownBy_below (((below_grownBy G1.out).alloc G1.out.size _).grown hg2 (by have := G1.out.size; simp; omega) (fun r hr => by cases hr; exact G1.out.size))
  have HS2 : Hid (StrsAt w2 (.slice a' (2 + L.length) cap') ([o, placeS leaf 0 0] ++ L)) := strs_own (n := 2 + L.length) (by simpa [strsV] using hown2)
  clear hown2 hg2 ho2 HV2 G1
  have hn2 : ([o, placeS leaf 0 0] ++ L).length = 2 + L.length := by simp; omega
  have hall : ∀ s ∈ [o, placeS leaf 0 0] ++ L, s.size ≤ 1000000000000 := by
    intro s hs'
    simp only [List.cons_append, List.nil_append, List.mem_cons] at hs'
    rcases hs' with rfl | rfl | h
    · exact ho
    · rw [placeS_size]; omega
    · exact HSZ.out s h
  have hlen : (tagB 4 ([o, placeS leaf 0 0] ++ L)).length ≤ 100000000000000000 := by
    have h1 := tagB_length 4 _ _ hall
    have h2 : ([o, placeS leaf 0 0] ++ L).length * (4 + 1000000000000) ≤ 1000 * (4 + 1000000000000) := Nat.mul_le_mul_right _ (by rw [hn2]; omega)
    omega
  have ht := Lib.hid (tagged_any w2 4 _ _ HS2.out (HR.out.grown HG2.out) (by rw [hn2]; unfold maxLen; omega) hlen)
  clear hn2 hall hlen
  go_wp2_with fail
  refine ht.out.mono ?_
  rintro e w3 ⟨rfl, g3⟩
  have G3 := Lib.hid (grownBy_trans HG2.out g3)
  clear g3
  go_wp2_with fail
  go_ret
  exact ⟨rfl, G3.out⟩

set_option maxHeartbeats 800000 in
set_option maxRecDepth 100000 in
theorem wpublic_any (seed : ByteArray) (leaf : Nat) (hs : seed.size ≤ 1000000000000) (hl : leaf ≤ 4294967295) (w : World) (hr : ShaReady w) :
    Calls Tryz.prog 32 #[.string seed, .int .i64 leaf] w fun e w' => e = .returned (.string (publicS seed leaf)) ∧ w.grownBy w' none := by
  obtain ⟨i0, hi, hz0, hz1, hz2⟩ := info_parts infoStrW
  have HR := Lib.hid hr
  have hop := Lib.hid (wopen_any seed hs w hr)
  have hosz := openS_size seed
  clear hr
  have HPD : Hid (publicS seed leaf = publicOfS (openS seed) leaf (endsS seed leaf 35)) := rfl
  obtain ⟨o, hO⟩ : ∃ o, openS seed = o := ⟨_, rfl⟩
  rw [hO] at hosz hop HPD
  have HO := Lib.hid hO
  clear hO
  go_enter Tryz.func32, Tryz.ntmps32
  go_wp2_with fail
  refine hop.out.mono ?_
  rintro e w1 ⟨rfl, g1⟩
  have G1 := Lib.hid g1
  clear g1
  go_wp2_with (at_make; refine wpList_make_full _ rfl _ _ 35 rfl w.heap.size 9 i0 (.string ⟨#[]⟩) 1 Tryz.underlying35 hi hz0 hz1 _ _ _ _ 35 rfl rfl rfl rfl ?c1 ?c2 ?c3 ?_)
  case c1 => rw [hz2]; omega
  case c2 => unfold maxLen; omega
  case c3 => exact G1.out.size
  intro w2 hown hg
  have hm : (madeCells #[Value.string ⟨#[]⟩] 35).toList = strsV (fillS (endsS seed leaf 0) 35) := made_strs 35
  rw [hm] at hown
  have HO2 := Lib.hid hown
  have G2 := Lib.hid (grownBy_trans G1.out hg)
  have hB1 := G1.out.size
  clear hown hg hm G1
  obtain ⟨B, hB⟩ : ∃ B, w1.heap.size = B := ⟨_, rfl⟩
  rw [hB] at HO2 hB1 ⊢
  clear hB hop
  go_wp2_with fail
  go_loopw [7, 13] (fun _ iv wr => ∃ k : Nat, k ≤ 35 ∧ iv = .int .i64 k ∧ Hid (wr.ownsRow w.heap.size 9 1 (.slice (some ⟨B, 0, none⟩) 35 35) 35 (strsV (fillS (endsS seed leaf k) 35))) ∧ Hid (w.grownBy wr none)) (fun _ iv _ => 35 - (intOf iv).toNat)
  case atStart => exact ⟨0, by omega, rfl, HO2.out, G2.out⟩
  case round =>
    clear HO2 G2
    obtain ⟨k, hk, rfl, HK, HG⟩ := hrel
    by_cases hlt : k < 35
    · have hsec := Lib.hid (secret_any seed leaf k hs hl (by omega) wr (HR.out.grown HG.out))
      have b1 : (0 : Int) ≤ (k : Int) := by omega
      go_wp2_with fail
      refine hsec.out.mono ?_
      rintro e w3 ⟨rfl, g3⟩
      have G3 := Lib.hid (grownBy_trans HG.out g3)
      have HK3 := Lib.hid (own_kept HK.out g3)
      clear g3 HK hsec HG
      have hwk := Lib.hid (wwalk_any o (secretS seed leaf k) leaf k 0 15 (by rw [hosz]; omega) (by rw [secretS_size]; omega) hl (by omega) (by omega) (by omega) w3 (HR.out.grown G3.out))
      go_wp2_with fail
      refine hwk.out.mono ?_
      rintro e w4 ⟨rfl, g4⟩
      have G4 := Lib.hid (grownBy_trans G3.out g4)
      have HK4 := Lib.hid (own_kept HK3.out g4)
      clear g4 HK3 hwk G3
      have hel := endsS_length seed leaf k
      have hc := HK4.out.cellAt k (by omega)
      have hat := fillS_at (endsS seed leaf k) 35 (by omega)
      have hput := fillS_put (endsS seed leaf k) 35 (walkZ o leaf k 0 15 (secretS seed leaf k)) (by omega)
      rw [hel] at hat hput
      rw [hat] at hc
      have hf := HK4.out.frozenAt k
      have HP := Lib.hid hput
      have HE : Hid (endsS seed leaf (k + 1) = endsS seed leaf k ++ [walkZ o leaf k 0 15 (secretS seed leaf k)]) := by
        show _ = _
        rw [endsS, HO.out]
        rfl
      clear hat hput hel
      generalize walkZ o leaf k 0 15 (secretS seed leaf k) = S at HP HE ⊢
      go_wp2_with fail
      go_roundw
      case rel =>
        refine ⟨k + 1, by omega, by go_num, ?_, grownBy_setNew G4.out hB1 _ _⟩
        show World.ownsRow _ _ _ _ _ _ _
        rw [HE.out, ← HP.out]
        exact (HK4.out.stored _ _).1
      case measure => simp [intOf]; omega
    · have : k = 35 := by omega
      subst this
      have hown := HK.out
      rw [fillS_full _ 35 (endsS_length seed leaf 35)] at hown
      have hst := strs_own hown
      have hpo := Lib.hid (publicOf_any o leaf _ (endsS seed leaf 35) (by rw [hosz]; omega) hl (by rw [endsS_length]; omega) (by rw [endsS_length]; omega) (fun s h => by rw [endsS_all seed leaf 35 s h]; omega) wr hst (HR.out.grown HG.out))
      clear hown hst HK
      go_wp2_with fail
      refine hpo.out.mono ?_
      rintro e w3 ⟨rfl, g3⟩
      have G3 := Lib.hid (grownBy_trans HG.out g3)
      clear g3
      rw [← HPD.out]
      go_wp2_with fail
      go_ret
      exact ⟨rfl, G3.out⟩
end Go.Proofs.YtemndmhdlgfajaaGreatDoor

namespace Go.Proofs.YtemndmhdlgfajaaGreatDoor
open Go.RowKit

theorem wrap_i64_nat (n : Nat) (h : n < 9223372036854775808) : IntKind.i64.wrap (n : Int) = (n : Int) := by
  simp only [IntKind.wrap, IntKind.bits, IntKind.signed, IntKind.min, IntKind.max]; simp; omega
theorem bits_and_i64_nat (a b : Nat) (ha : a < 9223372036854775808) (hb : b < 9223372036854775808) :
    bits .and .i64 (a : Int) (b : Int) = ((a &&& b : Nat) : Int) := by
  have hx : a &&& b < 2 ^ 63 := Nat.and_lt_two_pow _ (by omega)
  have h1 : (BitVec.ofInt 64 (a : Int)).toNat = a := by
    rw [BitVec.ofInt_natCast, BitVec.toNat_ofNat]; exact Nat.mod_eq_of_lt (by omega)
  have h2 : (BitVec.ofInt 64 (b : Int)).toNat = b := by
    rw [BitVec.ofInt_natCast, BitVec.toNat_ofNat]; exact Nat.mod_eq_of_lt (by omega)
  show IntKind.i64.wrap ((BitVec.ofInt 64 (a : Int) &&& BitVec.ofInt 64 (b : Int)).toNat : Int) = _
  rw [BitVec.toNat_and, h1, h2, wrap_i64_nat _ (by omega)]
theorem bits_or_i64_nat (a b : Nat) (ha : a < 9223372036854775808) (hb : b < 9223372036854775808) :
    bits .or .i64 (a : Int) (b : Int) = ((a ||| b : Nat) : Int) := by
  have hx : a ||| b < 2 ^ 63 := Nat.or_lt_two_pow (by omega) (by omega)
  have h1 : (BitVec.ofInt 64 (a : Int)).toNat = a := by
    rw [BitVec.ofInt_natCast, BitVec.toNat_ofNat]; exact Nat.mod_eq_of_lt (by omega)
  have h2 : (BitVec.ofInt 64 (b : Int)).toNat = b := by
    rw [BitVec.ofInt_natCast, BitVec.toNat_ofNat]; exact Nat.mod_eq_of_lt (by omega)
  show IntKind.i64.wrap ((BitVec.ofInt 64 (a : Int) ||| BitVec.ofInt 64 (b : Int)).toNat : Int) = _
  rw [BitVec.toNat_or, h1, h2, wrap_i64_nat _ (by omega)]
theorem bits_xor_i64_nat (a b : Nat) (ha : a < 9223372036854775808) (hb : b < 9223372036854775808) :
    bits .xor .i64 (a : Int) (b : Int) = ((a ^^^ b : Nat) : Int) := by
  have hx : a ^^^ b < 2 ^ 63 := Nat.xor_lt_two_pow (by omega) (by omega)
  have h1 : (BitVec.ofInt 64 (a : Int)).toNat = a := by
    rw [BitVec.ofInt_natCast, BitVec.toNat_ofNat]; exact Nat.mod_eq_of_lt (by omega)
  have h2 : (BitVec.ofInt 64 (b : Int)).toNat = b := by
    rw [BitVec.ofInt_natCast, BitVec.toNat_ofNat]; exact Nat.mod_eq_of_lt (by omega)
  show IntKind.i64.wrap ((BitVec.ofInt 64 (a : Int) ^^^ BitVec.ofInt 64 (b : Int)).toNat : Int) = _
  rw [BitVec.toNat_xor, h1, h2, wrap_i64_nat _ (by omega)]
theorem and_one_i64 (m : Nat) (h : m < 9223372036854775808) : bits .and .i64 (m : Int) 1 = ((m % 2 : Nat) : Int) := by
  have := bits_and_i64_nat m 1 h (by decide)
  rw [Nat.and_one_is_mod] at this
  exact this
end Go.Proofs.YtemndmhdlgfajaaGreatDoor

namespace Go.Proofs.YtemndmhdlgfajaaGreatDoor
open Go.RowKit
attribute [local irreducible] shaL

set_option maxHeartbeats 400000 in
set_option maxRecDepth 100000 in
theorem node_any (a b : ByteArray) (ha : a.size ≤ 1000000000000) (hb : b.size ≤ 1000000000000) (w : World) (hr : ShaReady w) :
    Calls Tryz.prog 102 #[.string a, .string b] w fun e w' => e = .returned (.string (nodeS a b)) ∧ w.grownBy w' none := by
  have ht := Lib.hid (tagged_new w 5 [a, b] _ 2 5 rfl rfl rfl hr (by simp) (by
    intro s hs'
    simp at hs'
    rcases hs' with rfl | rfl <;> assumption))
  clear hr
  go_enter Tryz.func102, Tryz.ntmps102
  go_wp2_with fail
  refine ht.out.mono ?_
  rintro e w1 ⟨rfl, g1⟩
  have G1 := Lib.hid g1
  clear g1
  go_wp2_with fail
  go_ret
  exact ⟨rfl, G1.out⟩

def treeB (n : Nat) : Bool := decide (n ∈ [1, 2, 4, 8, 16, 32, 64])
theorem undrew {w w' : World} {row : Option Nat} (g : w.drew.grownBy w' row) : w.grownBy w' row := ⟨g.os, g.tape, g.output, g.size, g.block⟩
theorem cell_ne {w : World} {g o b j : Nat} {v u : Value} (hg : b ≠ g) (h : w.cell? ⟨g, o, none⟩ = some v) : (w.setCell ⟨b, j, none⟩ u).cell? ⟨g, o, none⟩ = some v := by
  rw [← h]
  simp only [World.cell?, heap_setCell_ne w b j u hg]
theorem tree_all : ((List.range 65).all fun k => (k == 0) || ((bits .and .i64 (k : Int) ((k : Int) - 1) == 0) == treeB k)) = true := by decide +kernel
theorem tree_and (n : Nat) (h0 : 0 < n) (h : n ≤ 64) : (bits .and .i64 (n : Int) ((n : Int) - 1) == 0) = treeB n := by
  have := List.all_eq_true.1 tree_all n (List.mem_range.2 (by omega))
  rw [Bool.or_eq_true] at this
  rcases this with e | e
  · simp at e; omega
  · exact eq_of_beq e
theorem tree_gt (n : Nat) (h : ¬ n ≤ 64) : treeB n = false := by
  unfold treeB
  simp
  omega

set_option maxHeartbeats 400000 in
set_option maxRecDepth 100000 in
theorem isTree_any (w : World) (a : Option Addr) (n cap : Nat) :
    Calls Tryz.prog 82 #[.slice a n cap] w fun e w' => e = .returned (.bool (treeB n)) ∧ w = w' := by
  by_cases h0 : 0 < n
  · by_cases h64 : n ≤ 64
    · have e := tree_and n h0 h64
      have h0' : (0 : Int) < (n : Int) := by omega
      have h64' : (n : Int) ≤ 64 := by omega
      go_enter Tryz.func82, Tryz.ntmps82
      go_wp2_with fail
      go_ret
      exact ⟨rfl, rfl⟩
    · have e := tree_gt n h64
      have h0' : (0 : Int) < (n : Int) := by omega
      have h64' : ¬ (n : Int) ≤ 64 := by omega
      go_enter Tryz.func82, Tryz.ntmps82
      go_wp2_with fail
      go_ret
      exact ⟨rfl, rfl⟩
  · obtain rfl : n = 0 := by omega
    go_enter Tryz.func82, Tryz.ntmps82
    go_wp2_with fail
    go_ret
    exact ⟨rfl, rfl⟩

set_option maxHeartbeats 400000 in
set_option maxRecDepth 100000 in
theorem isBehind_any (w : World) (i k : Nat) (hi : i < 4294967296) (hk : k < 63) :
    Calls Tryz.prog 101 #[.int .i64 i, .int .i64 k] w fun e w' => e = .returned (.bool (i / 2 ^ k % 2 == 1)) ∧ w = w' := by
  have b1 : (0 : Int) ≤ (k : Int) := by omega
  have b2 : (k : Int) < 64 := by omega
  have e : (bits .and .i64 ((i : Int) / 2 ^ k) 1 == 1) = (i / 2 ^ k % 2 == 1) := by
    have h1 : i / 2 ^ k < 9223372036854775808 := Nat.lt_of_le_of_lt (Nat.div_le_self _ _) (by omega)
    have h2 := and_one_i64 (i / 2 ^ k) h1
    have h3 : ((i / 2 ^ k : Nat) : Int) = (i : Int) / 2 ^ k := by simp
    rw [h3] at h2
    rw [h2, Bool.eq_iff_iff]
    simp
    omega
  go_enter Tryz.func101, Tryz.ntmps101
  go_wp2_with fail
  go_ret
  exact ⟨rfl, rfl⟩

/-- a list of texts, some of its first ones in the level above, being filled -/
theorem aboveS_take_succ (k : Nat) (L : List ByteArray) (a b : ByteArray) (h1 : L[2 * k]? = some a) (h2 : L[2 * k + 1]? = some b) : aboveS (L.take (2 * (k + 1))) = aboveS (L.take (2 * k)) ++ [nodeS a b] := by
  have hl := (List.getElem?_eq_some_iff.1 h2).1
  have e : L.take (2 * (k + 1)) = L.take (2 * k) ++ [a, b] := by
    rw [show 2 * (k + 1) = 2 * k + 1 + 1 from by omega, List.take_add_one, h2, List.take_add_one, h1]
    simp
  rw [e, aboveS_append k _ _ (by rw [List.length_take]; omega)]
  rfl

set_option maxHeartbeats 800000 in
set_option maxRecDepth 100000 in
theorem mabove_any (v : Value) (L : List ByteArray) (N : Nat) (hN : L.length = 2 * N) (hN2 : N ≤ 64) (hs : ∀ s ∈ L, s.size ≤ 1000000000000) (w : World) (hv : StrsAt w v L) (hr : ShaReady w) :
    Calls Tryz.prog 83 #[v] w fun e w' => ∃ v', e = .returned v' ∧ w'.ownsRow w.heap.size 9 1 v' N (strsV (aboveS L)) ∧ w.grownBy w' none := by
  obtain ⟨i0, hi, hz0, hz1, hz2⟩ := info_parts infoStrW
  have HR := Lib.hid hr
  have HV := Lib.hid hv
  have HS := Lib.hid hs
  have HN := Lib.hid hN
  obtain ⟨av, cv, rfl⟩ := hv.form
  obtain ⟨M, hM⟩ : ∃ M, 2 * N = M := ⟨_, rfl⟩
  rw [hN, hM] at HV ⊢
  have hq : (M : Int) / 2 = (N : Int) := by omega
  have HM := Lib.hid hM
  clear hr hv hs hN hM
  go_enter Tryz.func83, Tryz.ntmps83
  go_wp2_with (at_make; refine wpList_make_full _ rfl _ _ 35 rfl w.heap.size 9 i0 (.string ⟨#[]⟩) 1 Tryz.underlying35 hi hz0 hz1 _ _ _ _ N rfl rfl rfl rfl ?c1 ?c2 ?c3 ?_)
  case c1 => rw [hz2]; omega
  case c2 => unfold maxLen; omega
  case c3 => exact Nat.le_refl _
  intro w2 hown hg
  have hm : (madeCells #[Value.string ⟨#[]⟩] N).toList = strsV (fillS (aboveS (L.take (2 * 0))) N) := made_strs N
  rw [hm] at hown
  have HO2 := Lib.hid hown
  have G2 := Lib.hid hg
  clear hown hg hm
  go_wp2_with fail
  go_loopw [4, 12] (fun _ iv wr => ∃ k : Nat, k ≤ N ∧ iv = .int .i64 k ∧ Hid (wr.ownsRow w.heap.size 9 1 (.slice (some ⟨w.heap.size, 0, none⟩) N N) N (strsV (fillS (aboveS (L.take (2 * k))) N))) ∧ Hid (w.grownBy wr none)) (fun _ iv _ => N - (intOf iv).toNat)
  case atStart => exact ⟨0, by omega, rfl, HO2.out, G2.out⟩
  case round =>
    clear HO2 G2
    obtain ⟨k, hk, rfl, HK, HG⟩ := hrel
    by_cases hlt : k < N
    · obtain ⟨x, hx⟩ : ∃ x, L[2 * k]? = some x := ⟨_, List.getElem?_eq_getElem (by rw [HN.out]; omega)⟩
      obtain ⟨y, hy⟩ : ∃ y, L[2 * k + 1]? = some y := ⟨_, List.getElem?_eq_getElem (by rw [HN.out]; omega)⟩
      have hvr := HV.out.grown HG.out
      obtain ⟨gv, ov, rfl, hcx⟩ := hvr.at_ _ x hx
      obtain ⟨gv', ov', he, hcy⟩ := hvr.at_ _ y hy
      obtain ⟨rfl, rfl⟩ : gv = gv' ∧ ov = ov' := by cases he; exact ⟨rfl, rfl⟩
      have HE : Hid (aboveS (L.take (2 * (k + 1))) = aboveS (L.take (2 * k)) ++ [nodeS x y]) := aboveS_take_succ k L x y hx hy
      have sx := HS.out x (List.mem_of_getElem? hx)
      have sy := HS.out y (List.mem_of_getElem? hy)
      have hel := aboveS_length k (L.take (2 * k)) (by rw [List.length_take, HN.out]; omega)
      have HXX := Lib.hid hx
      clear hx hy hvr he
      have b1 : (0 : Int) ≤ (k : Int) := by omega
      have b2 : (k : Int) < (N : Int) := by omega
      have b3 : 2 * (k : Int) + 1 < (M : Int) := by have := HM.out; omega
      have b4 : 2 * (k : Int) < (M : Int) := by omega
      have b5 : (0 : Int) ≤ 2 * (k : Int) := by omega
      have b6 : (0 : Int) ≤ 2 * (k : Int) + 1 := by omega
      have t1 : (2 * (k : Int)).toNat = 2 * k := by omega
      have t2 : (2 * (k : Int) + 1).toNat = 2 * k + 1 := by omega
      have r1 : IntKind.i64.wrap (2 * (k : Int)) = 2 * (k : Int) := IntWalk.i64_in _ (by omega)
      have r2 : IntKind.i64.wrap (2 * (k : Int) + 1) = 2 * (k : Int) + 1 := IntWalk.i64_in _ (by omega)
      have HNX : Hid (∀ w0, ShaReady w0 → Calls Tryz.prog 102 #[.string x, .string y] w0 fun e w' => e = .returned (.string (nodeS x y)) ∧ w0.grownBy w' none) := fun w0 h => node_any x y sx sy w0 h
      have HGG := Lib.hid (HR.out.grown HG.out)
      have hgv : w.heap.size ≠ gv := by
        obtain ⟨g', o', he, hc'⟩ := HV.out.at_ _ x HXX.out
        cases he
        have := cell_lt hc'
        omega
      have hat := fillS_at (aboveS (L.take (2 * k))) N (by omega)
      have hput := fillS_put (aboveS (L.take (2 * k))) N (nodeS x y) (by omega)
      rw [hel] at hat hput
      have HP := Lib.hid hput
      have HAT := Lib.hid hat
      clear hat hput hel
      generalize nodeS x y = S at HNX HE HP
      generalize aboveS (L.take (2 * k)) = A at HK HE HP HAT
      go_wp2_with fail
      go_region_held3 (fun w' => w'.cell? ⟨gv, ov + 2 * k, none⟩ = some (.string x) ∧ w'.cell? ⟨gv, ov + (2 * k + 1), none⟩ = some (.string y)) (first | exact ck | exact ⟨hcx, hcy⟩ | exact ⟨cell_ne hgv ck.1, cell_ne hgv ck.2⟩)
        ((go_at_call 102; (with_reducible refine (HNX.out _ (HGG.out.grown (grownBy_drew (World.grownBy.refl _ _)))).mono ?_); rintro e w6 ⟨rfl, g6⟩; have ck : w6.cell? ⟨gv, ov + 2 * k, none⟩ = some (.string x) ∧ w6.cell? ⟨gv, ov + (2 * k + 1), none⟩ = some (.string y) := ⟨g6.cell hcx (by simp), g6.cell hcy (by simp)⟩; have HK6 := Lib.hid (own_kept (World.ownsRow.drew HK.out) g6); have hf6 := HK6.out.frozenAt k; have hc6 : w6.cell? ⟨w.heap.size, k, none⟩ = some (.string ⟨#[]⟩) := (HK6.out.cellAt k (by omega)).trans HAT.out))
      go_wp2_with fail
      go_roundw
      case rel =>
        refine ⟨k + 1, by omega, by go_num, ?_, grownBy_setNew (grownBy_trans HG.out (undrew g6)) (Nat.le_refl _) _ _⟩
        show World.ownsRow _ _ _ _ _ _ _
        rw [HE.out, ← HP.out]
        exact (HK6.out.stored _ _).1
      case measure => simp [intOf]; omega
    · obtain rfl : k = N := by omega
      have hown := HK.out
      have hl := aboveS_length k L (by rw [HN.out])
      rw [List.take_of_length_le (by rw [HN.out]; exact Nat.le_refl _), fillS_full _ k hl] at hown
      have HOW := Lib.hid hown
      clear hown HK
      go_wp2_with fail
      go_ret
      exact ⟨_, rfl, HOW.out, HG.out⟩
end Go.Proofs.YtemndmhdlgfajaaGreatDoor

namespace Go.Proofs.YtemndmhdlgfajaaGreatDoor
open Go.RowKit
attribute [local irreducible] shaL

theorem StrsAt.beside {w w' : World} {a : Option Addr} {n cap : Nat} {L : List ByteArray} {row : Option Nat} (h : StrsAt w (.slice a n cap) L) (hg : w.grownBy w' row) (hne : ∀ g o, a = some ⟨g, o, none⟩ → row ≠ some g) : StrsAt w' (.slice a n cap) L := by
  obtain ⟨a', cap', he, hc⟩ := h
  cases he
  refine ⟨a, cap, rfl, fun i hi => ?_⟩
  obtain ⟨g, o, rfl, hcell⟩ := hc i hi
  exact ⟨g, o, rfl, hg.cell hcell (fun e => hne g o rfl e.symm)⟩
def lenOf : Value → Nat
  | .slice _ n _ => n
  | _ => 0
theorem treeB_pow (h : Nat) (hh : h ≤ 6) : treeB (2 ^ h) = true := by
  have : h = 0 ∨ h = 1 ∨ h = 2 ∨ h = 3 ∨ h = 4 ∨ h = 5 ∨ h = 6 := by omega
  rcases this with rfl | rfl | rfl | rfl | rfl | rfl | rfl <;> rfl
theorem pow_le64 (h : Nat) (hh : h ≤ 6) : 2 ^ h ≤ 64 := Nat.pow_le_pow_right (n := 2) (by decide) hh

set_option maxHeartbeats 800000 in
set_option maxRecDepth 100000 in
theorem root_no (v : Value) (L : List ByteArray) (hN : treeB L.length = false) (w : World) (hv : StrsAt w v L) :
    Calls Tryz.prog 33 #[v] w fun e w' => e = .returned (.tuple #[.string ⟨#[]⟩, .int .i64 22]) ∧ w = w' := by
  obtain ⟨av, cv, rfl⟩ := hv.form
  have ht := isTree_any w av L.length cv
  rw [hN] at ht
  have HT := Lib.hid ht
  clear ht
  go_enter Tryz.func33, Tryz.ntmps33
  go_wp2_with fail
  refine HT.out.mono ?_
  rintro e w1 ⟨rfl, rfl⟩
  go_wp2_with fail
  go_ret2
  exact ⟨rfl, rfl⟩

set_option maxHeartbeats 800000 in
set_option maxRecDepth 100000 in
theorem root_ok (v : Value) (L : List ByteArray) (h : Nat) (hh : h ≤ 6) (hN : L.length = 2 ^ h) (hs : ∀ s ∈ L, s.size ≤ 1000000000000) (w : World) (hv : StrsAt w v L) (hr : ShaReady w) :
    Calls Tryz.prog 33 #[v] w fun e w' => e = .returned (.tuple #[.string (rootS h L), .int .i64 0]) ∧ w.grownBy w' none := by
  have HR := Lib.hid hr
  have HV := Lib.hid hv
  have HS := Lib.hid hs
  have HN := Lib.hid hN
  obtain ⟨av, cv, rfl⟩ := hv.form
  have ht := isTree_any w av L.length cv
  rw [hN, treeB_pow h hh] at ht
  have HT := Lib.hid ht
  rw [hN] at HV ⊢
  clear hr hv hs hN ht
  go_enter Tryz.func33, Tryz.ntmps33
  go_wp2_with fail
  refine HT.out.mono ?_
  rintro e w1 ⟨rfl, rfl⟩
  clear HT
  go_wp2_with fail
  go_loopw [0] (fun lv wr => ∃ (j : Nat) (M : List ByteArray), j ≤ h ∧ Hid (M.length = 2 ^ j) ∧ Hid (StrsAt wr lv M) ∧ Hid (rootS j M = rootS h L) ∧ Hid (∀ s ∈ M, s.size ≤ 1000000000000) ∧ Hid (w.grownBy wr none)) (fun lv _ => lenOf lv)
  case atStart => exact ⟨h, L, Nat.le_refl _, HN.out, HV.out, rfl, HS.out, World.grownBy.refl _ _⟩
  case round =>
    obtain ⟨j, M, hj, HM, HMV, HE, HMS, HG⟩ := hrel
    obtain ⟨am, cm, rfl⟩ := HMV.out.form
    have hml := HM.out
    rw [hml] at HMV ⊢
    clear hml
    cases j with
    | succ j =>
      obtain ⟨N, hN⟩ : ∃ N, 2 ^ j = N := ⟨_, rfl⟩
      have hp0 : 0 < 2 ^ j := Nat.pow_pos (by decide)
      have hp6 := pow_le64 j (by omega)
      have ha := mabove_any _ M (2 ^ j) (by rw [HM.out, pow_succ2]) hp6 HMS.out wr HMV.out (HR.out.grown HG.out)
      have hM2 := HM.out
      rw [pow_succ2, hN] at ha HMV hM2 ⊢
      rw [hN] at hp0 hp6
      have HA := Lib.hid ha
      have HN := Lib.hid hN
      clear ha hN HM
      have b1 : (1 : Int) < ((2 * N : Nat) : Int) := by omega
      go_wp2_with fail
      refine HA.out.mono ?_
      rintro e w2 ⟨v2, rfl, h2, g2⟩
      have hf : ∃ a c, v2 = .slice a N c := slice_own' h2
      obtain ⟨a2, c2, rfl⟩ := hf
      have HO2 := Lib.hid (strs_own h2)
      have G2 := Lib.hid (grownBy_trans HG.out g2)
      clear h2 g2
      go_wp2_with fail
      go_roundw
      case rel => exact ⟨j, aboveS M, by omega, (aboveS_length _ _ hM2).trans HN.out.symm, HO2.out, HE.out, fun s hs => by rw [aboveS_sizes _ s hs]; decide, G2.out⟩
      case measure => simp [lenOf]; omega
    | zero =>
      match M, HM with
      | [x], HM =>
        obtain ⟨g, o, rfl, hc⟩ := HMV.out.at_ 0 x rfl
        have HE2 : Hid (x = rootS h L) := HE.out
        clear HE HMV HMS
        rw [Nat.add_zero] at hc
        go_wp2_with fail
        go_ret2
        exact ⟨by rw [← HE2.out]; rfl, HG.out⟩
      | [], HM => exact absurd HM.out (by simp)
      | _ :: _ :: _, HM => exact absurd HM.out (by simp)

theorem climb_step (x b : ByteArray) (i k m : Nat) (hm : i / 2 ^ k % 2 = m) : stepC x (i / 2 ^ k) b = if m = 1 then nodeS b x else nodeS x b := by unfold stepC; rw [hm]
set_option maxHeartbeats 800000 in
set_option maxRecDepth 100000 in
theorem climb_any (x : ByteArray) (i : Nat) (v : Value) (P : List ByteArray) (hi : i < 4294967296) (hP : P.length ≤ 60) (hx : x.size ≤ 1000000000000) (hs : ∀ s ∈ P, s.size ≤ 1000000000000) (w : World) (hv : StrsAt w v P) (hr : ShaReady w) :
    Calls Tryz.prog 48 #[.string x, .int .i64 i, v] w fun e w' => e = .returned (.string (climbS x i P)) ∧ w.grownBy w' none := by
  have HR := Lib.hid hr
  have HV := Lib.hid hv
  have HS := Lib.hid hs
  obtain ⟨av, cv, rfl⟩ := hv.form
  clear hr hv hs
  go_enter Tryz.func48, Tryz.ntmps48
  go_wp2_with fail
  go_loopw [7, 8, 9, 13] (fun xv _ _ kv wr => ∃ (k : Nat) (y : ByteArray), k ≤ P.length ∧ kv = .int .i64 k ∧ xv = .string y ∧ Hid (y.size ≤ 1000000000000) ∧ Hid (climbS y (i / 2 ^ k) (P.drop k) = climbS x i P) ∧ Hid (w.grownBy wr none)) (fun _ _ _ kv _ => P.length - (intOf kv).toNat)
  case atStart => exact ⟨0, x, Nat.zero_le _, rfl, rfl, hx, by show _ = _; simp, World.grownBy.refl _ _⟩
  case round =>
    obtain ⟨k, y, hk, rfl, rfl, HY, HE, HG⟩ := hrel
    by_cases hlt : k < P.length
    · obtain ⟨b, hb⟩ : ∃ b, P[k]? = some b := ⟨_, List.getElem?_eq_getElem hlt⟩
      have hbs := HS.out b (List.mem_of_getElem? hb)
      have hvr := HV.out.grown HG.out
      obtain ⟨gv, ov, rfl, hcx⟩ := hvr.at_ _ b hb
      have hd : P.drop k = b :: P.drop (k + 1) := by
        rw [List.drop_eq_getElem_cons hlt]
        rw [List.getElem?_eq_getElem hlt] at hb
        cases hb
        rfl
      have HE2 : Hid (climbS (stepC y (i / 2 ^ k) b) (i / 2 ^ (k + 1)) (P.drop (k + 1)) = climbS x i P) := by
        have := HE.out
        rw [hd, climbS, Nat.div_div_eq_div_mul, ← Nat.pow_succ] at this
        exact this
      have hbh := Lib.hid (isBehind_any wr i k hi (by omega))
      have b1 : (0 : Int) ≤ (k : Int) := by omega
      have b2 : (k : Int) < (P.length : Int) := by omega
      clear hd hb hvr HE
      by_cases hm : i / 2 ^ k % 2 = 1
      · have hst := climb_step y b i k 1 hm
        rw [if_pos rfl] at hst
        have hbh2 := hbh.out
        rw [show (i / 2 ^ k % 2 == 1) = true from by simp [hm]] at hbh2
        have HB := Lib.hid hbh2
        rw [hst] at HE2
        have HND := Lib.hid (node_any b y hbs HY.out wr (HR.out.grown HG.out))
        clear hst hbh hbh2 hm
        go_wp2_with fail
        refine HB.out.mono ?_
        rintro e w1 ⟨rfl, rfl⟩
        clear HB
        go_wp2_with fail
        refine HND.out.mono ?_
        rintro e w2 ⟨rfl, g2⟩
        have G2 := Lib.hid (grownBy_trans HG.out g2)
        clear g2
        go_wp2_with fail
        go_roundw
        case rel => exact ⟨k + 1, _, by omega, by go_num, rfl, by show _ ≤ _; rw [nodeS_size]; decide, HE2.out, G2.out⟩
        case measure => simp [intOf]; omega
      · have hst := climb_step y b i k 0 (by omega)
        rw [if_neg (by decide)] at hst
        have hbh2 := hbh.out
        rw [show (i / 2 ^ k % 2 == 1) = false from by simp [hm]] at hbh2
        have HB := Lib.hid hbh2
        rw [hst] at HE2
        have HND := Lib.hid (node_any y b HY.out hbs wr (HR.out.grown HG.out))
        clear hst hbh hbh2 hm
        go_wp2_with fail
        refine HB.out.mono ?_
        rintro e w1 ⟨rfl, rfl⟩
        clear HB
        go_wp2_with fail
        refine HND.out.mono ?_
        rintro e w2 ⟨rfl, g2⟩
        have G2 := Lib.hid (grownBy_trans HG.out g2)
        clear g2
        go_wp2_with fail
        go_roundw
        case rel => exact ⟨k + 1, _, by omega, by go_num, rfl, by show _ ≤ _; rw [nodeS_size]; decide, HE2.out, G2.out⟩
        case measure => simp [intOf]; omega
    · have hE := HE.out
      rw [List.drop_of_length_le (by omega)] at hE
      have HE2 : Hid (y = climbS x i P) := hE
      clear hE HE
      go_wp2_with fail
      go_ret
      exact ⟨by rw [← HE2.out]; rfl, HG.out⟩
end Go.Proofs.YtemndmhdlgfajaaGreatDoor
