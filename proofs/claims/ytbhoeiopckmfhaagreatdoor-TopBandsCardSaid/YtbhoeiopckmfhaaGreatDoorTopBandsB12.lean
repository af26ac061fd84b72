/- The walk of DeleteFunc, at proof's alike's closure. · The walk of proof's alike. · Numbers in pieces of 16 bits; the roots of primes. Plain; no walk. · The walks of the document's shift, turn, times, above. · The walks of the document's above, root, roots. · The walk of the document's above, at a cube. · The walks of the document's root, roots. · What the walk of the document's Sum keeps. · A round of the document's 64, its own theorem: one walk of all was too great for a machine. · A round of the document's schedule, its own theorem. · A round of the document's reading of a word, its own theorem. · A round of the document's adding to the state, its own theorem. · The walk of the document's Sum. · The walk of the document's Four, and small things that the sha laws share. · The walk of the document's tagged digest. · Pairs in memory; the walk of the document's Set, Leaf. · The walks of above, Node, Root. · Keys that rise, parted at a bit. No walk. · The walk of a proof's besideMayBe. · The walks of IndexFunc and DeleteFunc at band's Keys's closure (by program out of PrfI, PrfD, PrfAl); of Of, Keys. -/
import Derived.Test.YtbhoeiopckmfhaaGreatDoorTopBandsB11
import Derived.Lib.SliceRun
import Derived.Test.YtbhoeiopckmfhaaGreatDoorTopBandsB1
import Derived.Test.YtbhoeiopckmfhaaGreatDoorShaCalls
import Derived.OwnWalk
import Derived.Deep.MidRow
import Derived.BigQuiet
import Derived.StillTailTactics
import Derived.IntWalk
import Derived.Deep.DeepCutAuto
import Derived.Deep.CutBlock
import Derived.Test.YtbhoeiopckmfhaaGreatDoorTopBandsB2
import Derived.Deep.QuietTactic
import Derived.Maps.AppendAt
import Derived.Deep.RegionWith
import Derived.Deep.RegionHeld3
import Derived.Sort.Walk0
import Derived.Test.YtbhoeiopckmfhaaGreatDoorTopBandsB10
namespace Go.Proofs.YtbhoeiopckmfhaaGreatDoor
open Go.RowKit Go.Maps
attribute [local irreducible] shaL

theorem zero_str (w : World) : (zeroValue 9).run Tryz.prog w = .ok (.string ⟨#[]⟩) w := by
  obtain ⟨i0, hi, hz0, hz1, hz2⟩ := info_parts infoStrW
  simp [zeroValue, typeInfo, hi, hz0]
theorem clear_strs (w : World) (ty : TypeId) (b o n c : Nat) (hn : 0 < n) (hc : ∀ j, j < n → (w.cell? ⟨b, o + j, none⟩).isSome = true) (hf : ∀ j, j < n → w.frozen? ⟨b, o + j, none⟩ = false) :
    (Builtin.clear_ #[33] ty #[.slice (some ⟨b, o, none⟩) n c]).run Tryz.prog w = .ok (.tuple #[]) (w.setCells b o (List.replicate n (.string ⟨#[]⟩))) :=
  Lib.run_clear_slice w 33 9 ty (.string ⟨#[]⟩) Tryz.underlying33 zero_str rfl rfl b o n c hn hc hf
theorem str_cell {w : World} {B g n c : Nat} {L : List ByteArray} (h : w.ownsRow B 9 1 (.slice (some ⟨g, 0, none⟩) n c) n (strsV L)) {j : Nat} {x : ByteArray} (hx : L[j]? = some x) : w.cell? ⟨g, j, none⟩ = some (.string x) := by
  have hl := h.1
  have hj := (List.getElem?_eq_some_iff.1 hx).1
  rw [strsV_length] at hl
  rw [h.cellAt j (by omega)]
  simp [strsV, hx]
theorem strsV_set (L : List ByteArray) (i : Nat) (x : ByteArray) : (strsV L).set i (.string x) = strsV (L.set i x) := by simp [strsV, List.map_set]
theorem strsV_take (L : List ByteArray) (i : Nat) : (strsV L).take i = strsV (L.take i) := by simp [strsV, List.map_take]
set_option maxRecDepth 100000 in
set_option maxHeartbeats 3200000 in
theorem delete_alike (P : ByteArray → Bool) (B g n c : Nat) (L : List ByteArray) (w : World) (c1 c2 : Value) (hv : w.ownsRow B 9 1 (.slice (some ⟨g, 0, none⟩) n c) n (strsV L)) (hn : n ≤ 1000000) (hnc : n ≤ c)
    (hF : ∀ (k : ByteArray) (w' : World), k ∈ L → w.grownBy w' (some g) → Calls Tryz.prog 122 #[.string k, c1, c2] w' fun e w'' => e = .returned (.bool (P k)) ∧ w'.grownBy w'' none) :
    Calls Tryz.prog 121 #[.slice (some ⟨g, 0, none⟩) n c, .func (Fn.func 122) #[] #[c1, c2]] w fun e w' => ∃ m : Nat, e = .returned (.slice (some ⟨g, 0, none⟩) m c) ∧ w'.ownsRow B 9 1 (.slice (some ⟨g, 0, none⟩) m c) m (strsV (L.filter fun x => !P x)) ∧ w.grownBy w' (some g) := by
  have hln : L.length = n := by have := hv.1; rw [strsV_length] at this; omega
  have HI := Lib.hid (index_alike P (some ⟨g, 0, none⟩) n c L w c1 c2 (strs_own hv) hn (fun k w' hk hg => hF k w' hk (grownBy_any hg _)))
  have HV := Lib.hid hv
  have HF := Lib.hid hF
  have HLN := Lib.hid hln
  rcases hfi : L.findIdx? P with _ | k
  · have hI : firstI L P = -1 := by unfold firstI; rw [hfi]
    rw [hI] at HI
    have hall : (L.filter fun x => !P x) = L := List.filter_eq_self.2 (fun x hx => by have := List.findIdx?_eq_none_iff.1 hfi x hx; simp [this])
    rw [hall]
    clear hv hF hln hI hall hfi
    go_enter Tryz.func121, Tryz.ntmps121
    go_wp2_with fail
    refine HI.out.mono ?_
    rintro e w1 ⟨rfl, g1⟩
    go_wp2_with fail
    go_ret
    exact ⟨n, rfl, own_keep HV.out g1 (fun x _ e => by cases e), grownBy_any g1 _⟩
  · have hI : firstI L P = (k : Int) := by unfold firstI; rw [hfi]
    obtain ⟨hk, hpk, hno⟩ := List.findIdx?_eq_some_iff_getElem.1 hfi
    rw [hI] at HI
    have hne1 : ((k : Int) == -1) = false := beq_eq_false_iff_ne.2 (by omega)
    have HK0 := Lib.hid (KeptL.start (fun x => !P x) L k hk (by simp [hpk]) (fun j hj hjk => by have := hno j hjk; simp at this; simp [this]))
    have hkn : k + 1 ≤ n := by omega
    have HKN := Lib.hid hkn
    have r1 : IntKind.i64.wrap ((k : Int) + 1) = ((k + 1 : Nat) : Int) := by rw [IntWalk.i64_in _ (by omega)]; rfl
    clear hv hF hln hI hfi hk hpk hno hkn
    go_enter Tryz.func121, Tryz.ntmps121
    go_wp2_with fail
    refine HI.out.mono ?_
    rintro e w1 ⟨rfl, g1⟩
    have HV1 := Lib.hid (own_keep HV.out g1 (fun x _ e => by cases e))
    have HG1 := Lib.hid (grownBy_any g1 (some g))
    clear g1 HI
    go_wp2_with fail
    go_loopw [5, 6, 7] (fun s5 s6 _ wr => ∃ (i j : Nat) (cur : List ByteArray), s5 = .int .i64 i ∧ s6 = .int .i64 j ∧ Hid (j ≤ n ∧ KeptL (fun x => !P x) L cur i j) ∧ Hid (wr.ownsRow B 9 1 (.slice (some ⟨g, 0, none⟩) n c) n (strsV cur)) ∧ Hid (w.grownBy wr (some g))) (fun _ jv _ _ => n - (intOf jv).toNat)
    case atStart => exact ⟨k, k + 1, L, rfl, by first | rfl | (rw [r1]) | (simp only [r1]) | trace_state, Lib.hid ⟨HKN.out, HK0.out⟩, HV1.out, HG1.out⟩
    case round =>
      obtain ⟨i, j, cur, rfl, rfl, HK, HO, HG⟩ := hrel
      have hjn := HK.out.1
      have hij := HK.out.2.lt
      by_cases hlt : j < n
      · have d1 : (j : Int) < (n : Int) := by omega
        have d0 : (0 : Int) ≤ (j : Int) := by omega
        have d2 : (i : Int) < (n : Int) := by omega
        have d3 : (0 : Int) ≤ (i : Int) := by omega
        obtain ⟨x, hx⟩ : ∃ x, L[j]? = some x := ⟨_, List.getElem?_eq_getElem (by have := HLN.out; omega)⟩
        have hxc : cur[j]? = some x := by rw [HK.out.2.at_ j (Nat.le_refl _)]; exact hx
        have hc := str_cell HO.out hxc
        obtain ⟨y, hy⟩ : ∃ y, cur[i]? = some y := ⟨_, List.getElem?_eq_getElem (by have := HK.out.2.len; have := HLN.out; omega)⟩
        have hci := str_cell HO.out hy
        have hfi := HO.out.frozenAt i
        have hfx := HF.out x wr (List.mem_of_getElem? hx) HG.out
        have HX := Lib.hid hx
        clear hx hxc hy
        cases hP : P x
        · rw [hP] at hfx
          have HFX := Lib.hid hfx
          have HPX := Lib.hid hP
          clear hfx hP
          go_wp2_with fail
          refine HFX.out.mono ?_
          rintro e w3 ⟨rfl, g3⟩
          have ho3 := own_keep HO.out g3 (fun x _ e => by cases e)
          have HG3 := Lib.hid (grownBy_trans HG.out (grownBy_any g3 (some g)))
          have hci3 : w3.cell? ⟨g, i, none⟩ = some (.string y) := (g3.cell hci (by simp))
          have hfi3 := ho3.frozenAt i
          have HO3 := Lib.hid ho3
          clear g3 hc hci hfi ho3
          go_wp2_with fail
          go_roundw
          case rel =>
            have hst := HO3.out.stored i (.string x)
            rw [strsV_set] at hst
            exact ⟨i + 1, j + 1, cur.set i x, by go_num, by go_num, Lib.hid ⟨by omega, HK.out.2.keep HX.out (by simp [HPX.out])⟩, hst.1, grownBy_trans HG3.out hst.2⟩
          case measure => simp [intOf]; omega
        · rw [hP] at hfx
          have HFX := Lib.hid hfx
          have HPX := Lib.hid hP
          clear hfx hP
          go_wp2_with fail
          refine HFX.out.mono ?_
          rintro e w3 ⟨rfl, g3⟩
          have ho3 := own_keep HO.out g3 (fun x _ e => by cases e)
          have HG3 := Lib.hid (grownBy_trans HG.out (grownBy_any g3 (some g)))
          have HO3 := Lib.hid ho3
          clear g3 hc hci hfi ho3
          go_wp2_with fail
          go_roundw
          case rel => exact ⟨i, j + 1, cur, rfl, by go_num, Lib.hid ⟨by omega, HK.out.2.skip HX.out (by simp [HPX.out])⟩, HO3.out, HG3.out⟩
          case measure => simp [intOf]; omega
      · have hjn2 : j = n := by omega
        subst hjn2
        have d1 : ¬ (j : Int) < (j : Int) := by omega
        have HIJ := Lib.hid hij
        have hcl : ∀ ty, (Builtin.clear_ #[33] ty #[.slice (some ⟨g, i, none⟩) (j - i) (c - i)]).run Tryz.prog wr = .ok (.tuple #[]) (wr.setCells g i (List.replicate (j - i) (.string ⟨#[]⟩))) :=
          fun ty => clear_strs wr ty g i (j - i) (c - i) (by omega) (fun t ht => by
            rw [HO.out.cellAt (i + t) (by omega), List.getElem?_eq_getElem (by have := HO.out.1; omega)]; rfl) (fun t _ => HO.out.frozenAt (i + t))
        have hset := own_setCells (List.replicate (j - i) (.string ⟨#[]⟩)) (strsV cur) i wr HO.out
        have HSET := Lib.hid hset
        have d4 : (i : Int) ≤ (j : Int) := by omega
        have d5 : (0 : Int) ≤ (i : Int) := by omega
        have d6 : (j : Int) ≤ (c : Int) := by omega
        have d7 : (i : Int) ≤ (c : Int) := by omega
        clear hset
        go_wp2_with fail
        go_ret
        have hcount := (show KeptL (fun x => !P x) L cur i L.length by rw [HLN.out]; exact HK.out.2).count
        refine ⟨i, rfl, ?_, grownBy_trans HG.out HSET.out.2⟩
        have ht := own_take HSET.out.1 i (by have := HIJ.out; omega)
        rw [setL_take, strsV_take, hcount.2] at ht
        exact ht
end Go.Proofs.YtbhoeiopckmfhaaGreatDoor

namespace Go.Proofs.YtbhoeiopckmfhaaGreatDoor
open Go.RowKit Go.Maps
attribute [local irreducible] shaL

theorem delete_nil (c1 c2 : Value) (w : World) : Calls Tryz.prog 121 #[.slice none 0 0, .func (Fn.func 122) #[] #[c1, c2]] w fun e w' => e = .returned (.slice none 0 0) ∧ w.grownBy w' none := by
  have HI := Lib.hid (index_alike (fun _ => false) none 0 0 [] w c1 c2 ⟨none, 0, rfl, fun i hi => absurd hi (Nat.not_lt_zero i)⟩ (by omega) (fun k w' hk _ => by cases hk))
  have hI : firstI [] (fun _ => false) = -1 := rfl
  rw [hI] at HI
  clear hI
  go_enter Tryz.func121, Tryz.ntmps121
  go_wp2_with fail
  refine HI.out.mono ?_
  rintro e w1 ⟨rfl, g1⟩
  go_wp2_with fail
  go_ret
  exact ⟨rfl, g1⟩
def likeL (key : ByteArray) (d : Nat) (L : List ByteArray) : List ByteArray := L.filter fun x => belowB x key d
set_option maxRecDepth 100000 in
set_option maxHeartbeats 1600000 in
theorem alike_any (B : Nat) (v : Value) (L : List ByteArray) (key : ByteArray) (z : Int) (w : World) (hv : w.ownsRow B 9 1 v L.length (strsV L)) (hl : L.length ≤ 1000000) (hs : ∀ s ∈ L, s.size ≤ maxLen) (hk : key.size ≤ maxLen) :
    Calls Tryz.prog 76 #[v, .string key, .int .i64 z] w fun e w' => ∃ v', e = .returned v' ∧ v'.ownBlock = v.ownBlock ∧ w'.ownsRow B 9 1 v' (likeL key (capD z) L).length (strsV (likeL key (capD z) L)) ∧ w.grownBy w' v.ownBlock := by
  have hlt := hv.lt
  have hb1 := heap_alloc_at w (.cells #[.string key] 9) _ rfl
  have hg1 : w.grownBy (w.alloc (.cells #[.string key] 9)) none := World.grownBy_alloc _ _ _
  have hb2 := heap_alloc_at (w.alloc (.cells #[.string key] 9)) (.cells #[.int .i64 z] 3) _ rfl
  have hg2 : (w.alloc (.cells #[.string key] 9)).grownBy ((w.alloc (.cells #[.string key] 9)).alloc (.cells #[.int .i64 z] 3)) none := World.grownBy_alloc _ _ _
  have hb3 := hg2.heap hb1 (by simp)
  have hg3 := grownBy_trans hg1 hg2
  have hsz : (w.alloc (.cells #[.string key] 9)).heap.size = w.heap.size + 1 := by simp
  rw [hsz] at hb2
  have h1 : ((w.alloc (.cells #[.string key] 9)).alloc (.cells #[.int .i64 z] 3)).cell? ⟨w.heap.size, 0, none⟩ = some (.string key) := by rw [cell_of hb3 0]; rfl
  have h2 : ((w.alloc (.cells #[.string key] 9)).alloc (.cells #[.int .i64 z] 3)).cell? ⟨w.heap.size + 1, 0, none⟩ = some (.int .i64 z) := by rw [cell_of hb2 0]; rfl
  have HD : Hid (Calls Tryz.prog 121 #[v, .func (Fn.func 122) #[] #[.pointer (some ⟨w.heap.size, 0, none⟩), .pointer (some ⟨w.heap.size + 1, 0, none⟩)]] ((w.alloc (.cells #[.string key] 9)).alloc (.cells #[.int .i64 z] 3)) fun e w' => ∃ v', e = .returned v' ∧ v'.ownBlock = v.ownBlock ∧ w'.ownsRow B 9 1 v' (likeL key (capD z) L).length (strsV (likeL key (capD z) L)) ∧ w.grownBy w' v.ownBlock) := by
    have hv3 := own_keep hv hg3 (fun x _ e => by cases e)
    rcases hv.2 with ⟨rfl, h0⟩ | ⟨g, cap, cur, rfl, hB, hg, hnc, hm, hcs, htake⟩
    · obtain rfl : L = [] := List.length_eq_zero_iff.1 h0
      refine (delete_nil _ _ _).mono ?_
      rintro e w' ⟨rfl, g'⟩
      exact ⟨_, rfl, rfl, World.ownsRow_nil _ _ _ _, grownBy_trans hg3 g'⟩
    · have hgl := (hlt g rfl).2
      refine (delete_alike (fun x => !belowB x key (capD z)) B g L.length cap L _ _ _ hv3 hl hnc (fun k w' hk' g' => ?_)).mono ?_
      · exact alike1_any k key z w.heap.size (w.heap.size + 1) (hs k hk') hk w' (g'.cell h1 (by simp; omega)) (g'.cell h2 (by simp; omega))
      · rintro e w' ⟨m, rfl, ho, g'⟩
        have e1 : (L.filter fun x => !!belowB x key (capD z)) = likeL key (capD z) L := by simp [likeL]
        rw [e1] at ho
        have hm2 : m = (likeL key (capD z) L).length := by have := ho.1; rw [strsV_length] at this; omega
        rw [hm2] at ho ⊢
        exact ⟨_, rfl, rfl, ho, grownBy_trans (grownBy_any hg3 _) g'⟩
  clear hv hl hs hk hlt hb1 hg1 hb2 hg2 hb3 hg3 hsz h1 h2
  go_enter Tryz.func76, Tryz.ntmps76
  go_wp2_with fail
  refine HD.out.mono ?_
  rintro e w' ⟨v', rfl, hx⟩
  have HX := Lib.hid hx
  clear hx
  go_wp2_with fail
  go_ret
  exact ⟨v', rfl, HX.out⟩
end Go.Proofs.YtbhoeiopckmfhaaGreatDoor

namespace Go.Proofs.YtbhoeiopckmfhaaGreatDoor

/-- the value of pieces, the lowest first -/
def V : List Nat → Nat
  | [] => 0
  | d :: l => d + 65536 * V l
def Dig (l : List Nat) : Prop := ∀ i, l.getD i 0 < 65536

theorem V_take_drop (l : List Nat) (n : Nat) : V l = V (l.take n) + 65536 ^ n * V (l.drop n) := by
  induction n generalizing l with
  | zero => simp [V]
  | succ n ih =>
    cases l with
    | nil => simp [V]
    | cons d l =>
      simp only [List.take_succ_cons, List.drop_succ_cons, V]
      rw [ih l, Nat.pow_succ, Nat.mul_add]
      rw [Nat.add_assoc, Nat.mul_comm (65536 ^ n) 65536, Nat.mul_assoc]
theorem V_set (l : List Nat) (i x : Nat) (h : i < l.length) : V (l.set i x) + l.getD i 0 * 65536 ^ i = V l + x * 65536 ^ i := by
  induction l generalizing i with
  | nil => cases h
  | cons d l ih =>
    cases i with
    | zero => simp [V]; omega
    | succ i =>
      have := ih i (by simpa using h)
      simp only [List.set_cons_succ, V, List.getD_cons_succ, Nat.pow_succ]
      have e1 : l.getD i 0 * (65536 ^ i * 65536) = 65536 * (l.getD i 0 * 65536 ^ i) := by rw [← Nat.mul_assoc, Nat.mul_comm]
      have e2 : x * (65536 ^ i * 65536) = 65536 * (x * 65536 ^ i) := by rw [← Nat.mul_assoc, Nat.mul_comm]
      rw [e1, e2]
      omega
theorem V_zero (n : Nat) : V (List.replicate n 0) = 0 := by
  induction n with
  | zero => rfl
  | succ n ih => rw [List.replicate_succ, V, ih]
theorem Dig.cons {d : Nat} {l : List Nat} (h : Dig (d :: l)) : d < 65536 ∧ Dig l := ⟨h 0, fun i => by simpa using h (i + 1)⟩
theorem V_lt (l : List Nat) (h : Dig l) : V l < 65536 ^ l.length := by
  induction l with
  | nil => simp [V]
  | cons d l ih =>
    obtain ⟨h1, h2⟩ := h.cons
    have := ih h2
    rw [V, List.length_cons, Nat.pow_succ]
    omega
theorem V_succ (l : List Nat) (k : Nat) (h : k < l.length) : V (l.take (k + 1)) = V (l.take k) + l.getD k 0 * 65536 ^ k := by
  induction k generalizing l with
  | zero =>
    cases l with
    | nil => cases h
    | cons d l => simp [V]
  | succ k ih =>
    cases l with
    | nil => cases h
    | cons d l =>
      have := ih l (by simpa using h)
      simp only [List.take_succ_cons, V, List.getD_cons_succ] at this ⊢
      rw [this, Nat.pow_succ, Nat.mul_add, ← Nat.mul_assoc (l.getD k 0), Nat.mul_comm (l.getD k 0 * 65536 ^ k) 65536]
      omega
theorem V_drop (l : List Nat) (k : Nat) (h : k < l.length) : V (l.drop k) = l.getD k 0 + 65536 * V (l.drop (k + 1)) := by
  rw [List.drop_eq_getElem_cons h, V, List.getD_eq_getElem?_getD, List.getElem?_eq_getElem h]
  rfl

/-! the product, as it is reckoned -/
def tIn (ai i : Nat) (b : List Nat) (out : List Nat) : Nat → List Nat × Nat
  | 0 => (out, 0)
  | k + 1 => ((tIn ai i b out k).1.set (i + k) (((tIn ai i b out k).1.getD (i + k) 0 + ai * b.getD k 0 + (tIn ai i b out k).2) % 65536), ((tIn ai i b out k).1.getD (i + k) 0 + ai * b.getD k 0 + (tIn ai i b out k).2) / 65536)
def tOut (a b : List Nat) : Nat → List Nat
  | 0 => List.replicate (a.length + b.length) 0
  | i + 1 => (tIn (a.getD i 0) i b (tOut a b i) b.length).1.set (i + b.length) ((tIn (a.getD i 0) i b (tOut a b i) b.length).1.getD (i + b.length) 0 + (tIn (a.getD i 0) i b (tOut a b i) b.length).2)
def timesL (a b : List Nat) : List Nat := tOut a b a.length

theorem getD_set (l : List Nat) (i j x : Nat) : (l.set i x).getD j 0 = if i = j ∧ j < l.length then x else l.getD j 0 := by
  rw [List.getD_eq_getElem?_getD, List.getElem?_set, List.getD_eq_getElem?_getD]
  by_cases h : i = j
  · subst h
    by_cases h2 : i < l.length
    · simp [h2]
    · simp [h2]
  · simp [h]
theorem dig_set {l : List Nat} (h : Dig l) (i x : Nat) (hx : x < 65536) : Dig (l.set i x) := fun j => by
  rw [getD_set]
  split
  · exact hx
  · exact h j
theorem t_lt {o ai b c : Nat} (ho : o < 65536) (ha : ai < 65536) (hb : b < 65536) (hc : c < 65536) : o + ai * b + c < 4294967296 := by
  have : ai * b ≤ 65535 * 65535 := Nat.mul_le_mul (by omega) (by omega)
  omega

structure InOk (ai i : Nat) (b out : List Nat) (k : Nat) : Prop where
  len : (tIn ai i b out k).1.length = out.length
  dig : Dig (tIn ai i b out k).1
  carry : (tIn ai i b out k).2 < 65536
  far : ∀ j, i + b.length ≤ j → (tIn ai i b out k).1.getD j 0 = out.getD j 0
  val : V (tIn ai i b out k).1 + (tIn ai i b out k).2 * 65536 ^ (i + k) = V out + ai * V (b.take k) * 65536 ^ i
theorem inOk {ai i : Nat} {b out : List Nat} (ha : ai < 65536) (hb : Dig b) (ho : Dig out) (hl : i + b.length < out.length) (k : Nat) (hk : k ≤ b.length) : InOk ai i b out k := by
  induction k with
  | zero => exact ⟨rfl, ho, by simp [tIn], fun _ _ => rfl, by simp [tIn, V]⟩
  | succ k ih =>
    obtain ⟨h1, h2, h3, h4, h5⟩ := ih (by omega)
    have ht := t_lt (h2 (i + k)) ha (hb k) h3
    refine ⟨?_, ?_, ?_, ?_, ?_⟩
    · rw [tIn]; simp only; rw [List.length_set, h1]
    · rw [tIn]; exact dig_set h2 _ _ (Nat.mod_lt _ (by decide))
    · rw [tIn]; simp only; omega
    · intro j hj
      rw [tIn]
      simp only
      rw [getD_set, if_neg (by omega), h4 j hj]
    · rw [tIn]
      simp only
      have hs := V_set (tIn ai i b out k).1 (i + k) (((tIn ai i b out k).1.getD (i + k) 0 + ai * b.getD k 0 + (tIn ai i b out k).2) % 65536) (by omega)
      have hv := V_succ b k (by omega)
      rw [hv]
      generalize (tIn ai i b out k).1 = o at *
      generalize (tIn ai i b out k).2 = c at *
      generalize o.getD (i + k) 0 = d at *
      generalize b.getD k 0 = e at *
      generalize V (b.take k) = Vb at *
      obtain ⟨P, hP⟩ : ∃ P, P = 65536 ^ (i + k) := ⟨_, rfl⟩
      obtain ⟨R, hR⟩ : ∃ R, R = 65536 ^ i := ⟨_, rfl⟩
      have hPR : P = 65536 ^ k * R := by rw [hP, hR, ← Nat.pow_add, Nat.add_comm]
      rw [← Nat.add_assoc i k 1, Nat.pow_succ, ← hP, ← hR]
      rw [← hP, ← hR] at h5
      rw [← hP] at hs
      have e1 : (d + ai * e + c) / 65536 * (P * 65536) = (65536 * ((d + ai * e + c) / 65536)) * P := by rw [Nat.mul_comm P, ← Nat.mul_assoc, Nat.mul_comm _ 65536]
      rw [e1]
      have e2 : (d + ai * e + c) % 65536 * P + 65536 * ((d + ai * e + c) / 65536) * P = (d + ai * e + c) * P := by rw [← Nat.add_mul, Nat.mod_add_div]
      have e3 : (d + ai * e + c) * P = d * P + ai * e * P + c * P := by rw [Nat.add_mul, Nat.add_mul]
      have e4 : ai * (Vb + e * 65536 ^ k) * R = ai * Vb * R + ai * e * P := by
        rw [hPR, Nat.mul_add, Nat.add_mul, ← Nat.mul_assoc, ← Nat.mul_assoc]
      rw [e4]
      omega

structure OutOk (a b : List Nat) (i : Nat) : Prop where
  len : (tOut a b i).length = a.length + b.length
  dig : Dig (tOut a b i)
  far : ∀ j, i + b.length ≤ j → (tOut a b i).getD j 0 = 0
  val : V (tOut a b i) = V (a.take i) * V b
theorem outOk {a b : List Nat} (ha : Dig a) (hb : Dig b) (i : Nat) (hi : i ≤ a.length) : OutOk a b i := by
  induction i with
  | zero =>
    refine ⟨by simp [tOut], fun j => ?_, fun j _ => ?_, by simp [tOut, V, V_zero]⟩
    · rw [tOut, List.getD_eq_getElem?_getD, List.getElem?_replicate]; split <;> simp
    · rw [tOut, List.getD_eq_getElem?_getD, List.getElem?_replicate]; split <;> simp
  | succ i ih =>
    obtain ⟨h1, h2, h3, h4⟩ := ih (by omega)
    have hin := inOk (i := i) (ha i) hb h2 (by omega) b.length (Nat.le_refl _)
    obtain ⟨g1, g2, g3, g4, g5⟩ := hin
    have hz := g4 (i + b.length) (Nat.le_refl _)
    rw [h3 _ (Nat.le_refl _)] at hz
    refine ⟨?_, ?_, ?_, ?_⟩
    · rw [tOut, List.length_set, g1, h1]
    · rw [tOut]; exact dig_set g2 _ _ (by rw [hz]; omega)
    · intro j hj
      rw [tOut, getD_set, if_neg (by omega), g4 j (by omega), h3 j (by omega)]
    · rw [tOut]
      have hs := V_set (tIn (a.getD i 0) i b (tOut a b i) b.length).1 (i + b.length) ((tIn (a.getD i 0) i b (tOut a b i) b.length).1.getD (i + b.length) 0 + (tIn (a.getD i 0) i b (tOut a b i) b.length).2) (by omega)
      rw [hz] at hs ⊢
      rw [Nat.zero_add] at hs ⊢
      rw [Nat.zero_mul, Nat.add_zero] at hs
      rw [hs, g5, h4, List.take_of_length_le (Nat.le_refl _), V_succ a i (by omega), Nat.add_mul]
      rw [Nat.mul_assoc, Nat.mul_assoc, Nat.mul_comm (V b)]
theorem V_times {a b : List Nat} (ha : Dig a) (hb : Dig b) : V (timesL a b) = V a * V b := by
  have := (outOk ha hb a.length (Nat.le_refl _)).val
  rwa [List.take_of_length_le (Nat.le_refl _)] at this
theorem timesL_length {a b : List Nat} (ha : Dig a) (hb : Dig b) : (timesL a b).length = a.length + b.length := (outOk ha hb a.length (Nat.le_refl _)).len
theorem timesL_dig {a b : List Nat} (ha : Dig a) (hb : Dig b) : Dig (timesL a b) := (outOk ha hb a.length (Nat.le_refl _)).dig

/-! is a power above a number? -/
theorem above_split (m : List Nat) (hm : Dig m) (n p : Nat) (hn : n ≤ m.length) : (decide (p < V (m.drop n)) || (decide (V (m.drop n) = p) && decide (V (m.take n) ≠ 0))) = decide (p * 65536 ^ n < V m) := by
  have h1 := V_take_drop m n
  have hd : Dig (m.take n) := fun i => by
    rw [List.getD_eq_getElem?_getD, List.getElem?_take]
    split
    · rw [← List.getD_eq_getElem?_getD]; exact hm i
    · simp
  have h2 := V_lt _ hd
  rw [List.length_take, Nat.min_eq_left hn] at h2
  generalize V (m.drop n) = hi at *
  generalize V (m.take n) = lo at *
  generalize V m = v at *
  generalize 65536 ^ n = N at *
  rw [Bool.eq_iff_iff]
  simp only [Bool.or_eq_true, Bool.and_eq_true, decide_eq_true_eq]
  rw [h1]
  constructor
  · rintro (h | ⟨rfl, h⟩)
    · have : (p + 1) * N ≤ hi * N := Nat.mul_le_mul_right _ h
      rw [Nat.add_mul, Nat.mul_comm hi] at this
      omega
    · rw [Nat.mul_comm]; omega
  · intro h
    rcases Nat.lt_or_ge p hi with h' | h'
    · exact .inl h'
    · have : hi * N ≤ p * N := Nat.mul_le_mul_right _ h'
      rw [Nat.mul_comm hi] at this
      have e : N * hi = p * N ∨ N * hi < p * N := by omega
      rcases e with e | e
      · right
        have hN : 0 < N := by omega
        have : hi = p := by
          rw [Nat.mul_comm] at e
          exact Nat.eq_of_mul_eq_mul_right hN e
        exact ⟨this, by omega⟩
      · exfalso
        have : hi < p := by
          rcases Nat.lt_or_ge hi p with q | q
          · exact q
          · have := Nat.mul_le_mul_right N q
            rw [Nat.mul_comm hi] at this
            omega
        have : (hi + 1) * N ≤ p * N := Nat.mul_le_mul_right _ this
        rw [Nat.add_mul, Nat.mul_comm hi] at this
        omega
def pieces (y : Nat) : List Nat := [y % 65536, y / 65536 % 65536, y / 4294967296]
theorem pieces_dig (y : Nat) (h : y < 281474976710656) : Dig (pieces y) := fun i => by
  unfold pieces
  match i with
  | 0 => simp; omega
  | 1 => simp; omega
  | 2 => simp; omega
  | i + 3 => simp
theorem V_pieces (y : Nat) : V (pieces y) = y := by
  simp [pieces, V]
  omega
def aboveP (y p : Nat) (cube : Bool) : Bool := if cube then decide (p * 65536 ^ 6 < y * y * y) else decide (p * 65536 ^ 4 < y * y)

/-! the roots -/
def rootTo (p : Nat) (cube : Bool) : Nat → Nat
  | 0 => 0
  | j + 1 => if aboveP (rootTo p cube j + 68719476736 / 2 ^ j) p cube then rootTo p cube j else rootTo p cube j + 68719476736 / 2 ^ j
theorem rootTo_lt (p : Nat) (cube : Bool) (j : Nat) (hj : j ≤ 37) : rootTo p cube j + 137438953472 / 2 ^ j ≤ 137438953472 := by
  induction j with
  | zero => simp [rootTo]
  | succ j ih =>
    have := ih (by omega)
    have e : 137438953472 / 2 ^ j = 2 * (68719476736 / 2 ^ j) := by
      obtain ⟨r, hr⟩ : ∃ r, 36 = j + r := ⟨36 - j, by omega⟩
      have e1 : (68719476736 : Nat) = 2 ^ j * 2 ^ r := by rw [← Nat.pow_add, ← hr]
      have e2 : (137438953472 : Nat) = 2 ^ j * (2 * 2 ^ r) := by rw [Nat.mul_left_comm, ← e1]
      rw [e2, Nat.mul_div_cancel_left _ (Nat.two_pow_pos j), e1, Nat.mul_div_cancel_left _ (Nat.two_pow_pos j)]
    have e3 : 137438953472 / 2 ^ (j + 1) = 68719476736 / 2 ^ j := by
      rw [Nat.pow_succ, ← Nat.div_div_eq_div_mul, e]
      omega
    rw [rootTo, e3]
    split <;> omega
def rootR (p : Nat) (cube : Bool) : Nat := rootTo p cube 37 % 4294967296
/-- is there no divisor below d? -/
def noDiv (p d : Nat) : Bool := (List.range d).all fun k => k < 2 || p % k != 0
theorem noDiv_succ (p d : Nat) (h : 2 ≤ d) : noDiv p (d + 1) = (noDiv p d && (p % d != 0)) := by
  unfold noDiv
  have hd : decide (d < 2) = false := by rw [decide_eq_false_iff_not]; omega
  rw [List.range_succ, List.all_append]
  simp [hd]
def isP (p : Nat) : Bool := (List.range (p + 1)).all fun k => k < 2 || p < k * k || p % k != 0
theorem noDiv_isP (p d : Nat) (h1 : p < d * d) (h2 : ∀ k, k < d → 2 ≤ k → k * k ≤ p) : noDiv p d = isP p := by
  unfold noDiv isP
  rw [Bool.eq_iff_iff, List.all_eq_true, List.all_eq_true]
  simp only [List.mem_range, Bool.or_eq_true, decide_eq_true_eq, bne_iff_ne]
  constructor
  · intro h k hk
    rcases Nat.lt_or_ge k d with hd | hd
    · rcases h k hd with h | h
      · exact .inl (.inl h)
      · exact .inr h
    · left; right
      exact Nat.lt_of_lt_of_le h1 (Nat.mul_le_mul hd hd)
  · intro h k hk
    rcases Nat.lt_or_ge k 2 with h3 | h3
    · exact .inl h3
    · have hkk := h2 k hk h3
      have hkp : k ≤ p := Nat.le_trans (Nat.le_mul_self k) hkk
      rcases h k (by omega) with (h | h) | h
      · exact .inl h
      · omega
      · exact .inr h
/-- the primes below a number -/
def primesTo (q : Nat) : List Nat := (List.range q).filter fun p => 2 ≤ p && isP p
theorem primesTo_succ (q : Nat) (h : 2 ≤ q) : primesTo (q + 1) = primesTo q ++ if isP q then [q] else [] := by
  unfold primesTo
  rw [List.range_succ, List.filter_append]
  congr 1
  by_cases hp : isP q
  · simp [List.filter_cons, hp, h]
  · simp [List.filter_cons, hp]
theorem primesTo_mono (p q : Nat) (h : p ≤ q) : (primesTo p).length ≤ (primesTo q).length := by
  obtain ⟨r, rfl⟩ : ∃ r, q = p + r := ⟨q - p, by omega⟩
  unfold primesTo
  rw [List.range_add, List.filter_append, List.length_append]
  omega
theorem roots64 : (primesTo 312).map (rootR · true) = rootsL := by kernel_rfl
theorem roots8 : (primesTo 20).map (rootR · false) = start.list := by kernel_rfl
theorem primes311 : (primesTo 311).length = 63 := by kernel_rfl
theorem primes19 : (primesTo 19).length = 7 := by kernel_rfl
end Go.Proofs.YtbhoeiopckmfhaaGreatDoor

namespace Go.Proofs.YtbhoeiopckmfhaaGreatDoor
open Go.RowKit

def u64s (l : List Nat) : List Value := l.map fun n : Nat => Value.int .u64 (n : Int)
theorem u64s_length (l : List Nat) : (u64s l).length = l.length := by simp [u64s]
theorem u64s_at (l : List Nat) (i : Nat) (h : i < l.length) : (u64s l)[i]? = some (.int .u64 (l.getD i 0 : Nat)) := by
  simp [u64s, List.getElem?_eq_getElem h, List.getD_eq_getElem?_getD]
theorem u64s_set (l : List Nat) (i x : Nat) : u64s (l.set i x) = (u64s l).set i (.int .u64 x) := by simp [u64s, List.map_set]
/-- a slice that holds these numbers -/
def NumsAt (w : World) (v : Value) (L : List Nat) : Prop := ∃ g o cap, v = .slice (some ⟨g, o, none⟩) L.length cap ∧ ∀ i, i < L.length → w.cell? ⟨g, o + i, none⟩ = some (.int .u64 (L.getD i 0 : Nat))
theorem NumsAt.kept {w w' : World} {v : Value} {L : List Nat} (h : NumsAt w v L) (hg : w.grownBy w' none) : NumsAt w' v L := by
  obtain ⟨g, o, cap, rfl, hc⟩ := h
  exact ⟨g, o, cap, rfl, fun i hi => hg.cell (hc i hi) (by simp)⟩
/-- a block that holds just these numbers -/
def RowAt (w : World) (g : Nat) (L : List Nat) : Prop := w.heap[g]? = some (.cells (u64s L).toArray 32 (0, 0))
theorem RowAt.cell {w : World} {g : Nat} {L : List Nat} (h : RowAt w g L) (i : Nat) (hi : i < L.length) : w.cell? ⟨g, i, none⟩ = some (.int .u64 (L.getD i 0 : Nat)) := by
  rw [cell_of h, List.getElem?_toArray, u64s_at _ _ hi]
theorem RowAt.nums {w : World} {g : Nat} {L : List Nat} (h : RowAt w g L) (cap : Nat) : NumsAt w (.slice (some ⟨g, 0, none⟩) L.length cap) L :=
  ⟨g, 0, cap, rfl, fun i hi => by rw [Nat.zero_add]; exact h.cell i hi⟩
theorem RowAt.put {w : World} {g : Nat} {L : List Nat} (h : RowAt w g L) (i x : Nat) : RowAt (w.setCell ⟨g, i, none⟩ (.int .u64 x)) g (L.set i x) := by
  unfold RowAt
  rw [heap_setCell h, List.setIfInBounds_toArray, ← u64s_set]
theorem RowAt.kept {w w' : World} {row : Option Nat} {g : Nat} {L : List Nat} (h : RowAt w g L) (hg : w.grownBy w' row) (hr : row ≠ some g) : RowAt w' g L := by
  unfold RowAt
  rw [hg.block g (Array.getElem?_eq_some_iff.1 h).1 (fun e => hr e.symm)]
  exact h
theorem RowAt.drewN {w : World} {g : Nat} {L : List Nat} (h : RowAt w g L) (n : Nat) : RowAt (w.drewN n) g L := h
theorem row_of_own {w : World} {B g n : Nat} {L : List Nat} (h : w.ownsRow B 32 1 (.slice (some ⟨g, 0, none⟩) n n) n (u64s L)) : RowAt w g L := by
  rcases h.2 with ⟨h', _⟩ | ⟨g', cap', cur, h', _, hg, _, _, hcs, htake⟩
  · simp at h'
  · simp only [Value.slice.injEq, Option.some.injEq, Addr.mk.injEq, and_true, true_and] at h'
    obtain ⟨rfl, rfl⟩ := h'
    unfold RowAt
    rw [hg, ← htake, List.take_of_length_le (by simp [hcs])]
theorem infoU64 : (Tryz.prog.info? 32).map (fun i => (i.zero, i.size, i.bytes)) = some (some (.int .u64 0), 1, 8) := by kernel_rfl
theorem made_u64 (n : Nat) : (madeCells #[Value.int .u64 0] n).toList = u64s (List.replicate n 0) := by
  apply List.ext_getElem?
  intro i
  simp [madeCells, u64s, List.getElem?_replicate]
  by_cases h : i < n <;> simp [h, Nat.mod_one]

end Go.Proofs.YtbhoeiopckmfhaaGreatDoor

namespace Go.Proofs.YtbhoeiopckmfhaaGreatDoor
open Go.RowKit

theorem size_alloc (w : World) (o : Obj) : (w.alloc o).heap.size = w.heap.size + 1 := by simp
theorem V_drop_le (m : List Nat) (i : Nat) : V (m.drop i) * 65536 ^ i ≤ V m := by
  have := V_take_drop m i
  rw [Nat.mul_comm] at this
  omega
theorem drop_small {m : List Nat} {i n v : Nat} (hi : n ≤ i) (hv : V m < v * 65536 ^ n) : V (m.drop i) < v := by
  have h1 := V_drop_le m i
  have h2 : 65536 ^ n ≤ 65536 ^ i := Nat.pow_le_pow_right (by decide) hi
  have h3 : V (m.drop i) * 65536 ^ n ≤ V (m.drop i) * 65536 ^ i := Nat.mul_le_mul_left _ h2
  have h4 : V (m.drop i) * 65536 ^ n < v * 65536 ^ n := by omega
  exact Nat.lt_of_mul_lt_mul_right h4
/-- the whole part and the rest, from a place on -/
def wholeAt (m : List Nat) (n k : Nat) : Nat := V (m.drop (max k n))
def restAt (m : List Nat) (n k : Nat) : Bool := decide (V ((m.take n).drop k) ≠ 0)
theorem whole0 (m : List Nat) (n : Nat) : wholeAt m n 0 = V (m.drop n) := by rw [wholeAt, Nat.max_eq_right (Nat.zero_le n)]
theorem rest0 (m : List Nat) (n : Nat) : restAt m n 0 = decide (V (m.take n) ≠ 0) := by rw [restAt, List.drop_zero]
theorem above_sq_is (y p : Nat) : aboveP y p false = decide (p * 65536 ^ 4 < y * y) := by simp only [aboveP, Bool.false_eq_true, ↓reduceIte]
theorem above_cube_is (y p : Nat) : aboveP y p true = decide (p * 65536 ^ 6 < y * y * y) := by simp only [aboveP, ↓reduceIte]
theorem step_hi {m : List Nat} {n k : Nat} (h : n ≤ k) (hk : k < m.length) : wholeAt m n k = wholeAt m n (k + 1) * 65536 + m.getD k 0 ∧ restAt m n k = restAt m n (k + 1) := by
  refine ⟨?_, ?_⟩
  · rw [wholeAt, wholeAt, Nat.max_eq_left h, Nat.max_eq_left (by omega), V_drop m k hk]
    omega
  · rw [restAt, restAt, List.drop_of_length_le (by simp; omega), List.drop_of_length_le (by simp; omega)]
theorem step_lo {m : List Nat} {n k : Nat} (h : k < n) (hn : n ≤ m.length) : wholeAt m n k = wholeAt m n (k + 1) ∧ restAt m n k = (decide (0 < m.getD k 0) || restAt m n (k + 1)) := by
  refine ⟨?_, ?_⟩
  · rw [wholeAt, wholeAt, Nat.max_eq_right (by omega), Nat.max_eq_right (by omega)]
  · have hl : k < (m.take n).length := by simp; omega
    rw [restAt, restAt, V_drop _ k hl, Bool.eq_iff_iff]
    have e : (m.take n).getD k 0 = m.getD k 0 := by
      rw [List.getD_eq_getElem?_getD, List.getElem?_take, if_pos h, ← List.getD_eq_getElem?_getD]
    rw [e]
    simp
    omega

end Go.Proofs.YtbhoeiopckmfhaaGreatDoor

namespace Go.Proofs.YtbhoeiopckmfhaaGreatDoor
open Go.RowKit

end Go.Proofs.YtbhoeiopckmfhaaGreatDoor

namespace Go.Proofs.YtbhoeiopckmfhaaGreatDoor
open Go.RowKit

theorem bit_next (j : Nat) : 68719476736 / 2 ^ (j + 1) = 68719476736 / 2 ^ j / 2 := by rw [Nat.pow_succ, Nat.div_div_eq_div_mul]
theorem bit_pos (j : Nat) (h : j < 37) : 0 < 68719476736 / 2 ^ j := by
  refine Nat.div_pos ?_ (Nat.two_pow_pos j)
  have : 2 ^ j ≤ 2 ^ 36 := Nat.pow_le_pow_right (by decide) (by omega)
  simpa using this
theorem bit_le (j : Nat) : 68719476736 / 2 ^ j ≤ 68719476736 := Nat.div_le_self _ _
theorem bit_twice (j : Nat) (h : j < 37) : 137438953472 / 2 ^ j = 2 * (68719476736 / 2 ^ j) := by
  obtain ⟨r, hr⟩ : ∃ r, 36 = j + r := ⟨36 - j, by omega⟩
  have e1 : (68719476736 : Nat) = 2 ^ j * 2 ^ r := by rw [← Nat.pow_add, ← hr]
  have e2 : (137438953472 : Nat) = 2 ^ j * (2 * 2 ^ r) := by rw [Nat.mul_left_comm, ← e1]
  rw [e2, Nat.mul_div_cancel_left _ (Nat.two_pow_pos j), e1, Nat.mul_div_cancel_left _ (Nat.two_pow_pos j)]

/-- the primes' roots -/
def rootsTo (q : Nat) (cube : Bool) : List Nat := (primesTo q).map (rootR · cube)
theorem rootsTo_length (q : Nat) (cube : Bool) : (rootsTo q cube).length = (primesTo q).length := by simp [rootsTo]
theorem rootsTo_succ (q : Nat) (cube : Bool) (h : 2 ≤ q) : rootsTo (q + 1) cube = rootsTo q cube ++ if isP q then [rootR q cube] else [] := by
  rw [rootsTo, rootsTo, primesTo_succ q h, List.map_append]
  congr 1
  split <;> rfl
theorem slice_of_own {w : World} {B n : Nat} {t : TypeId} {v : Value} {xs : List Value} (h : w.ownsRow B t 1 v n xs) : ∃ a cap, v = .slice a n cap := by
  rcases h.2 with ⟨rfl, rfl⟩ | ⟨g, cap, cur, rfl, _⟩
  · exact ⟨_, _, rfl⟩
  · exact ⟨_, _, rfl⟩
theorem u64_kept {w w' : World} {B n : Nat} {v : Value} {xs : List Value} (h : w.ownsRow B 32 1 v n xs) (hg : w.grownBy w' none) : w'.ownsRow B 32 1 v n xs := by
  refine ⟨h.1, ?_⟩
  rcases h.2 with h' | ⟨g, cap, cur, rfl, a, hgg, r⟩
  · exact .inl h'
  · refine .inr ⟨g, cap, cur, rfl, a, ?_, r⟩
    rw [hg.block g (Array.getElem?_eq_some_iff.1 hgg).1 (by simp)]
    exact hgg

end Go.Proofs.YtbhoeiopckmfhaaGreatDoor

namespace Go.Proofs.YtbhoeiopckmfhaaGreatDoor
open Go.RowKit

theorem word_rows {w : World} {B n : Nat} {v : Value} {L : List Nat} (h : w.ownsRow B 32 1 v n (u64s L)) (hn : 0 < n) : ∃ g cap cur, v = .slice (some ⟨g, 0, none⟩) n cap ∧ B ≤ g ∧ n ≤ cap ∧ w.heap[g]? = some (.cells cur 32 (0, 0)) ∧ ∀ i, i < n → w.cell? ⟨g, i, none⟩ = some (.int .u64 (L.getD i 0 : Nat)) := by
  have hl := h.1
  rw [u64s_length] at hl
  rcases h.2 with ⟨_, h0⟩ | ⟨g, cap, cur, rfl, hB, hg, hnc, hm, hcs, htake⟩
  · omega
  · refine ⟨g, cap, cur, rfl, hB, hnc, hg, fun i hi => ?_⟩
    rw [cell_of hg]
    have := u64s_at L i (by omega)
    rw [← htake, List.getElem?_take, if_pos (by omega)] at this
    simpa using this

/-- 'string([]byte{c})' -/
theorem one_string (w : World) (c : UInt8) (x : Int) (hx : x = c.toNat) :
    (convert 23 9 (.slice (some ⟨w.heap.size, 0, none⟩) 1 1)).run Tryz.prog (w.alloc (.cells #[.int .u8 x] 5)) = .ok (.string (str [c])) (w.alloc (.cells #[.int .u8 x] 5)) := by
  subst hx
  exact row_string (w := w.alloc (.cells #[.int .u8 c.toNat] 5)) (g := w.heap.size) (l := [c]) (t := 5) (heap_alloc_at _ _ _ rfl) 1
/-- what the walk over the blocks keeps: the roots, the state -/
structure RW (w wr : World) (bk bh : Nat) (L : List Nat) : Prop where
  g : w.grownBy wr none
  k : ∀ i, i < 64 → wr.cell? ⟨bk, i, none⟩ = some (.int .u64 (rootsL.getD i 0 : Nat))
  c : ∃ cur, wr.heap[bh]? = some (.cells cur 32 (0, 0))
  h : ∀ i, i < 8 → wr.cell? ⟨bh, i, none⟩ = some (.int .u64 (L.getD i 0 : Nat))
theorem RW.kept {w wr wq : World} {bk bh : Nat} {L : List Nat} (h : RW w wr bk bh L) (hg : wr.grownBy wq none) : RW w wq bk bh L := by
  refine ⟨grownBy_trans h.g hg, fun i hi => hg.cell (h.k i hi) (by simp), ?_, fun i hi => hg.cell (h.h i hi) (by simp)⟩
  obtain ⟨cur, hc⟩ := h.c
  exact ⟨cur, by rw [hg.block bh (Array.getElem?_eq_some_iff.1 hc).1 (by simp)]; exact hc⟩
theorem RW.free {w wr : World} {bk bh : Nat} {L : List Nat} (h : RW w wr bk bh L) (i : Nat) : wr.frozen? ⟨bh, i, none⟩ = false := by
  obtain ⟨cur, hc⟩ := h.c
  exact free_of hc i
theorem RW.put {w wr : World} {bk bh : Nat} {L : List Nat} (h : RW w wr bk bh L) (hb : w.heap.size ≤ bh) (hkh : bk ≠ bh) (hL : L.length = 8) (i x : Nat) (hi : i < 8) : RW w (wr.setCell ⟨bh, i, none⟩ (.int .u64 x)) bk bh (L.set i x) := by
  obtain ⟨cur, hc⟩ := h.c
  have hs := heap_setCell hc i (.int .u64 x)
  refine ⟨grownBy_setNew h.g hb _ _, fun j hj => ?_, ⟨_, hs⟩, fun j hj => ?_⟩
  · rw [← h.k j hj]
    unfold World.cell?
    simp only [heap_setCell_ne _ _ _ _ (Ne.symm hkh)]
  · rw [cell_of hs]
    have := h.h j hj
    rw [cell_of hc] at this
    have hz : j < cur.size := (Array.getElem?_eq_some_iff.1 this).1
    by_cases e : i = j
    · subst e
      rw [Array.getElem?_setIfInBounds_self_of_lt hz, List.getD_eq_getElem?_getD, List.getElem?_set_self (by omega)]
      rfl
    · rw [Array.getElem?_setIfInBounds_ne e, this, List.getD_eq_getElem?_getD, List.getD_eq_getElem?_getD, List.getElem?_set_ne e]
theorem RW.drewN {w wr : World} {bk bh : Nat} {L : List Nat} (h : RW w wr bk bh L) (n : Nat) : RW w (wr.drewN n) bk bh L := ⟨grownBy_drewN h.g n, h.k, h.c, h.h⟩

theorem RW.side {w wr : World} {bk bh : Nat} {L : List Nat} (h : RW w wr bk bh L) {A : Nat} (hA : w.heap.size ≤ A ∧ bk ≠ A ∧ bh ≠ A) (i : Nat) (v : Value) : RW w (wr.setCell ⟨A, i, none⟩ v) bk bh L := by
  obtain ⟨h0, h1, h2⟩ := hA
  refine ⟨grownBy_setNew h.g h0 _ _, fun j hj => ?_, ?_, fun j hj => ?_⟩
  · rw [← h.k j hj]
    unfold World.cell?
    simp only [heap_setCell_ne _ _ _ _ (Ne.symm h1)]
  · obtain ⟨cur, hc⟩ := h.c
    exact ⟨cur, by rw [heap_setCell_ne _ _ _ _ (Ne.symm h2)]; exact hc⟩
  · rw [← h.h j hj]
    unfold World.cell?
    simp only [heap_setCell_ne _ _ _ _ (Ne.symm h2)]
/-- .. and the words' block -/
structure BW (w wr : World) (bk bh A : Nat) (L X : List Nat) : Prop where
  r : RW w wr bk bh L
  x : RowAt wr A X
  a : w.heap.size ≤ A ∧ bk ≠ A ∧ bh ≠ A
theorem BW.put {w wr : World} {bk bh A : Nat} {L X : List Nat} (h : BW w wr bk bh A L X) (i x : Nat) : BW w (wr.setCell ⟨A, i, none⟩ (.int .u64 x)) bk bh A L (X.set i x) :=
  ⟨h.r.side h.a i _, h.x.put i x, h.a⟩
theorem BW.kept {w wr wq : World} {bk bh A : Nat} {L X : List Nat} (h : BW w wr bk bh A L X) (hg : wr.grownBy wq none) : BW w wq bk bh A L X :=
  ⟨h.r.kept hg, h.x.kept hg (by simp), h.a⟩
theorem BW.drew {w wr : World} {bk bh A : Nat} {L X : List Nat} (h : BW w wr bk bh A L X) : BW w wr.drew bk bh A L X := ⟨⟨grownBy_drew h.r.g, h.r.k, h.r.c, h.r.h⟩, h.x, h.a⟩
theorem BW.drewN {w wr : World} {bk bh A : Nat} {L X : List Nat} (h : BW w wr bk bh A L X) (n : Nat) : BW w (wr.drewN n) bk bh A L X := ⟨h.r.drewN n, h.x.drewN n, h.a⟩
theorem wordsZ_length (blk : List UInt8) (k : Nat) (h : k ≤ 64) : (wordsZ blk k).length = 64 := by simp [wordsZ, words_length]; omega
/-- a byte of the block at hand -/
theorem block_byte (u : ByteArray) (l : List UInt8) (at' i : Nat) (hu : u.data.toList = l) (h : at' + i < u.size) (hi : i < 64) : (u[at' + i]'h).toNat = (((l.drop at').take 64).getD i 0).toNat := by
  subst hu
  rw [List.getD_eq_getElem?_getD, List.getElem?_take, if_pos hi, List.getElem?_drop]
  have h2 : at' + i < u.data.toList.length := by simpa using h
  rw [List.getElem?_eq_getElem h2]
  rfl

/-- a call in a region that reads only, behind other such regions -/
theorem quiet_add {P : Program} {f : FuncId} {args : Array Value} {w : World} {a n : Nat} {v : Value}
    (h : Calls P f args (w.drewN (a + n)) fun e w' => e = .returned v ∧ ∃ m, w' = (w.drewN (a + n)).drewN m) :
    Calls P f args (w.drewN (a + n)) fun e w'' => e = .returned v ∧ ∃ m, w'' = w.drewN (a + m) :=
  h.mono fun _ _ ⟨he, m, hm⟩ => ⟨he, n + m, by rw [hm, World.drewN_drewN, Nat.add_assoc]⟩
theorem lt64 {a : Nat} (h : a < 4294967296) : a < 18446744073709551616 := by omega
theorem shr_64 {a b x n m : Nat} (ha : a < 4294967296) (hb : b < 4294967296) (hx : x < 4294967296) (hm : 2 ^ n = m) : bits .xor .u64 (bits .xor .u64 (a : Int) b) ((x : Int) / (m : Nat)) = ((a ^^^ b ^^^ x / 2 ^ n : Nat) : Int) := by
  have h3 : (x : Int) / (m : Nat) = ((x / 2 ^ n : Nat) : Int) := by rw [hm]; simp
  rw [h3, u64_xor_nat _ _ (lt64 ha) (lt64 hb), u64_xor_nat _ _ (lt64 (xor_lt ha hb)) (lt64 (div_lt32 hx))]
theorem xor3_64 {a b c : Nat} (ha : a < 4294967296) (hb : b < 4294967296) (hc : c < 4294967296) : bits .xor .u64 (bits .xor .u64 (a : Int) b) c = ((a ^^^ b ^^^ c : Nat) : Int) := by
  rw [u64_xor_nat _ _ (lt64 ha) (lt64 hb), u64_xor_nat _ _ (lt64 (xor_lt ha hb)) (lt64 hc)]

/-- the text of some words -/
def outTo (L : List Nat) (i : Nat) : List UInt8 := (L.take i).flatMap fun x => be x 4
theorem outTo_succ (st : St) (i : Nat) (h : i < 8) : outTo st.list (i + 1) = outTo st.list i ++ be (st.list.getD i 0) 4 := by
  have e : st.list.take (i + 1) = st.list.take i ++ [st.list.getD i 0] := by
    rw [List.take_succ_eq_append_getElem (by exact h), List.getD_eq_getElem?_getD, List.getElem?_eq_getElem (by exact h)]
    rfl
  rw [outTo, outTo, e, List.flatMap_append]
  simp
theorem half_at (s t : St) (i : Nat) (h : i < 8) : ((s.add t).list.take i ++ s.list.drop i).getD i 0 = s.list.getD i 0 := by
  obtain rfl | rfl | rfl | rfl | rfl | rfl | rfl | rfl : i = 0 ∨ i = 1 ∨ i = 2 ∨ i = 3 ∨ i = 4 ∨ i = 5 ∨ i = 6 ∨ i = 7 := by omega
  all_goals rfl
theorem half_succ (s t : St) (i : Nat) (h : i < 8) : ((s.add t).list.take i ++ s.list.drop i).set i ((s.list.getD i 0 + t.list.getD i 0) % 4294967296) = (s.add t).list.take (i + 1) ++ s.list.drop (i + 1) := by
  obtain rfl | rfl | rfl | rfl | rfl | rfl | rfl | rfl : i = 0 ∨ i = 1 ∨ i = 2 ∨ i = 3 ∨ i = 4 ∨ i = 5 ∨ i = 6 ∨ i = 7 := by omega
  all_goals rfl
theorem list_ok' {s : St} (h : s.ok) : ∀ x ∈ s.list, x < 4294967296 := by
  obtain ⟨ha, hb, hc, hd, he, hf, hg, hh⟩ := h
  intro x hx
  simp only [St.list, List.mem_cons, List.not_mem_nil, or_false] at hx
  rcases hx with rfl | rfl | rfl | rfl | rfl | rfl | rfl | rfl <;> assumption
theorem blocks_ok (l : List UInt8) (n : Nat) : (blocksTo start l n).ok := by
  cases n with
  | zero => exact start_ok
  | succ n => exact mix_ok _ _

/-- the text so far, as the document pads it -/
def padTo (l : List UInt8) (k : Nat) : List UInt8 := l ++ 128 :: List.replicate k 0

/-- the loops of a piece of code, the outer ones first -/
def loopsIn : Code → List Code
  | .loop c => c :: loopsIn c
  | .seq a b => loopsIn a ++ loopsIn b
  | .block _ c => loopsIn c
  | .scope c => loopsIn c
  | .cond _ a b => loopsIn a ++ loopsIn b
  | _ => []
/-- the body of a function's loop -/
noncomputable def loopBody (f : Func) (n : Nat) : Code := ((f.body.map loopsIn).getD []).getD n .skip
end Go.Proofs.YtbhoeiopckmfhaaGreatDoor

namespace Go.Proofs.YtbhoeiopckmfhaaGreatDoor
open Go.RowKit
attribute [local irreducible] shaL

theorem StrsAt.at' {w : World} {a : Option Addr} {n cap : Nat} {L : List ByteArray} (h : StrsAt w (.slice a n cap) L) (i : Nat) (x : ByteArray) (hx : L[i]? = some x) : ∃ g o, a = some ⟨g, o, none⟩ ∧ w.cell? ⟨g, o + i, none⟩ = some (.string x) := by
  obtain ⟨a', cap', he, hc⟩ := h
  cases he
  obtain ⟨hi, rfl⟩ := List.getElem?_eq_some_iff.1 hx
  exact hc i hi

end Go.Proofs.YtbhoeiopckmfhaaGreatDoor

namespace Go.Proofs.YtbhoeiopckmfhaaGreatDoor
open Go.RowKit Go.Maps
attribute [local irreducible] shaL

def pv (M : List PairS) : List Value := M.flatMap fun x => [.string x.1, .string x.2]
theorem pv_length : ∀ M : List PairS, (pv M).length = M.length * 2
  | [] => rfl
  | x :: r => by
    have := pv_length r
    simp only [pv, List.flatMap_cons, List.length_append, List.length_cons, List.length_nil] at this ⊢
    omega
theorem pv_append (M N : List PairS) : pv (M ++ N) = pv M ++ pv N := by simp [pv]
theorem pv_at : ∀ (M : List PairS) (i : Nat) (h : i < M.length), (pv M)[i * 2]? = some (.string M[i].1) ∧ (pv M)[i * 2 + 1]? = some (.string M[i].2)
  | x :: r, 0, _ => ⟨rfl, rfl⟩
  | x :: r, i + 1, h => by
    have ih := pv_at r i (by simpa using h)
    have e : pv (x :: r) = .string x.1 :: .string x.2 :: pv r := rfl
    rw [e, show (i + 1) * 2 = i * 2 + 1 + 1 by omega]
    simp only [List.getElem?_cons_succ, List.getElem_cons_succ]
    exact ih
def PairsAt (w : World) (v : Value) (M : List PairS) : Prop :=
  ∃ a cap, v = .slice a M.length cap ∧ M.length ≤ cap ∧ cap ≤ maxLen ∧ ∀ i (h : i < M.length), ∃ g o, a = some ⟨g, o, none⟩ ∧ w.cell? ⟨g, o + i * 2, none⟩ = some (.string M[i].1) ∧ w.cell? ⟨g, o + i * 2 + 1, none⟩ = some (.string M[i].2)
theorem PairsAt.grown {w w' : World} {v : Value} {M : List PairS} (h : PairsAt w v M) (k : w.grownBy w' none) : PairsAt w' v M := by
  obtain ⟨a, cap, e, h1, h2, hc⟩ := h
  refine ⟨a, cap, e, h1, h2, fun i hi => ?_⟩
  obtain ⟨g, o, e2, h3, h4⟩ := hc i hi
  exact ⟨g, o, e2, k.cell h3 (by simp), k.cell h4 (by simp)⟩
theorem own_low2 {w : World} {B B' n s : Nat} {t : TypeId} {v : Value} {xs : List Value} (h : w.ownsRow B t s v n xs) (hb : B' ≤ B) : w.ownsRow B' t s v n xs := by
  refine ⟨h.1, ?_⟩
  rcases h.2 with h' | ⟨g, cap, cur, rfl, hB, r⟩
  · exact .inl h'
  · exact .inr ⟨g, cap, cur, rfl, Nat.le_trans hb hB, r⟩
theorem eq_str (a b : ByteArray) : (a.toList == b.toList) = decide (a = b) := by
  rw [ByteArray.toList_eq, ByteArray.toList_eq, Bool.eq_iff_iff, beq_iff_eq, decide_eq_true_iff]
  exact ⟨fun h => ByteArray.ext (Array.toList_inj.1 h), fun h => by rw [h]⟩
theorem filter_step (M : List PairS) (P : PairS → Bool) (i : Nat) (h : i < M.length) : (M.take (i + 1)).filter P = (M.take i).filter P ++ (if P M[i] then [M[i]] else []) := by
  rw [List.take_succ_eq_append_getElem h, List.filter_append]
  congr 1
  by_cases hp : P M[i] = true
  · simp [hp]
  · simp [hp]
end Go.Proofs.YtbhoeiopckmfhaaGreatDoor

namespace Go.Proofs.YtbhoeiopckmfhaaGreatDoor
open Go.RowKit Go.Maps
attribute [local irreducible] shaL

theorem above1_any (k : ByteArray) (hk : k.size ≤ maxLen) (d db : Nat) (hd : d ≤ 128) (w : World) (hc : w.cell? ⟨db, 0, none⟩ = some (.int .i64 d)) :
    Calls Tryz.prog 156 #[.string k, .pointer (some ⟨db, 0, none⟩)] w fun e w' => e = .returned (.bool (bitS k d == 1)) ∧ w.grownBy w' none := by
  have HB := Lib.hid (bit_any k hk d (by omega) w)
  have hb := bitS_le k d
  have he : ((bitS k d : Int) == 1) = (bitS k d == 1) := by
    rcases Nat.lt_or_ge (bitS k d) 1 with h | h
    · have : bitS k d = 0 := by omega
      rw [this]; decide
    · have : bitS k d = 1 := by omega
      rw [this]; decide
  generalize bitS k d = x at HB he ⊢
  clear hb hk
  go_enter Tryz.func156, Tryz.ntmps156
  go_wp2_with fail
  refine HB.out.mono ?_
  rintro e w2 ⟨rfl, g2⟩
  have HG := Lib.hid g2
  clear g2
  go_wp2_with fail
  go_ret
  exact ⟨rfl, HG.out⟩
/-- the pairs of these keys -/
def pairsM (M : List PairS) (L : List ByteArray) : List PairS := L.map fun k => (k, valM M k)
set_option maxRecDepth 100000 in
/-- a tree's look-up, in whatever world -/
theorem TreeAt.run {n0 : Nat} {X : List Nat} {w : World} {b : Nat} {M : List PairS} {mv : Value} (h : TreeAt n0 X w b M mv) (k : ByteArray) (hk : k.size ≤ maxLen) (hh : hasM M k = true) : (Instr.lookup 132 mv (.string k) false).run Tryz.prog w = .ok (.string (valM M k)) w := by
  rcases h.map with ⟨rfl, rfl⟩ | ⟨mb, D, rfl, h1, h2, h3, h4⟩
  · exact absurd hh (by simp [hasM])
  · obtain ⟨v, ps, hrun, hv⟩ := h3.lookup strK Tryz.underlying132 (zeroStr w) (strR_mk ⟨#[]⟩ (by unfold maxLen; decide)) (keyV k hk)
    obtain ⟨s, rfl, hz, _⟩ := strR_inv hv
    have h5 := h4.val k
    have h6 := (Prod.mk.inj hz).1
    have h7 : (⟨#[]⟩ : ByteArray).data.toList = [] := rfl
    rw [h7, h5] at h6
    injection h6 with h6
    injection h6 with h6
    rw [hrun, ← ByteArray.ext (Array.toList_inj.1 h6)]
theorem TreeK.drew {n0 : Nat} {X : List Nat} {w : World} {b : Nat} {M : List PairS} (h : TreeK n0 X w b M) : TreeK n0 X w.drew b M := h.grown (grownBy_drew (World.grownBy.refl _ _))
theorem TreeAt.grown {n0 : Nat} {X : List Nat} {w w' : World} {b : Nat} {M : List PairS} {mv : Value} (h : TreeAt n0 X w b M mv) (k : w.grownBy w' none) : TreeAt n0 X w' b M mv := by
  refine ⟨k.heap h.blk (by simp), h.own, ?_⟩
  rcases h.map with hm | ⟨mb, D, rfl, h1, h2, h3, h4⟩
  · exact .inl hm
  · exact .inr ⟨mb, D, rfl, h1, h2, h3.kept k (by simp), h4⟩
/-- what a look-up at a key's cell reads, in whatever world behind -/
theorem one_reads {n0 : Nat} {X : List Nat} {w : World} {b g o : Nat} {M : List PairS} {mv : Value} {k v : ByteArray} (h : TreeAt n0 X w b M mv) (hk : k.size ≤ maxLen) (hh : hasM M k = true) (hv : valM M k = v) (hc : w.cell? ⟨g, o, none⟩ = some (.string k)) (w' : World) (q : w.grownBy w' none) :
    w'.cell? ⟨g, o, none⟩ = some (.string k) ∧ w'.cell? ⟨b, 0, none⟩ = some mv ∧ (Instr.lookup 132 mv (.string k) false).run Tryz.prog w' = .ok (.string v) w' := by
  have h1 := h.grown q
  refine ⟨q.cell hc (by simp), by rw [cell_of h1.blk]; rfl, ?_⟩
  rw [h1.run k hk hh, hv]
set_option maxRecDepth 100000 in
set_option maxHeartbeats 1600000 in
theorem above_one (n0 : Nat) (X : List Nat) (b : Nat) (M : List PairS) (a : Option Addr) (c : Nat) (k : ByteArray) (d : Int) (w : World) (hT : TreeK n0 X w b M) (hv : StrsAt w (.slice a 1 c) [k]) (hk : k.size ≤ 1000000) (hvs : (valM M k).size ≤ 1000000) (hh : hasM M k = true) (hr : ShaReady w) :
    Calls Tryz.prog 111 #[.pointer (some ⟨b, 0, none⟩), .slice a 1 c, .int .i64 d] w fun e w' => e = .returned (.string (leafS k (valM M k))) ∧ w.grownBy w' none := by
  have hg : w.grownBy (w.alloc (.cells #[.int .i64 d] 3)) none := World.grownBy_alloc _ _ _
  have hT2 := hT.grown hg
  obtain ⟨mv, hT3⟩ := hT2
  obtain ⟨g, o, rfl, hcell⟩ := hv.at_ 0 k rfl
  have hc1 : (w.alloc (.cells #[.int .i64 d] 3)).cell? ⟨g, o, none⟩ = some (.string k) := hg.cell hcell (by simp)
  have HL : Hid (∀ w' : World, w.grownBy w' none → Calls Tryz.prog 118 #[.string k, .string (valM M k)] w' fun e w'' => e = .returned (.string (leafS k (valM M k))) ∧ w'.grownBy w'' none) := Lib.hid (fun w' q => tleaf_any k (valM M k) (by omega) (by omega) w' (hr.grown q))
  have HG := Lib.hid hg
  obtain ⟨v, hvv⟩ : ∃ v, valM M k = v := ⟨_, rfl⟩
  have HK := Lib.hid (one_reads hT3 (by unfold maxLen; omega) hh hvv hc1)
  rw [hvv] at HL ⊢
  clear hT hT3 hv hh hr hg hk hvs hcell hc1 hvv
  go_enter Tryz.func111, Tryz.ntmps111
  go_wp2_with fail
  generalize w.alloc (.cells #[.int .i64 d] 3) = w1 at *
  go_region_held3 (fun w' => w'.cell? ⟨g, o, none⟩ = some (.string k) ∧ w'.cell? ⟨b, 0, none⟩ = some mv ∧ (Instr.lookup 132 mv (.string k) false).run Tryz.prog w' = .ok (.string v) w') (first | exact HK.out _ ck | exact HK.out _ (grownBy_drew (World.grownBy.refl _ _)))
    ((go_at_call 118; (with_reducible refine (HL.out _ (grownBy_drew HG.out)).mono ?_); rintro e w3 ⟨rfl, g3⟩; have ck := grownBy_trans (grownBy_drew (World.grownBy.refl w1 none)) g3))
  go_wp2_with fail
  go_ret
  exact ⟨rfl, grownBy_trans HG.out ck⟩
end Go.Proofs.YtbhoeiopckmfhaaGreatDoor

namespace Go.Proofs.YtbhoeiopckmfhaaGreatDoor
open Go.RowKit Go.Maps Go.Sort
attribute [local irreducible] shaL

def Rises (L : List ByteArray) : Prop := L.Pairwise fun x y => Op.bytesLess y.data.toList x.data.toList = false
theorem rises_sortK (M : List PairS) (P : ByteArray → Bool) : Rises (sortK M P) := by
  unfold Rises sortK
  rw [List.pairwise_map]
  refine (List.pairwise_mergeSort (fun a b c h1 h2 => ?_) (fun a b => ?_) _).imp fun {a b} h => ?_
  · simp only [decide_eq_true_eq] at h1 h2 ⊢
    exact List.le_trans h1 h2
  · simp only [Bool.or_eq_true, decide_eq_true_eq]
    exact List.le_total a b
  · show Op.bytesLess b a = false
    rw [bytesLess_eq]
    simp only [decide_eq_true_eq] at h
    simp
    exact h
def sideK (b d : Nat) (L : List ByteArray) : List ByteArray := L.filter fun k => bitS k d == b
theorem side_pairs (M : List PairS) (b d : Nat) (L : List ByteArray) : side b d (pairsM M L) = pairsM M (sideK b d L) := by
  unfold side pairsM sideK
  rw [List.filter_map]
  rfl
/-- where the ones begin -/
def cutK (L : List ByteArray) (d : Nat) : Nat := match L.findIdx? (fun k => bitS k d == 1) with
  | some i => i
  | none => L.length
theorem cutK_le (L : List ByteArray) (d : Nat) : cutK L d ≤ L.length := by
  unfold cutK
  split
  · rename_i i h
    have := (List.findIdx?_eq_some_iff_getElem.1 h).1
    omega
  · exact Nat.le_refl _
theorem firstI_cut (L : List ByteArray) (d : Nat) : (cutK L d = L.length ∧ firstI L (fun k => bitS k d == 1) = -1) ∨ (cutK L d < L.length ∧ firstI L (fun k => bitS k d == 1) = (cutK L d : Nat)) := by
  unfold cutK firstI
  cases h : L.findIdx? (fun k => bitS k d == 1) with
  | none => exact .inl ⟨rfl, rfl⟩
  | some i => exact .inr ⟨(List.findIdx?_eq_some_iff_getElem.1 h).1, rfl⟩
theorem cut_sides (L : List ByteArray) (d : Nat) (hd : d < 128) (hR : Rises L) (hl : ∀ k ∈ L, k.size = 16) (ha : ∀ x ∈ L, ∀ y ∈ L, ∀ i, i < d → bitS x i = bitS y i) : L.take (cutK L d) = sideK 0 d L ∧ L.drop (cutK L d) = sideK 1 d L := by
  have hz : ∀ j, (h : j < L.length) → j < cutK L d → bitS L[j] d = 0 := by
    intro j hj hc
    unfold cutK at hc
    have hb := bitS_le L[j] d
    cases h : L.findIdx? (fun k => bitS k d == 1) with
    | none =>
      have := List.findIdx?_eq_none_iff.1 h L[j] (List.getElem_mem _)
      simp at this
      omega
    | some i =>
      rw [h] at hc
      have := (List.findIdx?_eq_some_iff_getElem.1 h).2.2 j hc
      simp at this
      omega
  have ho : ∀ j, (h : j < L.length) → cutK L d ≤ j → bitS L[j] d = 1 := by
    intro j hj hc
    unfold cutK at hc
    have hb := bitS_le L[j] d
    cases h : L.findIdx? (fun k => bitS k d == 1) with
    | none => rw [h] at hc; simp at hc; omega
    | some i =>
      rw [h] at hc
      simp at hc
      obtain ⟨hi, h1, _⟩ := List.findIdx?_eq_some_iff_getElem.1 h
      have h1' : bitS L[i] d = 1 := by simpa using h1
      by_cases e : i = j
      · subst e; exact h1'
      · have hr := List.pairwise_iff_getElem.1 hR i j hi hj (by omega)
        by_cases h0 : bitS L[j] d = 1
        · exact h0
        · exfalso
          have := order_bit L[i].data.toList L[j].data.toList d (by rw [Array.length_toList]; exact hl _ (List.getElem_mem _)) (by rw [Array.length_toList]; exact hl _ (List.getElem_mem _)) hd (fun q hq => ha _ (List.getElem_mem _) _ (List.getElem_mem _) q hq) (fun e => h0 (e.symm.trans h1')) hr
          have h2 : bitS L[i] d = 0 := this.1
          omega
  have h0 : ∀ x ∈ L.take (cutK L d), bitS x d = 0 := by
    intro x hx
    obtain ⟨j, hj, rfl⟩ := List.getElem_of_mem hx
    rw [List.getElem_take]
    rw [List.length_take] at hj
    exact hz j (by omega) (by omega)
  have h1 : ∀ x ∈ L.drop (cutK L d), bitS x d = 1 := by
    intro x hx
    obtain ⟨j, hj, rfl⟩ := List.getElem_of_mem hx
    rw [List.getElem_drop]
    rw [List.length_drop] at hj
    exact ho _ (by omega) (by omega)
  have e : ∀ b, sideK b d L = (L.take (cutK L d)).filter (fun k => bitS k d == b) ++ (L.drop (cutK L d)).filter (fun k => bitS k d == b) := by
    intro b
    unfold sideK
    rw [← List.filter_append, List.take_append_drop]
  constructor
  · rw [e, List.filter_eq_self.2 (fun x hx => by simp [h0 x hx]), List.filter_eq_nil_iff.2 (fun x hx => by simp [h1 x hx]), List.append_nil]
  · rw [e, List.filter_eq_nil_iff.2 (fun x hx => by simp [h0 x hx]), List.filter_eq_self.2 (fun x hx => by simp [h1 x hx]), List.nil_append]
theorem Rises.sub {L N : List ByteArray} (h : Rises L) (hs : N.Sublist L) : Rises N := List.Pairwise.sublist hs h
end Go.Proofs.YtbhoeiopckmfhaaGreatDoor

namespace Go.Proofs.YtbhoeiopckmfhaaGreatDoor
open Go.RowKit Go.Maps
attribute [local irreducible] shaL

/-- a node that may be -/
def okN (n : ByteArray) : Bool := decide (n = emptyS) || (beginsB n 1 || beginsB n 2)
/-- a last one that may be -/
def endN (L : List ByteArray) (t : Bool) : Bool := match L.getLast? with | none => true | some l => beginsB l 2 || (t && !decide (l = emptyS))
def besideB (L : List ByteArray) (t : Bool) : Bool := L.all okN && endN L t
set_option maxRecDepth 100000 in
set_option maxHeartbeats 3200000 in
theorem beside_may (v : Value) (L : List ByteArray) (t : Bool) (k y : ByteArray) (w : World) (hv : StrsAt w v L) (hl : L.length ≤ 1000000) (hs : ∀ s ∈ L, s.size ≤ maxLen) :
    Calls Tryz.prog 157 #[.agg #[v, .bool t, .string k, .string y]] w fun e w' => e = .returned (.bool (besideB L t)) ∧ w.grownBy w' none := by
  obtain ⟨a, cap, rfl, hc⟩ := hv
  have HC := Lib.hid hc
  have HS := Lib.hid hs
  obtain ⟨n, hn⟩ : ∃ n, L.length = n := ⟨_, rfl⟩
  rw [hn] at hl ⊢
  have HN := Lib.hid hn
  have hg1 : w.grownBy (w.alloc (.cells #[.slice a n cap, .bool t, .string k, .string y] 92)) none := World.grownBy_alloc _ _ _
  have hb1 := heap_alloc_at w (.cells #[.slice a n cap, .bool t, .string k, .string y] 92) _ rfl
  have HBG := Lib.hid (fun (s : ByteArray) (q : s.size ≤ maxLen) (m : UInt8) (w0 : World) => begins_any s q m w0)
  clear hc hs hn
  go_enter Tryz.func157, Tryz.ntmps157
  go_wp2_with fail
  generalize w.alloc (.cells #[.slice a n cap, .bool t, .string k, .string y] 92) = w1 at *
  obtain ⟨XB, hXB⟩ : ∃ XB, w.heap.size = XB := ⟨_, rfl⟩
  rw [hXB] at hb1 ⊢
  have HG1 := Lib.hid (And.intro hg1 hb1)
  clear hg1 hb1 hXB
  go_loopw [4, 9, 10, 11, 12, 13, 14, 15, 16, 17, 18, 19, 20, 21, 22, 23, 24, 25] (fun _ iv _ _ _ _ _ _ _ _ _ _ _ _ _ _ _ _ wr => ∃ (i : Nat), i ≤ n ∧ iv = .int .i64 i ∧ Hid ((L.take i).all okN = true) ∧ Hid (w1.grownBy wr none)) (fun _ iv _ _ _ _ _ _ _ _ _ _ _ _ _ _ _ _ _ => n - (intOf iv).toNat)
  case atStart => exact ⟨0, Nat.zero_le _, rfl, rfl, World.grownBy.refl _ _⟩
  case round =>
    obtain ⟨i, hi, rfl, HK, HG⟩ := hrel
    by_cases hlt : i < n
    · have d1 : (i : Int) < (n : Int) := by omega
      have d0 : (0 : Int) ≤ (i : Int) := by omega
      have hil : i < L.length := by have := HN.out; omega
      obtain ⟨g, o, rfl, h1⟩ := HC.out i hil
      have hsz := HS.out L[i] (List.getElem_mem _)
      have htk : (L.take (i + 1)).all okN = ((L.take i).all okN && okN L[i]) := by rw [List.take_succ_eq_append_getElem hil, List.all_append]; simp
      rw [HK.out, Bool.true_and] at htk
      have hno : okN L[i] = false → besideB L t = false := fun h => by
        have : L.all okN = false := by rw [List.all_eq_false]; exact ⟨L[i], List.getElem_mem _, by rw [h]; simp⟩
        unfold besideB
        rw [this, Bool.false_and]
      obtain ⟨x, hx⟩ : ∃ x, L[i] = x := ⟨_, rfl⟩
      rw [hx] at h1 hsz htk hno
      have c1 := HG1.out.1.cell h1 (by simp)
      have c1 := HG.out.cell c1 (by simp)
      have B1 := Lib.hid (HBG.out x hsz 1)
      have B2 := Lib.hid (HBG.out x hsz 2)
      have e0 := is_empty x
      have HTK := Lib.hid (And.intro htk hno)
      have hok : okN x = (decide (x = emptyS) || (beginsB x 1 || beginsB x 2)) := rfl
      have HOK := Lib.hid hok
      clear h1 hsz htk hno hx hok
      by_cases h0 : x = emptyS
      · have e1 : (x.toList == [0]) = true := by rw [e0]; simpa using h0
        have HY : Hid ((L.take (i + 1)).all okN = true) := Lib.hid (by rw [HTK.out.1, HOK.out]; simp [h0])
        clear e0 h0
        go_wp2_with fail
        go_roundw
        case rel => exact ⟨i + 1, by omega, by go_num, HY.out, HG.out⟩
        case measure => simp [intOf]; omega
      · have e1 : (x.toList == [0]) = false := by rw [e0]; simpa using h0
        have h0' : decide (x = emptyS) = false := by simpa using h0
        rw [h0'] at HOK
        clear e0 h0 h0'
        obtain ⟨p1, hp1⟩ : ∃ p, beginsB x 1 = p := ⟨_, rfl⟩
        obtain ⟨p2, hp2⟩ : ∃ p, beginsB x 2 = p := ⟨_, rfl⟩
        rw [hp1] at B1 HOK
        rw [hp2] at B2 HOK
        clear hp1 hp2
        cases p1
        · cases p2
          · have HY : Hid (besideB L t = false) := Lib.hid (HTK.out.2 HOK.out)
            go_wp2_with fail
            refine (B1.out _).mono ?_
            rintro e w3 ⟨rfl, rfl⟩
            go_wp2_with fail
            refine (B2.out _).mono ?_
            rintro e w3 ⟨rfl, rfl⟩
            go_wp2_with fail
            go_ret
            exact ⟨by rw [HY.out]; rfl, grownBy_trans HG1.out.1 HG.out⟩
          · have HY : Hid ((L.take (i + 1)).all okN = true) := Lib.hid (by rw [HTK.out.1, HOK.out]; rfl)
            go_wp2_with fail
            refine (B1.out _).mono ?_
            rintro e w3 ⟨rfl, rfl⟩
            go_wp2_with fail
            refine (B2.out _).mono ?_
            rintro e w3 ⟨rfl, rfl⟩
            go_wp2_with fail
            go_roundw
            case rel => exact ⟨i + 1, by omega, by go_num, HY.out, HG.out⟩
            case measure => simp [intOf]; omega
        · have HY : Hid ((L.take (i + 1)).all okN = true) := Lib.hid (by rw [HTK.out.1, HOK.out]; cases p2 <;> rfl)
          go_wp2_with fail
          refine (B1.out _).mono ?_
          rintro e w3 ⟨rfl, rfl⟩
          go_wp2_with fail
          go_roundw
          case rel => exact ⟨i + 1, by omega, by go_num, HY.out, HG.out⟩
          case measure => simp [intOf]; omega
    · have d1 : ¬ (i : Int) < (n : Int) := by omega
      have hall : L.all okN = true := by
        have h := HK.out
        rwa [List.take_of_length_le (by have := HN.out; omega)] at h
      have hbs : besideB L t = endN L t := by unfold besideB; rw [hall, Bool.true_and]
      have HBS := Lib.hid hbs
      clear hall hbs HK
      have x0 := cell_of (HG.out.heap HG1.out.2 (by simp)) 0
      have x1 := cell_of (HG.out.heap HG1.out.2 (by simp)) 1
      simp at x0 x1
      by_cases hn0 : n = 0
      · have hnil : L = [] := List.length_eq_zero_iff.1 (by have := HN.out; omega)
        have d2 : ((n : Int) == 0) = true := by simp [hn0]
        have HE : Hid (endN L t = true) := Lib.hid (by rw [hnil]; rfl)
        clear hnil
        go_wp2_with fail
        go_ret
        exact ⟨by rw [HBS.out, HE.out]; rfl, grownBy_trans HG1.out.1 HG.out⟩
      · have d2 : ((n : Int) == 0) = false := by simp [hn0]
        obtain ⟨j, hj⟩ : ∃ j, n = j + 1 := ⟨n - 1, by omega⟩
        have hji : (n : Int) - 1 = (j : Int) := by omega
        have j0 : (0 : Int) ≤ (j : Int) := by omega
        have j1 : (j : Int) < (n : Int) := by omega
        have hjl : j < L.length := by have := HN.out; omega
        obtain ⟨g, o, rfl, h1⟩ := HC.out j hjl
        have hsz := HS.out L[j] (List.getElem_mem _)
        have hlast : L.getLast? = some L[j] := by rw [List.getLast?_eq_getElem?, show L.length - 1 = j by have := HN.out; omega, List.getElem?_eq_getElem hjl]
        have hend : endN L t = (beginsB L[j] 2 || (t && !decide (L[j] = emptyS))) := by unfold endN; rw [hlast]
        generalize L[j] = x at h1 hsz hend
        have c1 := HG1.out.1.cell h1 (by simp)
        have c1 := HG.out.cell c1 (by simp)
        have B2 := Lib.hid (HBG.out x hsz 2)
        have e0 := is_empty x
        have HE := Lib.hid hend
        clear h1 hsz hlast hend hj hn0
        obtain ⟨p2, hp2⟩ : ∃ p, beginsB x 2 = p := ⟨_, rfl⟩
        rw [hp2] at B2 HE
        clear hp2
        cases p2
        · cases t
          · clear e0
            go_wp2_with fail
            refine (B2.out _).mono ?_
            rintro e w3 ⟨rfl, rfl⟩
            go_wp2_with fail
            go_ret
            exact ⟨by rw [HBS.out, HE.out]; rfl, grownBy_trans HG1.out.1 HG.out⟩
          · by_cases h0 : x = emptyS
            · have e1 : (x.toList == [0]) = true := by rw [e0]; simpa using h0
              have HF : Hid (decide (x = emptyS) = true) := Lib.hid (by simpa using h0)
              clear e0 h0
              go_wp2_with fail
              refine (B2.out _).mono ?_
              rintro e w3 ⟨rfl, rfl⟩
              go_wp2_with fail
              go_ret
              exact ⟨by rw [HBS.out, HE.out, HF.out]; rfl, grownBy_trans HG1.out.1 HG.out⟩
            · have e1 : (x.toList == [0]) = false := by rw [e0]; simpa using h0
              have HF : Hid (decide (x = emptyS) = false) := Lib.hid (by simpa using h0)
              clear e0 h0
              go_wp2_with fail
              refine (B2.out _).mono ?_
              rintro e w3 ⟨rfl, rfl⟩
              go_wp2_with fail
              go_ret
              exact ⟨by rw [HBS.out, HE.out, HF.out]; rfl, grownBy_trans HG1.out.1 HG.out⟩
        · clear e0
          go_wp2_with fail
          refine (B2.out _).mono ?_
          rintro e w3 ⟨rfl, rfl⟩
          go_wp2_with fail
          go_ret
          exact ⟨by rw [HBS.out, HE.out]; rfl, grownBy_trans HG1.out.1 HG.out⟩
end Go.Proofs.YtbhoeiopckmfhaaGreatDoor

namespace Go.Proofs.YtbhoeiopckmfhaaGreatDoor
open Go.RowKit Go.Maps
attribute [local irreducible] shaL

set_option maxHeartbeats 800000 in
theorem bof_any (key : ByteArray) (hk : key.size = 16) (d : Nat) (hd : d ≤ 4) (w : World) : Calls Tryz.prog 53 #[.string key, .int .i64 d] w fun e w' => e = .returned (.tuple #[.int .i64 (bandN key d : Nat), .int .i64 0]) ∧ w.grownBy w' none := by
  have HC := Lib.hid (bcount_in d hd w)
  have HB := Lib.hid (band_any key (by rw [hk]; unfold maxLen; omega) d (by omega) w)
  have h16 : ((key.size : Int) != 16) = false := by rw [hk]; rfl
  have hp : ((2 ^ d : Nat) : Int) ≠ 0 := by have : 0 < 2 ^ d := Nat.pow_pos (by decide); omega
  have hp0 : (((2 ^ d : Nat) : Int) == 0) = false := beq_eq_false_iff_ne.2 hp
  generalize ((2 ^ d : Nat) : Int) = Z at HC hp hp0
  clear hk hd hp
  go_enter Tryz.func53, Tryz.ntmps53
  go_wp2_with fail
  refine HC.out.mono ?_
  rintro e w1 ⟨rfl, rfl⟩
  go_wp2_with fail
  refine HB.out.mono ?_
  rintro e w1 ⟨rfl, g1⟩
  have HG := Lib.hid g1
  clear g1
  go_wp2_with fail
  go_returns
  exact ⟨rfl, HG.out⟩
set_option maxHeartbeats 800000 in
theorem bof_out (key : ByteArray) (z : Int) (hz : z < 0 ∨ z > 4) (w : World) : Calls Tryz.prog 53 #[.string key, .int .i64 z] w fun e w' => e = .returned (.tuple #[.int .i64 0, .int .i64 1]) ∧ w.grownBy w' none := by
  have HC := Lib.hid (bcount_out z hz w)
  clear hz
  go_enter Tryz.func53, Tryz.ntmps53
  go_wp2_with fail
  refine HC.out.mono ?_
  rintro e w1 ⟨rfl, rfl⟩
  go_wp2_with fail
  go_returns
  exact ⟨rfl, World.grownBy.refl _ _⟩
set_option maxHeartbeats 800000 in
theorem bof_short (key : ByteArray) (hk : key.size ≠ 16) (d : Nat) (hd : d ≤ 4) (w : World) : Calls Tryz.prog 53 #[.string key, .int .i64 d] w fun e w' => e = .returned (.tuple #[.int .i64 0, .int .i64 10]) ∧ w.grownBy w' none := by
  have HC := Lib.hid (bcount_in d hd w)
  have h16 : ((key.size : Int) != 16) = true := by simp; omega
  have hp : ((2 ^ d : Nat) : Int) ≠ 0 := by have : 0 < 2 ^ d := Nat.pow_pos (by decide); omega
  have hp0 : (((2 ^ d : Nat) : Int) == 0) = false := beq_eq_false_iff_ne.2 hp
  generalize ((2 ^ d : Nat) : Int) = Z at HC hp hp0
  clear hk hd hp
  go_enter Tryz.func53, Tryz.ntmps53
  go_wp2_with fail
  refine HC.out.mono ?_
  rintro e w1 ⟨rfl, rfl⟩
  go_wp2_with fail
  go_returns
  exact ⟨rfl, World.grownBy.refl _ _⟩
end Go.Proofs.YtbhoeiopckmfhaaGreatDoor
