/- What a sparse tree holds in memory: pairs in a map. No walk. · The walks of a tree's New, Put, Get, Len. · The walks of Leaf, isLeaf, Join. · The walks of sortOut, Keys. · The walk of IndexFunc, at the closures that are handed to it. · The walk of IndexFunc, at proof's alike's closure (SmtI's text, by program). · What DeleteFunc leaves in its row: plain words, and a row whose cells are set one by one. No walk. · The walks of proof's begins, and of its alike's closure. · The walk of layer 14's laws' key. · The walks of band's Count and Of. -/
import Derived.Test.YtbhoeiopckmfhaaGreatDoorTopBandsB10
import Derived.Test.YtbhoeiopckmfhaaGreatDoorTopBandsB1
import Derived.Maps.OwnSet
import Derived.Carry
import Derived.Handy
import Derived.Test.YtbhoeiopckmfhaaGreatDoorTopBandsB2
import Derived.Deep.RegionWith
import Derived.Deep.RegionHeld3
import Derived.Test.YtbhoeiopckmfhaaGreatDoorLay
import Derived.Sort.OwnSorted
import Derived.Sort.KeysCollected
import Derived.Maps.RangeWalk
import Derived.Laws.IdiomCopy
import Derived.Deep.DeepCutAuto
import Derived.Test.YtbhoeiopckmfhaaGreatDoorTopBandsB3
namespace Go.Proofs.YtbhoeiopckmfhaaGreatDoor
open Go.RowKit Go.Maps

abbrev DatU := DataW Unit
def litK (k : ByteArray) : Lit := .string k.data.toList
/-- a map as read holds these pairs -/
structure IsM (D : DatU) (M : List PairS) : Prop where
  has : ∀ k : ByteArray, Maps.has D (litK k) = M.any (fun p => decide (p.1 = k))
  look : ∀ p ∈ M, ∀ zd, D.atKey (litK p.1) zd = .lit (.string p.2.data.toList)
  size : Maps.size D = M.length
  one : M.Pairwise (fun p q => p.1 ≠ q.1)
/-- pairs with one more, or another value -/
def setM (M : List PairS) (x : PairS) : List PairS := M.filter (fun p => !(decide (p.1 = x.1))) ++ [x]
theorem litK_inj {a b : ByteArray} (h : litK a = litK b) : a = b := by
  unfold litK at h
  injection h with h
  exact ByteArray.ext (Array.toList_inj.1 h)
theorem litK_ne {a b : ByteArray} (h : a ≠ b) : litK a ≠ litK b := fun e => h (litK_inj e)
theorem litK_key (k : ByteArray) : WideAt.IsKeyLit (litK k) := trivial
theorem isM_nil : IsM (.map []) [] := ⟨fun _ => rfl, fun p hp => by simp at hp, rfl, List.Pairwise.nil⟩
theorem one_split : ∀ (M : List PairS) (k : ByteArray), M.Pairwise (fun p q => p.1 ≠ q.1) → (M.filter (fun p => !(decide (p.1 = k)))).length + (if M.any (fun p => decide (p.1 = k)) then 1 else 0) = M.length
  | [], _, _ => rfl
  | x :: r, k, h => by
    obtain ⟨h1, h2⟩ := List.pairwise_cons.1 h
    have ih := one_split r k h2
    by_cases e : x.1 = k
    · have hn : r.any (fun p => decide (p.1 = k)) = false := by
        rw [List.any_eq_false]
        intro p hp q
        have : p.1 = k := by simpa using q
        exact h1 p hp (e.trans this.symm)
      rw [hn] at ih
      have e1 : (decide (x.1 = k)) = true := by simpa using e
      simp only [List.filter_cons, e1, List.any_cons, Bool.true_or, Bool.not_true, if_true, List.length_cons] at ih ⊢
      simp at ih ⊢
      omega
    · have e1 : (decide (x.1 = k)) = false := by simpa using e
      simp only [List.filter_cons, e1, List.any_cons, Bool.false_or, Bool.not_false, if_true, List.length_cons]
      omega
theorem setM_one {M : List PairS} (h : M.Pairwise (fun p q => p.1 ≠ q.1)) (x : PairS) : (setM M x).Pairwise (fun p q => p.1 ≠ q.1) := by
  unfold setM
  rw [List.pairwise_append]
  refine ⟨h.filter _, List.pairwise_singleton _ _, fun p hp q hq => ?_⟩
  rw [List.mem_singleton.1 hq]
  have := (List.mem_filter.1 hp).2
  simpa using this
theorem setM_any (M : List PairS) (x : PairS) (k : ByteArray) : (setM M x).any (fun p => decide (p.1 = k)) = (M.any (fun p => decide (p.1 = k)) || (decide (x.1 = k))) := by
  unfold setM
  rw [List.any_append, List.any_filter]
  by_cases e : x.1 = k
  · have e1 : (decide (x.1 = k)) = true := by simpa using e
    simp [e1]
  · have e1 : (decide (x.1 = k)) = false := by simpa using e
    simp only [List.any_cons, List.any_nil, e1, Bool.or_false]
    congr 1
    funext p
    by_cases e2 : p.1 = k
    · have e3 : (decide (p.1 = x.1)) = false := by simp; exact fun q => e (q.symm.trans e2)
      rw [e3]; simp
    · have e3 : (decide (p.1 = k)) = false := by simpa using e2
      rw [e3]; simp
theorem IsM.put {D : DatU} {M : List PairS} (h : IsM D M) (ht : Tidy D) (x : PairS) : IsM (D.put (litK x.1) (.lit (.string x.2.data.toList))) (setM M x) := by
  have hm := ht.isMap
  refine ⟨fun k => ?_, fun p hp zd => ?_, ?_, setM_one h.one x⟩
  · rw [setM_any]
    by_cases e : k = x.1
    · subst e
      rw [has_put_same hm (litK_key _)]
      simp
    · rw [has_put_other (litK_ne e), h.has]
      have e1 : (decide (x.1 = k)) = false := by simp; exact fun q => e q.symm
      rw [e1, Bool.or_false]
  · rcases List.mem_append.1 hp with hp | hp
    · have h1 := List.mem_filter.1 hp
      have h2 : p.1 ≠ x.1 := by have := h1.2; simpa using this
      rw [atKey_put_other (litK_ne h2)]
      exact h.look p h1.1 zd
    · rw [List.mem_singleton.1 hp]
      exact atKey_put_same hm (litK_key _) _ _
  · have h1 := one_split M x.1 h.one
    have h2 := size_put ht (k := litK x.1) (.lit (.string x.2.data.toList))
    rw [h.has, h.size] at h2
    rw [h2]
    unfold setM
    rw [List.length_append, List.length_singleton]
    cases hh : M.any (fun p => decide (p.1 = x.1)) with
    | true => rw [hh, if_pos rfl] at h1; rw [if_pos rfl]; omega
    | false => rw [hh, if_neg (by decide)] at h1; rw [if_neg (by decide)]; omega
theorem ownsMap_exact {P : Program} {k : TypeId} {R : Value → Option (DatU × List MemPlace)} {w : World} {b n : Nat} {D : DatU} (h : w.ownsMap P k R b n D) : w.ownsMap P k R b (Maps.size D) D := by
  obtain ⟨es, clock, hb, F, hs, rfl⟩ := h
  exact ⟨es, clock, hb, F, by simp [Maps.size, length_sorted], rfl⟩
theorem plainElem_string_inv {P : Program} {e : TypeId} (he : P.underlying e = some .string) {v : Value} {z : DatU × List MemPlace} (h : plainElem P e v = some z) : ∃ s : ByteArray, v = .string s ∧ z = (.lit (.string s.data.toList), []) ∧ s.size ≤ maxLen := by
  unfold plainElem at h
  rw [he] at h
  cases v <;> simp at h
  obtain ⟨h1, rfl⟩ := h
  exact ⟨_, rfl, rfl, h1⟩
noncomputable def strR : Value → Option (DatU × List MemPlace) := plainElem Tryz.prog 9
theorem strK : Keyed Tryz.prog 9 := string_keyed Tryz.underlying9
theorem strR_mk (s : ByteArray) (h : s.size ≤ maxLen) : strR (.string s) = some (.lit (.string s.data.toList), []) := plainElem_string Tryz.underlying9 h
theorem strR_inv {v : Value} {z : DatU × List MemPlace} (h : strR v = some z) : ∃ s : ByteArray, v = .string s ∧ z = (.lit (.string s.data.toList), []) ∧ s.size ≤ maxLen := plainElem_string_inv Tryz.underlying9 h
theorem keyV (k : ByteArray) (h : k.size ≤ maxLen) : keyOf Tryz.prog 9 (.string k) = some (litK k) := WideMaps.keyOf_string_mk Tryz.underlying9 h
/-- block b is a tree of the pairs M; its blocks lie from n0 on, none of them is one of X -/
structure TreeAt (n0 : Nat) (X : List Nat) (w : World) (b : Nat) (M : List PairS) (mv : Value) : Prop where
  blk : w.heap[b]? = some (.cells #[mv] 134 (0, 0))
  own : n0 ≤ b ∧ b ∉ X
  map : (mv = .map none ∧ M = []) ∨ ∃ mb D, mv = .map (some mb) ∧ n0 ≤ mb ∧ mb ∉ X ∧ w.ownsMap Tryz.prog 9 strR mb M.length D ∧ IsM D M
def TreeK (n0 : Nat) (X : List Nat) (w : World) (b : Nat) (M : List PairS) : Prop := ∃ mv, TreeAt n0 X w b M mv
theorem TreeAt.lt {n0 : Nat} {X : List Nat} {w : World} {b : Nat} {M : List PairS} {mv : Value} (h : TreeAt n0 X w b M mv) : b < w.heap.size := (Array.getElem?_eq_some_iff.1 h.blk).1
theorem TreeAt.one {n0 : Nat} {X : List Nat} {w : World} {b : Nat} {M : List PairS} {mv : Value} (h : TreeAt n0 X w b M mv) : M.Pairwise (fun p q => p.1 ≠ q.1) := by
  rcases h.map with ⟨_, rfl⟩ | ⟨_, _, _, _, _, _, hm⟩
  · exact List.Pairwise.nil
  · exact hm.one
/-- blocks of the caller's own turn, and new ones join them -/
theorem TreeK.turn {n0 : Nat} {X Y : List Nat} {S : Nat → Prop} {w w' : World} {b : Nat} {M : List PairS} (h : TreeK n0 X w b M) (k : Turn S w w') (hS : ∀ i, i < w.heap.size → S i → i ∈ X) (hY : ∀ i ∈ Y, i ∈ X ∨ w.heap.size ≤ i) : TreeK n0 Y w' b M := by
  obtain ⟨mv, hb, ho, hm⟩ := h
  have hbl : b < w.heap.size := (Array.getElem?_eq_some_iff.1 hb).1
  refine ⟨mv, k.heap hb (fun q => ho.2 (hS b hbl q)), ⟨ho.1, fun q => ?_⟩, ?_⟩
  · rcases hY b q with q | q
    · exact ho.2 q
    · omega
  · rcases hm with hm | ⟨mb, D, rfl, h1, h2, h3, h4⟩
    · exact .inl hm
    · have hml := h3.lt
      refine .inr ⟨mb, D, rfl, h1, fun q => ?_, ?_, h4⟩
      · rcases hY mb q with q | q
        · exact h2 q
        · omega
      · obtain ⟨es, clock, hb3, r⟩ := h3
        exact ⟨es, clock, k.heap hb3 (fun q => h2 (hS mb hml q)), r⟩
theorem TreeK.grown {n0 : Nat} {X : List Nat} {w w' : World} {b : Nat} {M : List PairS} (h : TreeK n0 X w b M) (k : w.grownBy w' none) : TreeK n0 X w' b M :=
  h.turn (S := fun _ => False) (Turn.of_grown k) (fun _ _ q => q.elim) (fun _ hi => .inl hi)
theorem TreeK.more {n0 : Nat} {X Y : List Nat} {w w' : World} {b : Nat} {M : List PairS} (h : TreeK n0 X w b M) (k : w.grownBy w' none) (hY : ∀ i ∈ Y, i ∈ X ∨ w.heap.size ≤ i) : TreeK n0 Y w' b M :=
  h.turn (S := fun _ => False) (Turn.of_grown k) (fun _ _ q => q.elim) hY
theorem TreeK.lt {n0 : Nat} {X : List Nat} {w : World} {b : Nat} {M : List PairS} (h : TreeK n0 X w b M) : b < w.heap.size := by obtain ⟨_, h⟩ := h; exact h.lt
theorem TreeK.one {n0 : Nat} {X : List Nat} {w : World} {b : Nat} {M : List PairS} (h : TreeK n0 X w b M) : M.Pairwise (fun p q => p.1 ≠ q.1) := by obtain ⟨_, h⟩ := h; exact h.one
/-- the value of a key, or the empty text -/
def valM (M : List PairS) (k : ByteArray) : ByteArray := ((M.find? (fun p => decide (p.1 = k))).map Prod.snd).getD ⟨#[]⟩
def hasM (M : List PairS) (k : ByteArray) : Bool := M.any (fun p => decide (p.1 = k))
theorem valM_mem : ∀ {M : List PairS}, M.Pairwise (fun p q => p.1 ≠ q.1) → ∀ x ∈ M, valM M x.1 = x.2
  | [], _, x, hx => by simp at hx
  | y :: r, h, x, hx => by
    obtain ⟨h1, h2⟩ := List.pairwise_cons.1 h
    unfold valM
    rcases List.mem_cons.1 hx with rfl | hx'
    · simp
    · have hne : (decide (y.1 = x.1)) = false := by simpa using h1 x hx'
      rw [List.find?_cons, hne]
      exact valM_mem h2 x hx'
theorem valM_none {M : List PairS} {k : ByteArray} (h : hasM M k = false) : valM M k = ⟨#[]⟩ := by
  unfold valM
  unfold hasM at h
  rw [List.find?_eq_none.2]
  · rfl
  · intro x hx
    have := List.any_eq_false.1 h x hx
    simpa using this
theorem IsM.val {D : DatU} {M : List PairS} (h : IsM D M) (k : ByteArray) : D.atKey (litK k) (.lit (.string [])) = .lit (.string (valM M k).data.toList) := by
  cases hh : hasM M k with
  | true =>
    obtain ⟨p, hp, hk⟩ := List.any_eq_true.1 hh
    obtain rfl : p.1 = k := by simpa using hk
    rw [h.look p hp, valM_mem h.one p hp]
  | false =>
    rw [valM_none hh, atKey_of_not_has (by rw [h.has]; exact hh)]
end Go.Proofs.YtbhoeiopckmfhaaGreatDoor

namespace Go.Proofs.YtbhoeiopckmfhaaGreatDoor
open Go.RowKit Go.Maps
attribute [local irreducible] shaL

theorem zeroStr (w : World) : (zeroValue 9).run Tryz.prog w = .ok (.string ⟨#[]⟩) w := by kernel_rfl
theorem map_ne (mb : Nat) (w : World) : (binOp .eql 132 (.map (some mb)) (.map none)).run Tryz.prog w = .ok (.bool false) w := by kernel_rfl
theorem map_eq (w : World) : (binOp .eql 132 (.map none) (.map none)).run Tryz.prog w = .ok (.bool true) w := by kernel_rfl
theorem tnew_any (n0 : Nat) (X : List Nat) (w : World) (hX : ∀ x ∈ X, x < w.heap.size) (hn0 : n0 ≤ w.heap.size) : Calls Tryz.prog 24 #[] w fun e w' => e = .returned (.pointer (some ⟨w.heap.size, 0, none⟩)) ∧ TreeK n0 X w' w.heap.size [] ∧ w.grownBy w' none := by
  have HX := Lib.hid (And.intro hX hn0)
  clear hX hn0
  go_enter Tryz.func24, Tryz.ntmps24
  go_wp2_with fail
  go_ret
  refine ⟨rfl, ⟨_, heap_alloc_at _ _ _ rfl, ⟨HX.out.2, fun q => ?_⟩, .inl ⟨rfl, rfl⟩⟩, World.grownBy_alloc _ _ _⟩
  have := HX.out.1 _ q
  omega
set_option maxRecDepth 100000 in
theorem tput_any (n0 : Nat) (X : List Nat) (w : World) (b : Nat) (M : List PairS) (k v : ByteArray) (hT : TreeK n0 X w b M) (hX : ∀ x ∈ X, x < w.heap.size) (hn0 : n0 ≤ w.heap.size) (hk : k.size = 16) (hv : v.size ≤ 1000000) (hM : M.length < 1000000) :
    Calls Tryz.prog 25 #[.pointer (some ⟨b, 0, none⟩), .string k, .string v] w fun e w' => e = .returned (.int .i64 0) ∧ TreeK n0 X w' b (setM M (k, v)) ∧ Turn (rest n0 X) w w' := by
  obtain ⟨mv, hb, ho, hm⟩ := hT
  have hk16 : (k.size : Int) = 16 := by omega
  have hkey := keyV k (by unfold maxLen; omega)
  have hval := strR_mk v (by unfold maxLen; omega)
  have c0 := cell_of hb 0
  have f0 := free_of hb 0
  simp at c0
  have hlb : b < w.heap.size := (Array.getElem?_eq_some_iff.1 hb).1
  rcases hm with ⟨rfl, rfl⟩ | ⟨mb, D, rfl, h1, h2, h3, h4⟩
  · have HB := Lib.hid (And.intro hb (And.intro ho (And.intro hX (And.intro hn0 hlb))))
    have hmm := @run_makeMap Tryz.prog
    have he := map_eq
    have hown : ((w.alloc (.map #[] 0)).setCell ⟨b, 0, none⟩ (.map (some w.heap.size))).ownsMap Tryz.prog 9 strR w.heap.size 0 (.map []) := (World.ownsMap_made w Tryz.prog 9 strR).setCell (by show w.heap.size ≠ b; omega) _
    have HK := Lib.hid (And.intro hown (And.intro hkey hval))
    have hblk : ((w.alloc (.map #[] 0)).setCell ⟨b, 0, none⟩ (.map (some w.heap.size))).heap[b]? = some (.cells #[.map (some w.heap.size)] 134 (0, 0)) := heap_setCell (Below.heap_alloc _ _ _ hlb |>.trans hb) 0 _
    have HBK := Lib.hid hblk
    have d0 : ((w.alloc (.map #[] 0)).setCell ⟨b, 0, none⟩ (.map (some w.heap.size))).cell? ⟨b, 0, none⟩ = some (.map (some w.heap.size)) := cell_of hblk 0
    have c0a : (w.alloc (.map #[] 0)).cell? ⟨b, 0, none⟩ = some (.map none) := (World.cell?_alloc_lt _ _ _ hlb).trans c0
    have f0a : (w.alloc (.map #[] 0)).frozen? ⟨b, 0, none⟩ = false := free_of (Below.heap_alloc _ _ _ hlb |>.trans hb) 0
    have t1 : Turn (fun i => i = b) w ((w.alloc (.map #[] 0)).setCell ⟨b, 0, none⟩ (.map (some w.heap.size))) := ((Turn.refl (fun i => i = b) w).alloc _).setCell (fun _ => rfl) _ _
    have HT1 := Lib.hid t1
    clear hb ho hX hn0 hown hkey hval hblk t1 hk hv hM
    have hlb2 := Lib.hid hlb
    clear hlb
    go_enter Tryz.func25, Tryz.ntmps25
    go_wp2_with (at_mapUpdate; refine wpList_mapUpdate_own _ rfl _ _ _ 132 rfl 9 9 strK Tryz.underlying132 strR w.heap.size 0 (.map []) rfl HK.out.1 (by unfold maxLen; omega) _ _ _ rfl rfl HK.out.2.1 _ [] HK.out.2.2 ?_; intro w2 hown2 hg2)
    have HO2 := Lib.hid hown2
    have HG2 := Lib.hid hg2
    clear hown2 hg2
    go_wp2_with fail
    go_ret
    generalize hSZ : w.heap.size = SZ at HO2 HG2 HBK HT1 hlb2
    generalize (w.alloc (.map #[] 0)).setCell ⟨b, 0, none⟩ (.map (some SZ)) = w1 at HG2 HBK HT1
    have hlt2 : b < w.heap.size := HB.out.2.2.2.2
    refine ⟨rfl, ⟨.map (some SZ), (HG2.out.block b (by have := HT1.out.size; omega) (by simp; omega)).trans HBK.out, HB.out.2.1, .inr ⟨SZ, _, rfl, by have := HB.out.2.2.2.1; omega, fun q => by have := HB.out.2.2.1 _ q; omega, HO2.out, isM_nil.put tidy_empty (k, v)⟩⟩, ?_⟩
    have t2 : Turn (fun i => i = b ∨ i = SZ) w w2 := (HT1.out.mono (fun i _ q => .inl q)).row HG2.out (fun i _ e => .inr (by injection e with e; exact e.symm))
    refine t2.mono (fun i hi q => ?_)
    rcases q with rfl | q
    · exact HB.out.2.1
    · omega
  · have HB := Lib.hid (And.intro hb (And.intro ho (And.intro hX (And.intro hn0 hlb))))
    have he := map_ne mb
    have HK := Lib.hid (And.intro h3 (And.intro hkey hval))
    have HI := Lib.hid (And.intro h1 (And.intro h2 h4))
    have hMl : M.length < maxLen := by unfold maxLen; omega
    clear hb ho hX hn0 hlb h1 h2 h3 h4 hkey hval hk hv hM
    go_enter Tryz.func25, Tryz.ntmps25
    go_wp2_with (at_mapUpdate; refine wpList_mapUpdate_own _ rfl _ _ _ 132 rfl 9 9 strK Tryz.underlying132 strR mb M.length D rfl HK.out.1 hMl _ _ _ rfl rfl HK.out.2.1 _ [] HK.out.2.2 ?_; intro w2 hown2 hg2)
    have HO2 := Lib.hid hown2
    have HG2 := Lib.hid hg2
    clear hown2 hg2
    go_wp2_with fail
    go_ret
    have hmb : mb ≠ b := by
      intro e
      obtain ⟨es, cl, h5, _⟩ := HK.out.1
      rw [e, HB.out.1] at h5
      cases h5
    have hi := HI.out.2.2.put (HK.out.1.tidy strK) (k, v)
    refine ⟨rfl, ⟨.map (some mb), (HG2.out.block b HB.out.2.2.2.2 (by simp; exact fun q => hmb q.symm)).trans HB.out.1, HB.out.2.1, .inr ⟨mb, _, rfl, HI.out.1, HI.out.2.1, ?_, hi⟩⟩, (Turn.refl _ w).row HG2.out (fun i _ e => ?_)⟩
    · have h6 := ownsMap_exact HO2.out
      rw [hi.size] at h6
      exact h6
    · injection e with e
      subst e
      exact ⟨HI.out.1, HI.out.2.1⟩
theorem tget_nil (k : ByteArray) (w : World) : Calls Tryz.prog 35 #[.pointer none, .string k] w fun e w' => e = .returned (.tuple #[.string ⟨#[]⟩, .bool false]) ∧ w = w' := by
  go_enter Tryz.func35, Tryz.ntmps35
  go_wp2_with fail
  go_returns
  exact ⟨rfl, rfl⟩
set_option maxRecDepth 100000 in
theorem tget_any (n0 : Nat) (X : List Nat) (w : World) (b : Nat) (M : List PairS) (k : ByteArray) (hT : TreeK n0 X w b M) (hk : k.size ≤ maxLen) :
    Calls Tryz.prog 35 #[.pointer (some ⟨b, 0, none⟩), .string k] w fun e w' => e = .returned (.tuple #[.string (valM M k), .bool (hasM M k)]) ∧ w = w' := by
  obtain ⟨mv, hb, ho, hm⟩ := hT
  have hkey := keyV k hk
  have c0 := cell_of hb 0
  simp at c0
  rcases hm with ⟨rfl, rfl⟩ | ⟨mb, D, rfl, h1, h2, h3, h4⟩
  · have hrun := look_nil (w := w) true strK Tryz.underlying132 (zeroStr w) hkey
    have e1 : valM [] k = ⟨#[]⟩ := rfl
    have e2 : hasM [] k = false := rfl
    rw [e1, e2]
    clear hb ho hkey hk e1 e2
    go_enter Tryz.func35, Tryz.ntmps35
    go_wp2_with fail
    go_returns
    exact ⟨rfl, rfl⟩
  · have hv := h4.val k
    have hh := h4.has k
    have HK := Lib.hid (And.intro h3 hkey)
    have hh2 : hasM M k = Maps.has D (litK k) := hh.symm
    rw [hh2]
    have HV := Lib.hid hv
    have HZ := Lib.hid (zeroStr w)
    clear hb ho hkey hk h1 h2 h3 h4 hv hh hh2
    go_enter Tryz.func35, Tryz.ntmps35
    go_wp2_with (at_lookup; refine wpList_lookup_own_ok _ rfl _ _ 132 rfl 9 9 strK Tryz.underlying132 strR HZ.out (.lit (.string [])) [] (strR_mk ⟨#[]⟩ (by unfold maxLen; decide)) mb M.length D rfl HK.out.1 _ _ rfl HK.out.2 ?_; intro v ps hvr)
    obtain ⟨s, rfl, hz, _⟩ := strR_inv hvr
    rw [HV.out] at hz
    have hs : valM M k = s := by
      have h5 := (Prod.mk.inj hz).1
      injection h5 with h5
      injection h5 with h5
      exact ByteArray.ext (Array.toList_inj.1 h5)
    have HS := Lib.hid hs
    clear hvr hz hs
    go_wp2_with fail
    go_returns
    exact ⟨by rw [HS.out]; rfl, rfl⟩
end Go.Proofs.YtbhoeiopckmfhaaGreatDoor

namespace Go.Proofs.YtbhoeiopckmfhaaGreatDoor
open Go.RowKit Go.Maps
attribute [local irreducible] shaL

set_option maxRecDepth 100000 in
theorem tleaf_any (k v : ByteArray) (hk : k.size ≤ 1000000000) (hv : v.size ≤ 1000000000) (w : World) (hr : ShaReady w) :
    Calls Tryz.prog 118 #[.string k, .string v] w fun e w' => e = .returned (.string (leafS k v)) ∧ w.grownBy w' none := by
  have ht := Lib.hid (tagged_new w 9 [k, v] _ 2 9 rfl rfl rfl hr (by simp) (by
    intro s hs'
    simp at hs'
    rcases hs' with rfl | rfl <;> omega))
  have h16 := tag16 9 [k, v]
  have hL : leafS k v = ⟨#[1]⟩ ++ tagS 9 [k, v] := rfl
  rw [hL]
  generalize tagS 9 [k, v] = T at ht h16
  have q1 : (9223372036854775807 < (⟨#[1]⟩ : ByteArray).size + T.size) = False := eq_false (by rw [h16]; decide)
  have q2 : (9223372036854775807 < 1 + T.size) = False := eq_false (by rw [h16]; decide)
  clear hr hL h16
  go_enter Tryz.func118, Tryz.ntmps118
  go_wp2_with fail
  refine ht.out.mono ?_
  rintro e w1 ⟨rfl, g1⟩
  have G1 := Lib.hid g1
  clear g1
  go_wp2_with fail
  go_ret
  exact ⟨rfl, G1.out⟩
theorem head_one (s : ByteArray) (h : 1 ≤ s.size) : ((s.extract 0 1).toList == [1]) = (headB s == 1) := by
  obtain ⟨⟨l⟩⟩ := s
  rw [ByteArray.toList_eq]
  match l, h with
  | [], h => exact absurd h (by decide)
  | x :: r, _ =>
    have e : (ByteArray.extract ⟨⟨x :: r⟩⟩ 0 1).data.toList = [x] := by
      rw [ByteArray.data_extract, Array.toList_extract]
      rfl
    rw [e]
    show ([x] == [1]) = (x == 1)
    rw [Bool.eq_iff_iff]
    simp
theorem isLeaf_any (s : ByteArray) (hs : s.size ≤ maxLen) (w : World) : Calls Tryz.prog 161 #[.string s] w fun e w' => e = .returned (.bool (leafB s)) ∧ w = w' := by
  unfold maxLen at hs
  by_cases h : s.size = 17
  · have h1 : ((s.size : Int) == 17) = true := by simp; omega
    have h2 : (1 : Int) ≤ (s.size : Int) := by omega
    have hb : leafB s = ((s.extract 0 1).toList == [1]) := by rw [head_one s (by omega)]; unfold leafB; simp [h]
    rw [hb]
    clear hb
    go_enter Tryz.func161, Tryz.ntmps161
    go_wp2_with fail
    go_ret
    exact ⟨rfl, rfl⟩
  · have h1 : ((s.size : Int) == 17) = false := by simp; omega
    have hb : leafB s = false := by unfold leafB; simp [h]
    rw [hb]
    clear hb
    go_enter Tryz.func161, Tryz.ntmps161
    go_wp2_with fail
    go_ret
    exact ⟨rfl, rfl⟩
theorem is_empty (s : ByteArray) : (s.toList == [0]) = decide (s = emptyS) := by
  rw [ByteArray.toList_eq, Bool.eq_iff_iff, beq_iff_eq, decide_eq_true_iff]
  constructor
  · intro h
    exact ByteArray.ext (Array.toList_inj.1 (h.trans rfl))
  · rintro rfl
    rfl
set_option maxRecDepth 100000 in
theorem join_any (a b : ByteArray) (ha : a.size ≤ 1000000000) (hb : b.size ≤ 1000000000) (w : World) (hr : ShaReady w) :
    Calls Tryz.prog 120 #[.string a, .string b] w fun e w' => e = .returned (.string (joinN a b)) ∧ w.grownBy w' none := by
  have ht : Hid (∀ w0, w.grownBy w0 none → Calls Tryz.prog 26 #[.int .u8 10, .slice (some ⟨w0.heap.size, 0, none⟩) 2 2] (w0.alloc (.cells #[.string a, .string b] 9)) fun e w' => e = .returned (.string (tagS 10 [a, b])) ∧ w0.grownBy w' none) := Lib.hid (fun w0 g => tagged_new w0 10 [a, b] _ 2 10 rfl rfl rfl (hr.grown g) (by simp) (by
    intro s hs'
    simp at hs'
    rcases hs' with rfl | rfl <;> omega))
  have hla := Lib.hid (fun w0 => isLeaf_any a (by unfold maxLen; omega) w0)
  have hlb := Lib.hid (fun w0 => isLeaf_any b (by unfold maxLen; omega) w0)
  have h16 := tag16 10 [a, b]
  have hB : bothS a b = ⟨#[2]⟩ ++ tagS 10 [a, b] := rfl
  have HJ := Lib.hid (show joinN a b = if a = emptyS ∧ (b = emptyS ∨ leafB b = true) then b else if b = emptyS ∧ leafB a = true then a else bothS a b from rfl)
  generalize joinN a b = J at HJ ⊢
  rw [hB] at HJ
  generalize tagS 10 [a, b] = T at ht h16 HJ
  have q1 : (9223372036854775807 < (⟨#[2]⟩ : ByteArray).size + T.size) = False := eq_false (by rw [h16]; decide)
  have q2 : (9223372036854775807 < 1 + T.size) = False := eq_false (by rw [h16]; decide)
  have ea := is_empty a
  have eb := is_empty b
  obtain ⟨la, hlae⟩ : ∃ x, leafB a = x := ⟨_, rfl⟩
  obtain ⟨lb, hlbe⟩ : ∃ x, leafB b = x := ⟨_, rfl⟩
  rw [hlae] at hla HJ
  rw [hlbe] at hlb HJ
  clear hr hB h16 hlae hlbe
  by_cases h1 : a = emptyS
  · have ea1 : (a.toList == [0]) = true := by rw [ea]; simpa using h1
    by_cases h2 : b = emptyS
    · have eb1 : (b.toList == [0]) = true := by rw [eb]; simpa using h2
      have hj : J = b := by rw [HJ.out, if_pos ⟨h1, .inl h2⟩]
      subst hj
      clear ea eb h1 h2 HJ
      go_enter Tryz.func120, Tryz.ntmps120
      go_wp2_with fail
      go_ret
      exact ⟨rfl, World.grownBy.refl _ _⟩
    · have eb1 : (b.toList == [0]) = false := by rw [eb]; simpa using h2
      cases lb
      · have hj : J = ⟨#[2]⟩ ++ T := by rw [HJ.out, if_neg (by simp [h2]), if_neg (by simp [h2])]
        subst hj
        clear ea eb h1 h2 HJ
        go_enter Tryz.func120, Tryz.ntmps120
        go_wp2_with fail
        refine (hlb.out _).mono ?_
        rintro e w1 ⟨rfl, rfl⟩
        go_wp2_with fail
        refine (ht.out _ (World.grownBy.refl _ _)).mono ?_
        rintro e w2 ⟨rfl, g2⟩
        have G2 := Lib.hid g2
        clear g2
        go_wp2_with fail
        go_ret
        exact ⟨rfl, G2.out⟩
      · have hj : J = b := by rw [HJ.out, if_pos ⟨h1, .inr rfl⟩]
        subst hj
        clear ea eb h1 h2 HJ
        go_enter Tryz.func120, Tryz.ntmps120
        go_wp2_with fail
        refine (hlb.out _).mono ?_
        rintro e w1 ⟨rfl, rfl⟩
        go_wp2_with fail
        go_ret
        exact ⟨rfl, World.grownBy.refl _ _⟩
  · have ea1 : (a.toList == [0]) = false := by rw [ea]; simpa using h1
    by_cases h2 : b = emptyS
    · have eb1 : (b.toList == [0]) = true := by rw [eb]; simpa using h2
      cases la
      · have hj : J = ⟨#[2]⟩ ++ T := by rw [HJ.out, if_neg (by simp [h1]), if_neg (by simp)]
        subst hj
        clear ea eb h1 h2 HJ
        go_enter Tryz.func120, Tryz.ntmps120
        go_wp2_with fail
        refine (hla.out _).mono ?_
        rintro e w1 ⟨rfl, rfl⟩
        go_wp2_with fail
        refine (ht.out _ (World.grownBy.refl _ _)).mono ?_
        rintro e w2 ⟨rfl, g2⟩
        have G2 := Lib.hid g2
        clear g2
        go_wp2_with fail
        go_ret
        exact ⟨rfl, G2.out⟩
      · have hj : J = a := by rw [HJ.out, if_neg (by simp [h1]), if_pos ⟨h2, rfl⟩]
        subst hj
        clear ea eb h1 h2 HJ
        go_enter Tryz.func120, Tryz.ntmps120
        go_wp2_with fail
        refine (hla.out _).mono ?_
        rintro e w1 ⟨rfl, rfl⟩
        go_wp2_with fail
        go_ret
        exact ⟨rfl, World.grownBy.refl _ _⟩
    · have eb1 : (b.toList == [0]) = false := by rw [eb]; simpa using h2
      have hj : J = ⟨#[2]⟩ ++ T := by rw [HJ.out, if_neg (by simp [h1]), if_neg (by simp [h2])]
      subst hj
      clear ea eb h1 h2 HJ
      go_enter Tryz.func120, Tryz.ntmps120
      go_wp2_with fail
      refine (ht.out _ (World.grownBy.refl _ _)).mono ?_
      rintro e w2 ⟨rfl, g2⟩
      have G2 := Lib.hid g2
      clear g2
      go_wp2_with fail
      go_ret
      exact ⟨rfl, G2.out⟩
end Go.Proofs.YtbhoeiopckmfhaaGreatDoor

namespace Go.Proofs.YtbhoeiopckmfhaaGreatDoor
open Go.RowKit Go.Maps Go.Sort
attribute [local irreducible] shaL

/-- keys met so far that are wanted: no key twice -/
def Coll (D : DatU) (P : List UInt8 → Bool) (left : Lit → Bool) (ss : List (List UInt8)) : Prop := ss.Nodup ∧ ∀ x, x ∈ ss ↔ (Maps.has D (.string x) = true ∧ left (.string x) = false ∧ P x = true)
theorem Coll.start (D : DatU) (P : List UInt8 → Bool) : Coll D P (Maps.has D) [] := ⟨List.nodup_nil, fun x => by cases Maps.has D (.string x) <;> simp⟩
theorem Coll.yes {D : DatU} {P : List UInt8 → Bool} {left : Lit → Bool} {ss : List (List UInt8)} (h : Coll D P left ss) {x : List UInt8} {y : DatU} (hlk : left (.string x) = true) (hat : ∀ zd, D.atKey (.string x) zd = y) (hp : P x = true) : Coll D P (fun z => left z && !z.sameKey (.string x)) (ss ++ [x]) := by
  have hhas : Maps.has D (.string x) = true := has_true_of_atKey hat
  have hnew : x ∉ ss := fun hx => by have := ((h.2 x).1 hx).2.1; rw [hlk] at this; cases this
  refine ⟨List.nodup_append.2 ⟨h.1, by simp, fun a ha b hb => by simp at hb; subst hb; exact fun e => hnew (e ▸ ha)⟩, fun y => ?_⟩
  by_cases hy : y = x
  · subst hy; simp [hhas, hp, Lit.sameKey]
  · simp [h.2 y, hy, Lit.sameKey]
theorem Coll.no {D : DatU} {P : List UInt8 → Bool} {left : Lit → Bool} {ss : List (List UInt8)} (h : Coll D P left ss) {x : List UInt8} (hlk : left (.string x) = true) (hp : P x = false) : Coll D P (fun z => left z && !z.sameKey (.string x)) ss := by
  refine ⟨h.1, fun y => ?_⟩
  by_cases hy : y = x
  · subst hy
    have : y ∉ ss := fun hx => by have := ((h.2 y).1 hx).2.1; rw [hlk] at this; cases this
    simp [this, hp]
  · simp [h.2 y, hy, Lit.sameKey]
/-- the keys that are wanted, rising -/
def sortK (M : List PairS) (P : ByteArray → Bool) : List ByteArray := (((M.filter fun x => P x.1).map fun x => x.1.data.toList).mergeSort fun x y => decide (x ≤ y)).map str
theorem list_inj {a b : ByteArray} (h : a.data.toList = b.data.toList) : a = b := ByteArray.ext (Array.toList_inj.1 h)
theorem Coll.perm {D : DatU} {M : List PairS} {P : ByteArray → Bool} {left : Lit → Bool} {ss : List (List UInt8)} (h : Coll D (fun l => P (str l)) left ss) (hI : IsM D M) (hl : ∀ kl, left kl = false) : ss.Perm ((M.filter fun x => P x.1).map fun x => x.1.data.toList) := by
  refine (List.perm_ext_iff_of_nodup h.1 ?_).2 fun x => ?_
  · refine List.pairwise_map.2 ((hI.one.filter _).imp fun {a b} hne e => hne (list_inj e))
  · rw [h.2 x, hl]
    have h1 := hI.has (str x)
    have h2 : litK (str x) = .string x := rfl
    rw [h2] at h1
    rw [h1, List.mem_map, List.any_eq_true]
    constructor
    · rintro ⟨⟨p, hp, hk⟩, _, hP⟩
      have hk' : p.1 = str x := by simpa using hk
      refine ⟨p, List.mem_filter.2 ⟨hp, ?_⟩, by rw [hk']; rfl⟩
      rw [hk']
      exact hP
    · rintro ⟨p, hp, hk⟩
      have h3 := List.mem_filter.1 hp
      have hk' : p.1 = str x := list_inj hk
      refine ⟨⟨p, h3.1, by simpa using hk'⟩, rfl, ?_⟩
      show P (str x) = true
      rw [← hk']
      exact h3.2
theorem enc_strs (ss : List (List UInt8)) : ss.map encStr = strsV (ss.map str) := by
  unfold strsV
  rw [List.map_map]
  rfl
theorem own_low {w : World} {B B' n : Nat} {t : TypeId} {v : Value} {xs : List Value} (h : w.ownsRow B t 1 v n xs) (hb : B' ≤ B) : w.ownsRow B' t 1 v n xs := by
  refine ⟨h.1, ?_⟩
  rcases h.2 with h' | ⟨g, cap, cur, rfl, hB, r⟩
  · exact .inl h'
  · exact .inr ⟨g, cap, cur, rfl, Nat.le_trans hb hB, r⟩
theorem own_keep {w w' : World} {B n : Nat} {t : TypeId} {v : Value} {xs : List Value} {row : Option Nat} (h : w.ownsRow B t 1 v n xs) (k : w.grownBy w' row) (hne : ∀ x, v.ownBlock = some x → row ≠ some x) : w'.ownsRow B t 1 v n xs := by
  refine ⟨h.1, ?_⟩
  rcases h.2 with h' | ⟨g, cap, cur, rfl, hB, hg, r⟩
  · exact .inl h'
  · exact .inr ⟨g, cap, cur, rfl, hB, (k.block g (Array.getElem?_eq_some_iff.1 hg).1 (fun e => hne g rfl e.symm)).trans hg, r⟩
theorem sortK_nil (P : ByteArray → Bool) : sortK [] P = [] := by simp [sortK]
theorem sorted_strs {M : List PairS} {P : ByteArray → Bool} {ss : List (List UInt8)} (h : ss.Perm ((M.filter fun x => P x.1).map fun x => x.1.data.toList)) : (ss.mergeSort fun x y => decide (x ≤ y)).map str = sortK M P := by
  unfold sortK
  rw [mergeSort_of_perm h]
set_option maxRecDepth 100000 in
set_option maxHeartbeats 3200000 in
theorem tsort_all (n0 : Nat) (X : List Nat) (P : ByteArray → Bool) (w : World) (b : Nat) (M : List PairS) (hT : TreeK n0 X w b M) (hM : M.length ≤ 1000000)
    (hF : ∀ (k : ByteArray) (w' : World), hasM M k = true → w.grownBy w' none → Calls Tryz.prog 123 #[.string k] w' fun e w'' => e = .returned (.bool (P k)) ∧ w'.grownBy w'' none) :
    Calls Tryz.prog 108 #[.pointer (some ⟨b, 0, none⟩), .func (Fn.func 123) #[] #[]] w fun e w' => ∃ v, e = .returned v ∧ w'.ownsRow w.heap.size 9 1 v (sortK M P).length (strsV (sortK M P)) ∧ w.grownBy w' none := by
  obtain ⟨i0, hi, hz0, hz1, hz2⟩ := info_parts infoStrW
  obtain ⟨mv, hb, ho, hm⟩ := hT
  have c0 := cell_of hb 0
  simp at c0
  have HF := Lib.hid hF
  have hlb : b < w.heap.size := (Array.getElem?_eq_some_iff.1 hb).1
  rcases hm with ⟨rfl, rfl⟩ | ⟨mb, D, rfl, h1, h2, h3, h4⟩
  · have hrg := run_range_nilMap (P := Tryz.prog) w 132 9 9 Tryz.underlying132
    have hnx : ∀ ty, (Instr.next (.pointer (some ⟨w.heap.size, 0, none⟩)) false ty).run Tryz.prog (w.alloc (.mapIter none 0 #[] 0)) = _ := fun ty => run_next_nilMap _ ty 0 0 #[]
    have HSN := Lib.hid (Tryz.slices_Sort_string_none none 0)
    clear hb ho hlb hF
    go_enter Tryz.func108, Tryz.ntmps108
    go_wp2_with fail
    refine wp_loop_rounds 1 ?_
    rw [rounds_succ]
    go_wp2_with fail
    refine (HSN.out _).mono ?_
    rintro e w' ⟨rfl, rfl⟩
    go_wp2_with fail
    go_ret
    rw [sortK_nil]
    exact ⟨_, rfl, World.ownsRow_nil _ _ _ _, World.grownBy_alloc _ _ _⟩
  · have hbl := h3.lt
    have hbm : mb ≠ b := by
      intro e
      obtain ⟨es, cl, h5, _⟩ := h3
      rw [e, hb] at h5
      cases h5
    have hsz := h4.size
    have HI := Lib.hid h4
    have HK := Lib.hid h3
    have HM := Lib.hid hM
    clear hb ho h1 h2 h4 hF hsz hM
    go_enter Tryz.func108, Tryz.ntmps108
    go_wp2_with (at_range; refine wpList_range_own _ rfl _ 132 rfl 9 9 strK Tryz.underlying132 strR mb M.length D rfl HK.out ?_; intro w1 hrg1 hg1 hs1)
    rw [HI.out.size] at hrg1
    have HRG1 := Lib.hid hrg1
    have HG1 := Lib.hid (And.intro hg1 hs1)
    have HB := Lib.hid (And.intro hbl (And.intro hlb hbm))
    clear hrg1 hg1 hs1 hbl hlb hbm c0
    go_frame
    go_loopw [5, 6] (fun v _ wr => ∃ (left : Lit → Bool) (cnt : Nat) (ss : List (List UInt8)), Hid (wr.ranges Tryz.prog 9 strR mb w.heap.size M.length D left cnt) ∧ Hid (ss.length + cnt ≤ M.length) ∧ Hid (wr.ownsRow (w.heap.size + 1) 9 1 v ss.length (strsV (ss.map str))) ∧ Hid (Coll D (fun l => P (str l)) left ss) ∧ Hid (w.grownBy wr none ∧ w.heap.size + 1 ≤ wr.heap.size)) (fun _ _ wr => wr.rangeLeft mb w.heap.size)
    case atStart => exact ⟨_, _, [], HRG1.out, by show 0 + _ ≤ _; omega, World.ownsRow_nil _ _ _ _, Coll.start D _, HG1.out.1, by have := HG1.out.2; omega⟩
    case round =>
      clear HRG1 HG1
      obtain ⟨left, cnt, ss, HRG, HCS, HROW, HC, HG⟩ := hrel
      go_wp2_with (at_next; refine wpList_next_ranges _ rfl _ rfl 9 strK strR (fun l : List UInt8 => Value.string (str l)) (fun s : ByteArray => Value.string s) (fun key kl hk => by obtain ⟨x, hx, _⟩ := Maps.keyOf_str Tryz.underlying9 hk; exact ⟨x, hx⟩) (fun v y hv => by obtain ⟨c, rfl, _⟩ := strR_inv hv; exact ⟨c, rfl⟩) mb w.heap.size M.length _ _ _ rfl HRG.out ?_ ?_)
      · intro hc0 hl0
        have HP := Lib.hid (sorted_strs (HC.out.perm HI.out hl0))
        have HL : Hid (ss.length ≤ 1000000) := by have := HCS.out; have := HM.out; exact Lib.hid (by omega)
        clear hc0 hl0
        have hrow := HROW.out
        rw [← enc_strs] at hrow
        rcases hrow.2 with ⟨rfl, h0⟩ | ⟨g, cap, cur, rfl, hbase, hb, h1, h2, h3, h4⟩
        · have hss : ss = [] := by
            have := hrow.1
            simp at this
            exact List.eq_nil_of_length_eq_zero (by omega)
          subst hss
          have HSN := Lib.hid (Tryz.slices_Sort_string_none none 0)
          clear hrow h0
          go_wp2_with fail
          refine (HSN.out _).mono ?_
          rintro e w' ⟨rfl, rfl⟩
          go_wp2_with fail
          go_ret
          have hp : sortK M P = [] := by rw [← HP.out]; simp
          rw [hp]
          exact ⟨_, rfl, World.ownsRow_nil _ _ _ _, HG.out.1⟩
        · have hH : Holds encStr wr g 0 ss.toArray := holds_of_block hb (by simpa using h4)
          have hgl : g < wr.heap.size := (Array.getElem?_eq_some_iff.1 hb).1
          have HSC := Lib.hid (Tryz.slices_Sort_string g 0 cap ss wr hH hgl (by have := HL.out; omega))
          have HB2 := Lib.hid (And.intro hbase (And.intro hb (And.intro h1 (And.intro h2 h3))))
          clear hH hgl hrow hbase hb h1 h2 h3 h4
          go_wp2_with fail
          refine HSC.out.mono ?_
          rintro e w' ⟨rfl, nn, os, rfl⟩
          have HO := Lib.hid (ownsRow_sorted (n := nn) (os := os) (ts := ss.mergeSort fun x y => decide (x ≤ y)) (by simp) HB2.out.1 HB2.out.2.1 HB2.out.2.2.1 HB2.out.2.2.2.1 HB2.out.2.2.2.2)
          have HGS : Hid (wr.grownBy (Go.Sort.grow (putRow encStr (Sort.ahead wr nn) g 0 (ss.mergeSort fun x y => decide (x ≤ y)).toArray) os) (some g)) := Lib.hid (grownBy_sorted _)
          generalize Go.Sort.grow (putRow encStr (Sort.ahead wr nn) g 0 (ss.mergeSort fun x y => decide (x ≤ y)).toArray) os = w' at HO HGS ⊢
          go_wp2_with fail
          go_ret
          have hl : ss.length = (sortK M P).length := by rw [← HP.out]; simp
          have ho2 := HO.out
          rw [enc_strs, HP.out] at ho2
          rw [← hl]
          exact ⟨_, rfl, own_low ho2 (Nat.le_succ _), grown_row HG.out.1 HGS.out (fun x e => by injection e with e; have := HB2.out.1; omega)⟩
      · intro x c kl yd yp w2 cnt2 hkey hlk hv hat hrg2 hlt hg2 hs2 hen
        obtain ⟨x', ex, rfl, _⟩ := Maps.keyOf_str Tryz.underlying9 hkey
        obtain rfl : x = x' := encStr_inj ex
        have hg3 : w.grownBy w2 none := grown_row HG.out.1 hg2 (fun i e => by injection e with e; omega)
        have hhas : hasM M (str x) = true := by
          have := HI.out.has (str x)
          rw [show litK (str x) = .string x from rfl, has_true_of_atKey hat] at this
          exact this.symm
        have HFX := HF.out (str x) w2 hhas hg3
        have hrow2 := own_keep HROW.out hg2 (fun i e q => by injection q with q; have := (HROW.out.lt i e).1; omega)
        have HROW2 := Lib.hid hrow2
        have HRG2 := Lib.hid hrg2
        have HW2 := Lib.hid (And.intro hg3 (show w.heap.size + 1 ≤ w2.heap.size by have := HG.out.2; omega))
        have HLT := Lib.hid hlt
        have HLK := Lib.hid (And.intro hlk hat)
        have HX : Hid ((ss.length + 1) ≤ 1000000 + 1 ∧ ss.length + 1 + cnt2 ≤ M.length) := by have := HCS.out; have := HM.out; exact Lib.hid (by omega)
        clear hkey hv hlk hat hrg2 hlt hg2 hs2 ex hg3 hhas hrow2
        cases hP : P (str x)
        · rw [hP] at HFX
          have HFX := Lib.hid HFX
          have HPX := Lib.hid hP
          clear hP
          go_wp2_with fail
          refine HFX.out.mono ?_
          rintro e w3 ⟨rfl, g3⟩
          have HRG3 := Lib.hid (HRG2.out.kept g3 (by simp) (by simp))
          have HROW3 := Lib.hid (own_keep HROW2.out g3 (fun _ _ => by simp))
          have HW3 := Lib.hid (And.intro (grownBy_trans HW2.out.1 g3) (Nat.le_trans HW2.out.2 g3.size))
          clear g3 HRG2 HROW2 HW2
          go_wp2_with fail
          go_roundw
          case rel => exact ⟨_, cnt2, ss, HRG3.out, by show _ ≤ _; have := HX.out; omega, HROW3.out, HC.out.no HLK.out.1 HPX.out, HW3.out⟩
          case measure => rw [HRG3.out.left_eq, HRG.out.left_eq]; exact HLT.out
        · rw [hP] at HFX
          have HFX := Lib.hid HFX
          have HPX := Lib.hid hP
          clear hP
          go_wp2_with fail
          refine HFX.out.mono ?_
          rintro e wa ⟨rfl, g3⟩
          have HRGa := Lib.hid (HRG2.out.kept g3 (by simp) (by simp))
          have HROWa := Lib.hid (own_keep HROW2.out g3 (fun _ _ => by simp))
          have HWa := Lib.hid (And.intro (grownBy_trans HW2.out.1 g3) (Nat.le_trans HW2.out.2 g3.size))
          clear g3 HRG2 HROW2 HW2
          go_wp2_with (at_builtin; refine wpList_append_own _ rfl _ _ 33 rfl (w.heap.size + 1) 9 i0 (.string ⟨#[]⟩) 1 16 Tryz.underlying33 hi hz0 hz1 hz2 rfl (by decide) _ _ _ rfl (HROWa.out.alloc _) ⟨wa.heap.size, 0, none⟩ 1 1 [.string (str x)] rfl rfl (cell_one_new _ _ _) ?q2 ?q3 ?q4 ?q5 ?_)
          case q2 => first | rfl | (intro u hu; simp at hu; subst hu; rfl)
          case q3 => have := HX.out; unfold maxLen; omega
          case q4 => have := HX.out; omega
          case q5 => have := HWa.out.2; first | (simp; omega) | omega
          intro v' w3 ho hg3 _
          rw [push_strs, ← List.map_singleton (f := str), ← List.map_append] at ho
          have HO3 := Lib.hid ho
          have hne1 : some mb ≠ (show Value from _).ownBlock := row_ne_low HROWa.out (by have := HB.out.1; omega)
          have hne2 : some w.heap.size ≠ (show Value from _).ownBlock := row_ne_low HROWa.out (by omega)
          have HRG3 := Lib.hid ((HRGa.out.alloc _).kept hg3 hne1 hne2)
          have HG3 := Lib.hid (grown_row (grownBy_alloc' HWa.out.1 (.cells #[.string (str x)] 9)) hg3 (fun i e => by have := (HROWa.out.lt i e).1; omega))
          have HS3 : Hid (w.heap.size + 1 ≤ w3.heap.size) := by
            have h1 := hg3.size
            have h2 := HWa.out.2
            simp at h1
            exact Lib.hid (by omega)
          clear ho hg3 hne1 hne2
          go_wp2_with fail
          go_roundw
          case rel => exact ⟨_, cnt2, ss ++ [x], HRG3.out, by show _ ≤ _; have := HX.out; simp; omega, by show World.ownsRow _ _ _ _ _ _ _; rw [List.length_append]; exact HO3.out, HC.out.yes HLK.out.1 HLK.out.2 HPX.out, HG3.out, HS3.out⟩
          case measure => rw [HRG3.out.left_eq, HRG.out.left_eq]; exact HLT.out
set_option maxRecDepth 100000 in
set_option maxHeartbeats 3200000 in
theorem tsort_some (n0 : Nat) (X : List Nat) (c1 c2 : Value) (P : ByteArray → Bool) (w : World) (b : Nat) (M : List PairS) (hT : TreeK n0 X w b M) (hM : M.length ≤ 1000000)
    (hF : ∀ (k : ByteArray) (w' : World), hasM M k = true → w.grownBy w' none → Calls Tryz.prog 109 #[.string k, c1, c2] w' fun e w'' => e = .returned (.bool (P k)) ∧ w'.grownBy w'' none) :
    Calls Tryz.prog 108 #[.pointer (some ⟨b, 0, none⟩), .func (Fn.func 109) #[] #[c1, c2]] w fun e w' => ∃ v, e = .returned v ∧ w'.ownsRow w.heap.size 9 1 v (sortK M P).length (strsV (sortK M P)) ∧ w.grownBy w' none := by
  obtain ⟨i0, hi, hz0, hz1, hz2⟩ := info_parts infoStrW
  obtain ⟨mv, hb, ho, hm⟩ := hT
  have c0 := cell_of hb 0
  simp at c0
  have HF := Lib.hid hF
  have hlb : b < w.heap.size := (Array.getElem?_eq_some_iff.1 hb).1
  rcases hm with ⟨rfl, rfl⟩ | ⟨mb, D, rfl, h1, h2, h3, h4⟩
  · have hrg := run_range_nilMap (P := Tryz.prog) w 132 9 9 Tryz.underlying132
    have hnx : ∀ ty, (Instr.next (.pointer (some ⟨w.heap.size, 0, none⟩)) false ty).run Tryz.prog (w.alloc (.mapIter none 0 #[] 0)) = _ := fun ty => run_next_nilMap _ ty 0 0 #[]
    have HSN := Lib.hid (Tryz.slices_Sort_string_none none 0)
    clear hb ho hlb hF
    go_enter Tryz.func108, Tryz.ntmps108
    go_wp2_with fail
    refine wp_loop_rounds 1 ?_
    rw [rounds_succ]
    go_wp2_with fail
    refine (HSN.out _).mono ?_
    rintro e w' ⟨rfl, rfl⟩
    go_wp2_with fail
    go_ret
    rw [sortK_nil]
    exact ⟨_, rfl, World.ownsRow_nil _ _ _ _, World.grownBy_alloc _ _ _⟩
  · have hbl := h3.lt
    have hbm : mb ≠ b := by
      intro e
      obtain ⟨es, cl, h5, _⟩ := h3
      rw [e, hb] at h5
      cases h5
    have hsz := h4.size
    have HI := Lib.hid h4
    have HK := Lib.hid h3
    have HM := Lib.hid hM
    clear hb ho h1 h2 h4 hF hsz hM
    go_enter Tryz.func108, Tryz.ntmps108
    go_wp2_with (at_range; refine wpList_range_own _ rfl _ 132 rfl 9 9 strK Tryz.underlying132 strR mb M.length D rfl HK.out ?_; intro w1 hrg1 hg1 hs1)
    rw [HI.out.size] at hrg1
    have HRG1 := Lib.hid hrg1
    have HG1 := Lib.hid (And.intro hg1 hs1)
    have HB := Lib.hid (And.intro hbl (And.intro hlb hbm))
    clear hrg1 hg1 hs1 hbl hlb hbm c0
    go_frame
    go_loopw [5, 6] (fun v _ wr => ∃ (left : Lit → Bool) (cnt : Nat) (ss : List (List UInt8)), Hid (wr.ranges Tryz.prog 9 strR mb w.heap.size M.length D left cnt) ∧ Hid (ss.length + cnt ≤ M.length) ∧ Hid (wr.ownsRow (w.heap.size + 1) 9 1 v ss.length (strsV (ss.map str))) ∧ Hid (Coll D (fun l => P (str l)) left ss) ∧ Hid (w.grownBy wr none ∧ w.heap.size + 1 ≤ wr.heap.size)) (fun _ _ wr => wr.rangeLeft mb w.heap.size)
    case atStart => exact ⟨_, _, [], HRG1.out, by show 0 + _ ≤ _; omega, World.ownsRow_nil _ _ _ _, Coll.start D _, HG1.out.1, by have := HG1.out.2; omega⟩
    case round =>
      clear HRG1 HG1
      obtain ⟨left, cnt, ss, HRG, HCS, HROW, HC, HG⟩ := hrel
      go_wp2_with (at_next; refine wpList_next_ranges _ rfl _ rfl 9 strK strR (fun l : List UInt8 => Value.string (str l)) (fun s : ByteArray => Value.string s) (fun key kl hk => by obtain ⟨x, hx, _⟩ := Maps.keyOf_str Tryz.underlying9 hk; exact ⟨x, hx⟩) (fun v y hv => by obtain ⟨c, rfl, _⟩ := strR_inv hv; exact ⟨c, rfl⟩) mb w.heap.size M.length _ _ _ rfl HRG.out ?_ ?_)
      · intro hc0 hl0
        have HP := Lib.hid (sorted_strs (HC.out.perm HI.out hl0))
        have HL : Hid (ss.length ≤ 1000000) := by have := HCS.out; have := HM.out; exact Lib.hid (by omega)
        clear hc0 hl0
        have hrow := HROW.out
        rw [← enc_strs] at hrow
        rcases hrow.2 with ⟨rfl, h0⟩ | ⟨g, cap, cur, rfl, hbase, hb, h1, h2, h3, h4⟩
        · have hss : ss = [] := by
            have := hrow.1
            simp at this
            exact List.eq_nil_of_length_eq_zero (by omega)
          subst hss
          have HSN := Lib.hid (Tryz.slices_Sort_string_none none 0)
          clear hrow h0
          go_wp2_with fail
          refine (HSN.out _).mono ?_
          rintro e w' ⟨rfl, rfl⟩
          go_wp2_with fail
          go_ret
          have hp : sortK M P = [] := by rw [← HP.out]; simp
          rw [hp]
          exact ⟨_, rfl, World.ownsRow_nil _ _ _ _, HG.out.1⟩
        · have hH : Holds encStr wr g 0 ss.toArray := holds_of_block hb (by simpa using h4)
          have hgl : g < wr.heap.size := (Array.getElem?_eq_some_iff.1 hb).1
          have HSC := Lib.hid (Tryz.slices_Sort_string g 0 cap ss wr hH hgl (by have := HL.out; omega))
          have HB2 := Lib.hid (And.intro hbase (And.intro hb (And.intro h1 (And.intro h2 h3))))
          clear hH hgl hrow hbase hb h1 h2 h3 h4
          go_wp2_with fail
          refine HSC.out.mono ?_
          rintro e w' ⟨rfl, nn, os, rfl⟩
          have HO := Lib.hid (ownsRow_sorted (n := nn) (os := os) (ts := ss.mergeSort fun x y => decide (x ≤ y)) (by simp) HB2.out.1 HB2.out.2.1 HB2.out.2.2.1 HB2.out.2.2.2.1 HB2.out.2.2.2.2)
          have HGS : Hid (wr.grownBy (Go.Sort.grow (putRow encStr (Sort.ahead wr nn) g 0 (ss.mergeSort fun x y => decide (x ≤ y)).toArray) os) (some g)) := Lib.hid (grownBy_sorted _)
          generalize Go.Sort.grow (putRow encStr (Sort.ahead wr nn) g 0 (ss.mergeSort fun x y => decide (x ≤ y)).toArray) os = w' at HO HGS ⊢
          go_wp2_with fail
          go_ret
          have hl : ss.length = (sortK M P).length := by rw [← HP.out]; simp
          have ho2 := HO.out
          rw [enc_strs, HP.out] at ho2
          rw [← hl]
          exact ⟨_, rfl, own_low ho2 (Nat.le_succ _), grown_row HG.out.1 HGS.out (fun x e => by injection e with e; have := HB2.out.1; omega)⟩
      · intro x c kl yd yp w2 cnt2 hkey hlk hv hat hrg2 hlt hg2 hs2 hen
        obtain ⟨x', ex, rfl, _⟩ := Maps.keyOf_str Tryz.underlying9 hkey
        obtain rfl : x = x' := encStr_inj ex
        have hg3 : w.grownBy w2 none := grown_row HG.out.1 hg2 (fun i e => by injection e with e; omega)
        have hhas : hasM M (str x) = true := by
          have := HI.out.has (str x)
          rw [show litK (str x) = .string x from rfl, has_true_of_atKey hat] at this
          exact this.symm
        have HFX := HF.out (str x) w2 hhas hg3
        have hrow2 := own_keep HROW.out hg2 (fun i e q => by injection q with q; have := (HROW.out.lt i e).1; omega)
        have HROW2 := Lib.hid hrow2
        have HRG2 := Lib.hid hrg2
        have HW2 := Lib.hid (And.intro hg3 (show w.heap.size + 1 ≤ w2.heap.size by have := HG.out.2; omega))
        have HLT := Lib.hid hlt
        have HLK := Lib.hid (And.intro hlk hat)
        have HX : Hid ((ss.length + 1) ≤ 1000000 + 1 ∧ ss.length + 1 + cnt2 ≤ M.length) := by have := HCS.out; have := HM.out; exact Lib.hid (by omega)
        clear hkey hv hlk hat hrg2 hlt hg2 hs2 ex hg3 hhas hrow2
        cases hP : P (str x)
        · rw [hP] at HFX
          have HFX := Lib.hid HFX
          have HPX := Lib.hid hP
          clear hP
          go_wp2_with fail
          refine HFX.out.mono ?_
          rintro e w3 ⟨rfl, g3⟩
          have HRG3 := Lib.hid (HRG2.out.kept g3 (by simp) (by simp))
          have HROW3 := Lib.hid (own_keep HROW2.out g3 (fun _ _ => by simp))
          have HW3 := Lib.hid (And.intro (grownBy_trans HW2.out.1 g3) (Nat.le_trans HW2.out.2 g3.size))
          clear g3 HRG2 HROW2 HW2
          go_wp2_with fail
          go_roundw
          case rel => exact ⟨_, cnt2, ss, HRG3.out, by show _ ≤ _; have := HX.out; omega, HROW3.out, HC.out.no HLK.out.1 HPX.out, HW3.out⟩
          case measure => rw [HRG3.out.left_eq, HRG.out.left_eq]; exact HLT.out
        · rw [hP] at HFX
          have HFX := Lib.hid HFX
          have HPX := Lib.hid hP
          clear hP
          go_wp2_with fail
          refine HFX.out.mono ?_
          rintro e wa ⟨rfl, g3⟩
          have HRGa := Lib.hid (HRG2.out.kept g3 (by simp) (by simp))
          have HROWa := Lib.hid (own_keep HROW2.out g3 (fun _ _ => by simp))
          have HWa := Lib.hid (And.intro (grownBy_trans HW2.out.1 g3) (Nat.le_trans HW2.out.2 g3.size))
          clear g3 HRG2 HROW2 HW2
          go_wp2_with (at_builtin; refine wpList_append_own _ rfl _ _ 33 rfl (w.heap.size + 1) 9 i0 (.string ⟨#[]⟩) 1 16 Tryz.underlying33 hi hz0 hz1 hz2 rfl (by decide) _ _ _ rfl (HROWa.out.alloc _) ⟨wa.heap.size, 0, none⟩ 1 1 [.string (str x)] rfl rfl (cell_one_new _ _ _) ?q2 ?q3 ?q4 ?q5 ?_)
          case q2 => first | rfl | (intro u hu; simp at hu; subst hu; rfl)
          case q3 => have := HX.out; unfold maxLen; omega
          case q4 => have := HX.out; omega
          case q5 => have := HWa.out.2; first | (simp; omega) | omega
          intro v' w3 ho hg3 _
          rw [push_strs, ← List.map_singleton (f := str), ← List.map_append] at ho
          have HO3 := Lib.hid ho
          have hne1 : some mb ≠ (show Value from _).ownBlock := row_ne_low HROWa.out (by have := HB.out.1; omega)
          have hne2 : some w.heap.size ≠ (show Value from _).ownBlock := row_ne_low HROWa.out (by omega)
          have HRG3 := Lib.hid ((HRGa.out.alloc _).kept hg3 hne1 hne2)
          have HG3 := Lib.hid (grown_row (grownBy_alloc' HWa.out.1 (.cells #[.string (str x)] 9)) hg3 (fun i e => by have := (HROWa.out.lt i e).1; omega))
          have HS3 : Hid (w.heap.size + 1 ≤ w3.heap.size) := by
            have h1 := hg3.size
            have h2 := HWa.out.2
            simp at h1
            exact Lib.hid (by omega)
          clear ho hg3 hne1 hne2
          go_wp2_with fail
          go_roundw
          case rel => exact ⟨_, cnt2, ss ++ [x], HRG3.out, by show _ ≤ _; have := HX.out; simp; omega, by show World.ownsRow _ _ _ _ _ _ _; rw [List.length_append]; exact HO3.out, HC.out.yes HLK.out.1 HLK.out.2 HPX.out, HG3.out, HS3.out⟩
          case measure => rw [HRG3.out.left_eq, HRG.out.left_eq]; exact HLT.out
theorem tkeys1_any (k : ByteArray) (w : World) : Calls Tryz.prog 123 #[.string k] w fun e w' => e = .returned (.bool true) ∧ w = w' := by
  go_enter Tryz.func123, Tryz.ntmps123
  go_wp2_with fail
  go_ret
  exact ⟨rfl, rfl⟩
/-- all keys, rising -/
def keysM (M : List PairS) : List ByteArray := sortK M fun _ => true
theorem tkeys_any (n0 : Nat) (X : List Nat) (w : World) (b : Nat) (M : List PairS) (hT : TreeK n0 X w b M) (hM : M.length ≤ 1000000) :
    Calls Tryz.prog 77 #[.pointer (some ⟨b, 0, none⟩)] w fun e w' => ∃ v, e = .returned v ∧ w'.ownsRow w.heap.size 9 1 v (keysM M).length (strsV (keysM M)) ∧ w.grownBy w' none := by
  have H := Lib.hid (tsort_all n0 X (fun _ => true) w b M hT hM (fun k w' _ _ => (tkeys1_any k w').mono fun e w'' q => ⟨q.1, by rw [← q.2]; exact World.grownBy.refl _ _⟩))
  clear hT hM
  go_enter Tryz.func77, Tryz.ntmps77
  go_wp2_with fail
  refine H.out.mono ?_
  rintro e w1 ⟨v, rfl, ho, g⟩
  have HO := Lib.hid (And.intro ho g)
  clear ho g
  go_wp2_with fail
  go_ret
  exact ⟨v, rfl, HO.out.1, HO.out.2⟩
end Go.Proofs.YtbhoeiopckmfhaaGreatDoor

namespace Go.Proofs.YtbhoeiopckmfhaaGreatDoor
open Go.RowKit Go.Maps
attribute [local irreducible] shaL

/-- the first one that is meant, or -1 -/
def firstI (L : List ByteArray) (P : ByteArray → Bool) : Int := match L.findIdx? P with
  | some i => i
  | none => -1
theorem firstI_at (L : List ByteArray) (P : ByteArray → Bool) (k : Nat) (hk : k < L.length) (hp : P L[k] = true) (hn : ∀ j, (h : j < L.length) → j < k → P L[j] = false) : firstI L P = k := by
  have : L.findIdx? P = some k := by
    rw [List.findIdx?_eq_some_iff_getElem]
    exact ⟨hk, hp, fun j hj => by simp [hn j (by omega) hj]⟩
  unfold firstI
  rw [this]
theorem firstI_none (L : List ByteArray) (P : ByteArray → Bool) (hn : ∀ j, (h : j < L.length) → P L[j] = false) : firstI L P = -1 := by
  have : L.findIdx? P = none := by
    rw [List.findIdx?_eq_none_iff]
    intro x hx
    obtain ⟨j, hj, rfl⟩ := List.getElem_of_mem hx
    exact hn j hj
  unfold firstI
  rw [this]
set_option maxRecDepth 100000 in
set_option maxHeartbeats 1600000 in
theorem index_bit (P : ByteArray → Bool) (a : Option Addr) (n c : Nat) (L : List ByteArray) (w : World) (c1 : Value) (hv : StrsAt w (.slice a n c) L) (hn : n ≤ 1000000)
    (hF : ∀ (k : ByteArray) (w' : World), k ∈ L → w.grownBy w' none → Calls Tryz.prog 156 #[.string k, c1] w' fun e w'' => e = .returned (.bool (P k)) ∧ w'.grownBy w'' none) :
    Calls Tryz.prog 155 #[.slice a n c, .func (Fn.func 156) #[] #[c1]] w fun e w' => e = .returned (.int .i64 (firstI L P)) ∧ w.grownBy w' none := by
  have hln : L.length = n := by obtain ⟨_, _, e, _⟩ := hv; injection e with _ e _; exact e.symm
  have HV := Lib.hid hv
  have HF := Lib.hid hF
  have HLN := Lib.hid hln
  clear hv hF hln
  go_enter Tryz.func155, Tryz.ntmps155
  go_wp2_with fail
  go_loopw [5, 8] (fun _ iv wr => ∃ k : Nat, k ≤ n ∧ iv = .int .i64 k ∧ Hid (∀ j, (h : j < L.length) → j < k → P L[j] = false) ∧ Hid (w.grownBy wr none)) (fun _ iv _ => n - (intOf iv).toNat)
  case atStart => exact ⟨0, Nat.zero_le _, rfl, Lib.hid (fun j _ h => absurd h (Nat.not_lt_zero j)), World.grownBy.refl _ _⟩
  case round =>
    obtain ⟨k, hk, rfl, HK, HG⟩ := hrel
    by_cases hlt : k < n
    · have d1 : (k : Int) < (n : Int) := by omega
      have d0 : (0 : Int) ≤ (k : Int) := by omega
      have hkl : k < L.length := by have := HLN.out; omega
      obtain ⟨x, hx⟩ : ∃ x, L[k]? = some x := ⟨_, List.getElem?_eq_getElem hkl⟩
      have hxe : L[k] = x := (List.getElem?_eq_some_iff.1 hx).2
      obtain ⟨g, o, rfl, hcell⟩ := HV.out.at_ k x hx
      have hc : wr.cell? ⟨g, o + k, none⟩ = some (.string x) := HG.out.cell hcell (by simp)
      have hfx := HF.out x wr (List.mem_of_getElem? hx) HG.out
      have HX := Lib.hid hxe
      clear hx hxe hcell
      cases hP : P x
      · rw [hP] at hfx
        have HFX := Lib.hid hfx
        have HPX := Lib.hid hP
        clear hfx hP
        go_wp2_with fail
        refine HFX.out.mono ?_
        rintro e w3 ⟨rfl, g3⟩
        have HG3 := Lib.hid (grownBy_trans HG.out g3)
        clear g3
        go_wp2_with fail
        go_roundw
        case rel =>
          refine ⟨k + 1, by omega, by go_num, Lib.hid (fun j h hj => ?_), HG3.out⟩
          by_cases hjk : j = k
          · subst hjk; rw [HX.out]; exact HPX.out
          · exact HK.out j h (by omega)
        case measure => simp [intOf]; omega
      · rw [hP] at hfx
        have HFX := Lib.hid hfx
        have HPX := Lib.hid hP
        clear hfx hP
        go_wp2_with fail
        refine HFX.out.mono ?_
        rintro e w3 ⟨rfl, g3⟩
        have HG3 := Lib.hid (grownBy_trans HG.out g3)
        clear g3
        go_wp2_with fail
        go_ret
        exact ⟨by rw [firstI_at L P k hkl (by rw [HX.out]; exact HPX.out) HK.out]; rfl, HG3.out⟩
    · have hkn : k = n := by omega
      subst hkn
      have d1 : ¬ (k : Int) < (k : Int) := by omega
      go_wp2_with fail
      go_ret
      exact ⟨by rw [firstI_none L P (fun j h => HK.out j h (by have := HLN.out; omega))]; rfl, HG.out⟩
end Go.Proofs.YtbhoeiopckmfhaaGreatDoor

namespace Go.Proofs.YtbhoeiopckmfhaaGreatDoor
open Go.RowKit Go.Maps
attribute [local irreducible] shaL

set_option maxRecDepth 100000 in
set_option maxHeartbeats 1600000 in
theorem index_alike (P : ByteArray → Bool) (a : Option Addr) (n c : Nat) (L : List ByteArray) (w : World) (c1 c2 : Value) (hv : StrsAt w (.slice a n c) L) (hn : n ≤ 1000000)
    (hF : ∀ (k : ByteArray) (w' : World), k ∈ L → w.grownBy w' none → Calls Tryz.prog 122 #[.string k, c1, c2] w' fun e w'' => e = .returned (.bool (P k)) ∧ w'.grownBy w'' none) :
    Calls Tryz.prog 155 #[.slice a n c, .func (Fn.func 122) #[] #[c1, c2]] w fun e w' => e = .returned (.int .i64 (firstI L P)) ∧ w.grownBy w' none := by
  have hln : L.length = n := by obtain ⟨_, _, e, _⟩ := hv; injection e with _ e _; exact e.symm
  have HV := Lib.hid hv
  have HF := Lib.hid hF
  have HLN := Lib.hid hln
  clear hv hF hln
  go_enter Tryz.func155, Tryz.ntmps155
  go_wp2_with fail
  go_loopw [5, 8] (fun _ iv wr => ∃ k : Nat, k ≤ n ∧ iv = .int .i64 k ∧ Hid (∀ j, (h : j < L.length) → j < k → P L[j] = false) ∧ Hid (w.grownBy wr none)) (fun _ iv _ => n - (intOf iv).toNat)
  case atStart => exact ⟨0, Nat.zero_le _, rfl, Lib.hid (fun j _ h => absurd h (Nat.not_lt_zero j)), World.grownBy.refl _ _⟩
  case round =>
    obtain ⟨k, hk, rfl, HK, HG⟩ := hrel
    by_cases hlt : k < n
    · have d1 : (k : Int) < (n : Int) := by omega
      have d0 : (0 : Int) ≤ (k : Int) := by omega
      have hkl : k < L.length := by have := HLN.out; omega
      obtain ⟨x, hx⟩ : ∃ x, L[k]? = some x := ⟨_, List.getElem?_eq_getElem hkl⟩
      have hxe : L[k] = x := (List.getElem?_eq_some_iff.1 hx).2
      obtain ⟨g, o, rfl, hcell⟩ := HV.out.at_ k x hx
      have hc : wr.cell? ⟨g, o + k, none⟩ = some (.string x) := HG.out.cell hcell (by simp)
      have hfx := HF.out x wr (List.mem_of_getElem? hx) HG.out
      have HX := Lib.hid hxe
      clear hx hxe hcell
      cases hP : P x
      · rw [hP] at hfx
        have HFX := Lib.hid hfx
        have HPX := Lib.hid hP
        clear hfx hP
        go_wp2_with fail
        refine HFX.out.mono ?_
        rintro e w3 ⟨rfl, g3⟩
        have HG3 := Lib.hid (grownBy_trans HG.out g3)
        clear g3
        go_wp2_with fail
        go_roundw
        case rel =>
          refine ⟨k + 1, by omega, by go_num, Lib.hid (fun j h hj => ?_), HG3.out⟩
          by_cases hjk : j = k
          · subst hjk; rw [HX.out]; exact HPX.out
          · exact HK.out j h (by omega)
        case measure => simp [intOf]; omega
      · rw [hP] at hfx
        have HFX := Lib.hid hfx
        have HPX := Lib.hid hP
        clear hfx hP
        go_wp2_with fail
        refine HFX.out.mono ?_
        rintro e w3 ⟨rfl, g3⟩
        have HG3 := Lib.hid (grownBy_trans HG.out g3)
        clear g3
        go_wp2_with fail
        go_ret
        exact ⟨by rw [firstI_at L P k hkl (by rw [HX.out]; exact HPX.out) HK.out]; rfl, HG3.out⟩
    · have hkn : k = n := by omega
      subst hkn
      have d1 : ¬ (k : Int) < (k : Int) := by omega
      go_wp2_with fail
      go_ret
      exact ⟨by rw [firstI_none L P (fun j h => HK.out j h (by have := HLN.out; omega))]; rfl, HG.out⟩
end Go.Proofs.YtbhoeiopckmfhaaGreatDoor

namespace Go.Proofs.YtbhoeiopckmfhaaGreatDoor
open Go.RowKit Go.Maps

/-- j places have been looked at; what is kept of them, i texts, lies at the row's head; from place j on the row is as it was -/
structure KeptL (q : ByteArray → Bool) (L cur : List ByteArray) (i j : Nat) : Prop where
  len : cur.length = L.length
  lt : i < j
  low : cur.take i = (L.take j).filter q
  high : cur.drop j = L.drop j
theorem take_succ_at {L : List ByteArray} {j : Nat} {x : ByteArray} (h : L[j]? = some x) : L.take (j + 1) = L.take j ++ [x] := by
  rw [List.take_add_one, h]
  rfl
theorem KeptL.start (q : ByteArray → Bool) (L : List ByteArray) (k : Nat) (hk : k < L.length) (hp : q L[k] = false) (hn : ∀ j, (h : j < L.length) → j < k → q L[j] = true) : KeptL q L L k (k + 1) := by
  refine ⟨rfl, Nat.lt_succ_self _, ?_, rfl⟩
  rw [take_succ_at (List.getElem?_eq_getElem hk), List.filter_append, List.filter_eq_self.2]
  · simp [hp]
  · intro x hx
    obtain ⟨j, hj, rfl⟩ := List.getElem_of_mem hx
    simp at hj
    simp only [List.getElem_take]
    exact hn j (by omega) (by omega)
theorem KeptL.at_ {q : ByteArray → Bool} {L cur : List ByteArray} {i j : Nat} (h : KeptL q L cur i j) (t : Nat) (ht : j ≤ t) : cur[t]? = L[t]? := by
  have h1 : (cur.drop j)[t - j]? = (L.drop j)[t - j]? := by rw [h.high]
  rw [List.getElem?_drop, List.getElem?_drop, show j + (t - j) = t from by omega] at h1
  exact h1
theorem KeptL.keep {q : ByteArray → Bool} {L cur : List ByteArray} {i j : Nat} (h : KeptL q L cur i j) {x : ByteArray} (hx : L[j]? = some x) (hq : q x = true) : KeptL q L (cur.set i x) (i + 1) (j + 1) := by
  have hj : j < L.length := (List.getElem?_eq_some_iff.1 hx).1
  have hl := h.len
  have hlt := h.lt
  refine ⟨by simpa using hl, by omega, ?_, ?_⟩
  · rw [take_succ_at hx, List.filter_append, ← h.low, List.take_add_one, List.getElem?_set_self (by omega), List.take_set_of_le (Nat.le_refl _)]
    simp [hq]
  · rw [List.drop_set_of_lt (by omega)]
    have h1 := h.high
    have : (cur.drop j).drop 1 = (L.drop j).drop 1 := by rw [h1]
    simpa [List.drop_drop] using this
theorem KeptL.skip {q : ByteArray → Bool} {L cur : List ByteArray} {i j : Nat} (h : KeptL q L cur i j) {x : ByteArray} (hx : L[j]? = some x) (hq : q x = false) : KeptL q L cur i (j + 1) := by
  refine ⟨h.len, by have := h.lt; omega, ?_, ?_⟩
  · rw [take_succ_at hx, List.filter_append, ← h.low]
    simp [hq]
  · have h1 := h.high
    have : (cur.drop j).drop 1 = (L.drop j).drop 1 := by rw [h1]
    simpa [List.drop_drop] using this
theorem KeptL.count {q : ByteArray → Bool} {L cur : List ByteArray} {i : Nat} (h : KeptL q L cur i L.length) : (L.filter q).length = i ∧ cur.take i = L.filter q := by
  have h1 := h.low
  rw [List.take_length] at h1
  refine ⟨?_, h1⟩
  rw [← h1, List.length_take, h.len]
  have := h.lt
  omega
theorem KeptL.few {q : ByteArray → Bool} {L cur : List ByteArray} {i j : Nat} (h : KeptL q L cur i j) (hj : j ≤ L.length) : i < L.length := by have := h.lt; omega

/-- a list whose places from o on are set, one by one -/
def setL : List Value → Nat → List Value → List Value
  | xs, _, [] => xs
  | xs, o, v :: r => setL (xs.set o v) (o + 1) r
theorem setL_take : ∀ (vs xs : List Value) (o : Nat), (setL xs o vs).take o = xs.take o
  | [], _, _ => rfl
  | v :: r, xs, o => by
    have h1 := setL_take r (xs.set o v) (o + 1)
    have h2 : ((setL (xs.set o v) (o + 1) r).take (o + 1)).take o = ((xs.set o v).take (o + 1)).take o := by rw [h1]
    rw [List.take_take, List.take_take, Nat.min_eq_left (by omega)] at h2
    show (setL (xs.set o v) (o + 1) r).take o = xs.take o
    rw [h2, List.take_set_of_le (Nat.le_refl _)]
theorem own_setCells {base : Nat} {e : TypeId} {g n cap : Nat} : ∀ (vs xs : List Value) (o : Nat) (w : World), w.ownsRow base e 1 (.slice (some ⟨g, 0, none⟩) n cap) n xs →
    (w.setCells g o vs).ownsRow base e 1 (.slice (some ⟨g, 0, none⟩) n cap) n (setL xs o vs) ∧ w.grownBy (w.setCells g o vs) (some g)
  | [], xs, o, w, h => ⟨h, World.grownBy.refl _ _⟩
  | v :: r, xs, o, w, h => by
    have h1 := h.stored o v
    have h2 := own_setCells r (xs.set o v) (o + 1) (w.setCell ⟨g, o, none⟩ v) h1.1
    exact ⟨h2.1, h1.2.trans h2.2⟩
theorem own_take {w : World} {base : Nat} {e : TypeId} {g n cap : Nat} {xs : List Value} (h : w.ownsRow base e 1 (.slice (some ⟨g, 0, none⟩) n cap) n xs) (i : Nat) (hi : i ≤ n) : w.ownsRow base e 1 (.slice (some ⟨g, 0, none⟩) i cap) i (xs.take i) := by
  have hl := h.1
  refine ⟨by simp; omega, ?_⟩
  rcases h.2 with ⟨h', _⟩ | ⟨g', cap', cur, h', hb, hg, hnc, hcm, hcs, htake⟩
  · simp at h'
  · simp only [Value.slice.injEq, Option.some.injEq, Addr.mk.injEq, and_true, true_and] at h'
    obtain ⟨rfl, rfl⟩ := h'
    refine .inr ⟨g, cap, cur, rfl, hb, hg, by omega, hcm, hcs, ?_⟩
    rw [← htake, List.take_take, Nat.mul_one, Nat.mul_one, Nat.min_eq_left hi]
end Go.Proofs.YtbhoeiopckmfhaaGreatDoor

namespace Go.Proofs.YtbhoeiopckmfhaaGreatDoor
open Go.RowKit Go.Maps
attribute [local irreducible] shaL

/-- a node of bytes, of which the first is this one -/
def beginsB (s : ByteArray) (m : UInt8) : Bool := decide (s.size = 17) && (headB s == m)
theorem begins_any (s : ByteArray) (hs : s.size ≤ maxLen) (m : UInt8) (w : World) : Calls Tryz.prog 179 #[.string s, .int .u8 m.toNat] w fun e w' => e = .returned (.bool (beginsB s m)) ∧ w = w' := by
  unfold maxLen at hs
  by_cases h : s.size = 17
  · have h1 : ((s.size : Int) == 17) = true := by simp; omega
    have h2 : 0 < s.size := by omega
    have h3 : (0 : Int) < (s.size : Int) := by omega
    have hb : beginsB s m = ((s[0].toNat : Int) == (m.toNat : Int)) := by
      unfold beginsB headB
      obtain ⟨⟨l⟩⟩ := s
      match l, h2 with
      | x :: r, _ =>
        simp [h]
        show (x == m) = decide (((x.toNat : Nat) : Int) = ((m.toNat : Nat) : Int))
        rw [Bool.eq_iff_iff]
        simp
        exact ⟨fun e => by rw [e], fun e => UInt8.toNat_inj.1 (by omega)⟩
    rw [hb]
    clear hb
    go_enter Tryz.func179, Tryz.ntmps179
    go_wp2_with fail
    go_ret
    exact ⟨rfl, rfl⟩
  · have h1 : ((s.size : Int) == 17) = false := by simp; omega
    have hb : beginsB s m = false := by unfold beginsB; simp [h]
    rw [hb]
    clear hb h
    go_enter Tryz.func179, Tryz.ntmps179
    go_wp2_with fail
    go_ret
    exact ⟨rfl, rfl⟩
theorem alike1_any (k s : ByteArray) (z : Int) (B1 B2 : Nat) (hk : k.size ≤ maxLen) (hs : s.size ≤ maxLen) (w : World) (h1 : w.cell? ⟨B1, 0, none⟩ = some (.string s)) (h2 : w.cell? ⟨B2, 0, none⟩ = some (.int .i64 z)) :
    Calls Tryz.prog 122 #[.string k, .pointer (some ⟨B1, 0, none⟩), .pointer (some ⟨B2, 0, none⟩)] w fun e w' => e = .returned (.bool (!belowB k s (capD z))) ∧ w.grownBy w' none := by
  have HB := Lib.hid (below_int k s hk hs z w)
  clear hk hs
  go_enter Tryz.func122, Tryz.ntmps122
  go_wp2_with fail
  refine HB.out.mono ?_
  rintro e w2 ⟨rfl, g2⟩
  have HG := Lib.hid g2
  clear g2
  go_wp2_with fail
  go_ret
  exact ⟨rfl, HG.out⟩
end Go.Proofs.YtbhoeiopckmfhaaGreatDoor

namespace Go.Proofs.YtbhoeiopckmfhaaGreatDoor
open Go.RowKit Go.Maps

theorem infoU8P : (Tryz.prog.info? 5).map (fun i => (i.zero, i.size, i.bytes)) = some (some (.int .u8 0), 1, 1) := by kernel_rfl
/-- a key of two small numbers -/
def keyL14 (a b : UInt8) : List UInt8 := [a, 0, b, 0, 0, 0, 0, 0, 0, 0, 0, 0, 0, 0, 0, 0]
def keyS14 (a b : UInt8) : ByteArray := str (keyL14 a b)
theorem keyS14_size (a b : UInt8) : (keyS14 a b).size = 16 := rfl
end Go.Proofs.YtbhoeiopckmfhaaGreatDoor
