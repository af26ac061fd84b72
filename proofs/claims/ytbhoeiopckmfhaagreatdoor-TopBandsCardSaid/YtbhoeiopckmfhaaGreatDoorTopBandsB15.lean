/- A tree's own proof: Good, Node, Has, Lacks of it. · The walk of layer 14's laws' speaks. · The walk of the whole's trees. · The walk of band's Nodes. · Plain words for band's Root: the nodes above each two. No walk. · slices.Chunk over texts, by two. · slices.Chunk over texts, by two: the iterator's contract. · What a round that appends to a box's row owes, a call lying between. No walk. · Plain words for After: what stands beside the way once the key has a value. No walk. · The walk of a proof's parted. · The walk of a proof's After. -/
import Derived.Test.YtbhoeiopckmfhaaGreatDoorTopBandsB14
import Derived.Test.YtbhoeiopckmfhaaGreatDoorTopBandsB10
import Derived.Test.YtbhoeiopckmfhaaGreatDoorTopBandsB12
import Derived.Test.YtbhoeiopckmfhaaGreatDoorTopBandsB2
import Derived.Deep.RegionHeld3
import Derived.Test.YtbhoeiopckmfhaaGreatDoorTopBandsB11
import Derived.Test.YtbhoeiopckmfhaaGreatDoorTopBandsB13
import Derived.RangeFuncBox
namespace Go.Proofs.YtbhoeiopckmfhaaGreatDoor
open Go.RowKit Go.Maps
attribute [local irreducible] shaL

theorem rest_eq (M : List PairS) (key : ByteArray) (d : Nat) (hd : d ≤ 128) : restT M key d = startM M key (d + (wayT M key d).length) := rest_start M key (128 - d) d
theorem restT_few {M : List PairS} (hone : M.Pairwise (fun p q => p.1 ≠ q.1)) (h16 : ∀ x ∈ M, x.1.size = 16) (key : ByteArray) (d : Nat) (hd : d ≤ 128) : (restT M key d).length ≤ 1 := rest_few key (128 - d) d _ (by omega) (start_alike hone h16 key d)
theorem wayT_len (M : List PairS) (key : ByteArray) (d : Nat) (hd : d ≤ 128) : d + (wayT M key d).length ≤ 128 := by
  have := way_len key (128 - d) d (startM M key d)
  show d + (wayB key (128 - d) (startM M key d) d).length ≤ 128
  omega
theorem belowB_self (k : ByteArray) (d : Nat) : belowB k k d = true := (belowB_iff k k d).2 fun _ _ => rfl
/-- who is at the way's end: the key's own leaf, or another one's, or none -/
theorem rest_has {M : List PairS} (hone : M.Pairwise (fun p q => p.1 ≠ q.1)) (h16 : ∀ x ∈ M, x.1.size = 16) (key : ByteArray) (d : Nat) (hd : d ≤ 128) :
    (decide (restT M key d ≠ []) && decide (keyOf (restT M key d) = key)) = hasM M key ∧ (hasM M key = true → valOf (restT M key d) = valM M key) := by
  have hf := restT_few hone h16 key d hd
  have he := rest_eq M key d hd
  match hr : restT M key d, hf with
  | [], _ =>
    have hno : hasM M key = false := by
      rw [Bool.eq_false_iff]
      intro h
      obtain ⟨x, hx, hk⟩ := List.any_eq_true.1 h
      have hk' : x.1 = key := by simpa using hk
      have : x ∈ startM M key (d + (wayT M key d).length) := List.mem_filter.2 ⟨hx, by rw [hk']; exact belowB_self _ _⟩
      rw [← he, hr] at this
      cases this
    rw [hno]
    exact ⟨rfl, fun h => by cases h⟩
  | [x], _ =>
    have hx : x ∈ startM M key (d + (wayT M key d).length) := by rw [← he, hr]; exact List.mem_cons_self
    have hxM := (List.mem_filter.1 hx).1
    refine ⟨?_, fun h => ?_⟩
    · show decide (x.1 = key) = hasM M key
      rw [Bool.eq_iff_iff, decide_eq_true_iff]
      refine ⟨fun e => List.any_eq_true.2 ⟨x, hxM, by simpa using e⟩, fun h => ?_⟩
      obtain ⟨y, hy, hk⟩ := List.any_eq_true.1 h
      have hk' : y.1 = key := by simpa using hk
      have : y ∈ startM M key (d + (wayT M key d).length) := List.mem_filter.2 ⟨hy, by rw [hk']; exact belowB_self _ _⟩
      rw [← he, hr, List.mem_singleton] at this
      rw [← this]; exact hk'
    · obtain ⟨y, hy, hk⟩ := List.any_eq_true.1 h
      have hk' : y.1 = key := by simpa using hk
      have : y ∈ startM M key (d + (wayT M key d).length) := List.mem_filter.2 ⟨hy, by rw [hk']; exact belowB_self _ _⟩
      rw [← he, hr, List.mem_singleton] at this
      show x.2 = _
      rw [← this, ← hk', valM_mem hone y hy]
theorem goodT {M : List PairS} (hone : M.Pairwise (fun p q => p.1 ≠ q.1)) (h16 : ∀ x ∈ M, x.1.size = 16) (key : ByteArray) (d : Nat) (hd : d ≤ 128) : goodB (wayT M key d) (decide (restT M key d ≠ [])) (keyOf (restT M key d)) (valOf (restT M key d)) key d = true := way_good M key d hd hone h16
theorem end_leaf (l : List PairS) (h : l.length ≤ 1) : (if decide (l ≠ []) then leafS (keyOf l) (valOf l) else emptyS) = endS l := by
  match l, h with
  | [], _ => rfl
  | [x], _ => rfl
theorem climbT {M : List PairS} (hone : M.Pairwise (fun p q => p.1 ≠ q.1)) (h16 : ∀ x ∈ M, x.1.size = 16) (key : ByteArray) (d : Nat) (hd : d ≤ 128) : climbN key d (wayT M key d) (if decide (restT M key d ≠ []) then leafS (keyOf (restT M key d)) (valOf (restT M key d)) else emptyS) = nodeAt M key d := by
  rw [end_leaf _ (restT_few hone h16 key d hd)]
  exact way_climb key (128 - d) d _ (by omega) (start_alike hone h16 key d)
theorem tellsT {M : List PairS} (hone : M.Pairwise (fun p q => p.1 ≠ q.1)) (h16 : ∀ x ∈ M, x.1.size = 16) (key : ByteArray) (d : Nat) (hd : d ≤ 128) : tellsB (wayT M key d) (decide (restT M key d ≠ [])) (keyOf (restT M key d)) (valOf (restT M key d)) (nodeAt M key d) key d = true := by
  unfold tellsB
  rw [goodT hone h16 key d hd, climbT hone h16 key d hd]
  simp
theorem way_small (M : List PairS) (key : ByteArray) (d : Nat) : ∀ s ∈ wayT M key d, s.size ≤ 17 := by
  intro s hs
  have := way_nodes key (128 - d) d (startM M key d) s hs
  cases this
  · decide
  · rw [leafS_size]; omega
  · rw [bothS_size]; omega
theorem rest_size {M : List PairS} (hP : Plain M) (key : ByteArray) (d : Nat) (hd : d ≤ 128) (hv : ∀ x ∈ M, x.2.size ≤ 1000) : (keyOf (restT M key d)).size ≤ 1000 ∧ (valOf (restT M key d)).size ≤ 1000 := by
  have he := rest_eq M key d hd
  match hr : restT M key d with
  | [] => exact ⟨Nat.zero_le _, Nat.zero_le _⟩
  | x :: r =>
    have hx : x ∈ startM M key (d + (wayT M key d).length) := by rw [← he, hr]; exact List.mem_cons_self
    have hxM := (List.mem_filter.1 hx).1
    exact ⟨by show x.1.size ≤ 1000; rw [hP.k16 x hxM]; omega, hv x hxM⟩
/-- a tree's own proof for a key, from a depth on, in memory -/
structure OwnP (w : World) (bv : Value) (M : List PairS) (key : ByteArray) (d : Nat) : Prop where
  row : ∃ B, w.ownsRow B 9 1 bv (wayT M key d).length (strsV (wayT M key d))
  ready : ShaReady w
  plain : Plain M
  vals : ∀ x ∈ M, x.2.size ≤ 1000
  one : M.Pairwise (fun p q => p.1 ≠ q.1)
  k16 : key.size = 16
  d128 : d ≤ 128
theorem OwnP.grown {w w' : World} {bv : Value} {M : List PairS} {key : ByteArray} {d : Nat} (h : OwnP w bv M key d) (g : w.grownBy w' none) : OwnP w' bv M key d := by
  obtain ⟨B, hB⟩ := h.row
  exact ⟨⟨B, own_keep hB g (fun _ _ e => by cases e)⟩, h.ready.grown g, h.plain, h.vals, h.one, h.k16, h.d128⟩
theorem OwnP.strs {w : World} {bv : Value} {M : List PairS} {key : ByteArray} {d : Nat} (h : OwnP w bv M key d) : StrsAt w bv (wayT M key d) := by
  obtain ⟨B, hB⟩ := h.row
  obtain ⟨a, c, rfl⟩ := slice_own' hB
  exact strs_own hB
theorem OwnP.climb {w : World} {bv : Value} {M : List PairS} {key : ByteArray} {d : Nat} (h : OwnP w bv M key d) : ∀ (x : ByteArray) (w' : World), x.size ≤ 17 → w.grownBy w' none → Calls Tryz.prog 117 #[.string x, .string key, .int .i64 d, bv] w' fun e w'' => e = .returned (.string (climbN key d (wayT M key d) x)) ∧ w'.grownBy w'' none := by
  obtain ⟨B, hB⟩ := h.row
  exact climb_fine bv _ key d w h.ready h.strs (fun s hs => by have := way_small M key d s hs; omega) h.k16 (wayT_len M key d h.d128) (fun g e => (hB.lt g e).2)
theorem OwnP.good {w : World} {bv : Value} {M : List PairS} {key : ByteArray} {d : Nat} (h : OwnP w bv M key d) :
    Calls Tryz.prog 115 #[.agg #[bv, .bool (decide (restT M key d ≠ [])), .string (keyOf (restT M key d)), .string (valOf (restT M key d))], .string key, .int .i64 d] w fun e w' => e = .returned (.bool true) ∧ w.grownBy w' none := by
  have h1 := good_fine bv (wayT M key d) (decide (restT M key d ≠ [])) (keyOf (restT M key d)) (valOf (restT M key d)) key d w h.strs (fun s hs => by have := way_small M key d s hs; unfold maxLen; omega) h.k16 (wayT_len M key d h.d128) (by have := (rest_size h.plain key d h.d128 h.vals).1; unfold maxLen; omega)
  rw [goodT h.one h.plain.k16 key d h.d128] at h1
  exact h1
theorem OwnP.node {w : World} {bv : Value} {M : List PairS} {key : ByteArray} {d : Nat} (h : OwnP w bv M key d) :
    Calls Tryz.prog 74 #[.agg #[bv, .bool (decide (restT M key d ≠ [])), .string (keyOf (restT M key d)), .string (valOf (restT M key d))], .string key, .int .i64 d] w fun e w' => e = .returned (.string (nodeAt M key d)) ∧ w.grownBy w' none := by
  have h1 := pnode_fine bv (wayT M key d) (decide (restT M key d ≠ [])) (keyOf (restT M key d)) (valOf (restT M key d)) key d w h.ready h.strs (fun s hs => by have := way_small M key d s hs; unfold maxLen; omega) h.k16 (wayT_len M key d h.d128) (rest_size h.plain key d h.d128 h.vals).1 (rest_size h.plain key d h.d128 h.vals).2 h.climb
  rw [goodT h.one h.plain.k16 key d h.d128, if_pos rfl, climbT h.one h.plain.k16 key d h.d128] at h1
  exact h1
theorem OwnP.has {w : World} {bv : Value} {M : List PairS} {key : ByteArray} {d : Nat} (h : OwnP w bv M key d) (value : ByteArray) :
    Calls Tryz.prog 37 #[.agg #[bv, .bool (decide (restT M key d ≠ [])), .string (keyOf (restT M key d)), .string (valOf (restT M key d))], .string (nodeAt M key d), .string key, .string value, .int .i64 d] w fun e w' => e = .returned (.bool (hasM M key && decide (valM M key = value))) ∧ w.grownBy w' none := by
  have h1 := has_fine bv (wayT M key d) (decide (restT M key d ≠ [])) (keyOf (restT M key d)) (valOf (restT M key d)) (nodeAt M key d) key value d w h.ready h.strs (fun s hs => by have := way_small M key d s hs; unfold maxLen; omega) h.k16 (wayT_len M key d h.d128) (rest_size h.plain key d h.d128 h.vals).1 (rest_size h.plain key d h.d128 h.vals).2 h.climb
  have h2 := rest_has h.one h.plain.k16 key d h.d128
  rw [tellsT h.one h.plain.k16 key d h.d128, Bool.true_and, h2.1] at h1
  have h3 : (hasM M key && decide (valOf (restT M key d) = value)) = (hasM M key && decide (valM M key = value)) := by
    cases hh : hasM M key
    · rfl
    · rw [h2.2 hh]
  rw [h3] at h1
  exact h1
theorem OwnP.lacks {w : World} {bv : Value} {M : List PairS} {key : ByteArray} {d : Nat} (h : OwnP w bv M key d) :
    Calls Tryz.prog 38 #[.agg #[bv, .bool (decide (restT M key d ≠ [])), .string (keyOf (restT M key d)), .string (valOf (restT M key d))], .string (nodeAt M key d), .string key, .int .i64 d] w fun e w' => e = .returned (.bool (!hasM M key)) ∧ w.grownBy w' none := by
  have h1 := lacks_fine bv (wayT M key d) (decide (restT M key d ≠ [])) (keyOf (restT M key d)) (valOf (restT M key d)) (nodeAt M key d) key d w h.ready h.strs (fun s hs => by have := way_small M key d s hs; unfold maxLen; omega) h.k16 (wayT_len M key d h.d128) (rest_size h.plain key d h.d128 h.vals).1 (rest_size h.plain key d h.d128 h.vals).2 h.climb
  have h2 := rest_has h.one h.plain.k16 key d h.d128
  rw [tellsT h.one h.plain.k16 key d h.d128, Bool.true_and, ← Bool.not_and, h2.1] at h1
  exact h1
/-- Prove, by what it hands back -/
theorem prove_own (n0 : Nat) (X : List Nat) (w : World) (b : Nat) (M : List PairS) (key : ByteArray) (d : Nat) (hT : TreeK n0 X w b M) (hP : Plain M) (hv : ∀ x ∈ M, x.2.size ≤ 1000) (hk : key.size = 16) (hd : d ≤ 128) (hr : ShaReady w) :
    Calls Tryz.prog 36 #[.pointer (some ⟨b, 0, none⟩), .string key, .int .i64 d] w fun e w' => ∃ bv, e = .returned (.tuple #[.agg #[bv, .bool (decide (restT M key d ≠ [])), .string (keyOf (restT M key d)), .string (valOf (restT M key d))], .int .i64 0]) ∧ OwnP w' bv M key d ∧ w.grownBy w' none :=
  (prove_any n0 X w b M key d hT hP hk hd hr).mono fun e w' q => by
    obtain ⟨bv, rfl, ho, g⟩ := q
    exact ⟨bv, rfl, ⟨⟨_, ho⟩, hr.grown g, hP, hv, hT.one, hk, hd⟩, g⟩
end Go.Proofs.YtbhoeiopckmfhaaGreatDoor

namespace Go.Proofs.YtbhoeiopckmfhaaGreatDoor
open Go.RowKit Go.Maps
attribute [local irreducible] shaL

theorem startM_zero (M : List PairS) (s : ByteArray) : startM M s 0 = M := List.filter_eq_self.2 (fun _ _ => rfl)
theorem rest_single (x : PairS) (key : ByteArray) : restT [x] key 0 = [x] ∧ wayT [x] key 0 = [] := by
  have h := wayT_end (M := [x]) (key := key) (d := 0) (by rw [startM_zero]; exact Nat.lt_succ_self 1)
  rw [startM_zero] at h
  exact ⟨h.2, h.1⟩
theorem node_single (x : PairS) (key : ByteArray) : nodeAt [x] key 0 = nodeN 128 [x] 0 := by
  unfold nodeAt
  rw [startM_zero]
theorem OwnP.form {w : World} {bv : Value} {M : List PairS} {key : ByteArray} {d : Nat} (h : OwnP w bv M key d) : ∃ a c, bv = .slice a (wayT M key d).length c := by
  obtain ⟨B, hB⟩ := h.row
  exact slice_own' hB
/-- a proof in its cells -/
def ProofIn (w : World) (B : Nat) (bv : Value) (t : Bool) (k v : ByteArray) : Prop := w.heap[B]? = some (.cells #[bv, .bool t, .string k, .string v] 92 (0, 0))
theorem ProofIn.new (w : World) (bv : Value) (t : Bool) (k v : ByteArray) : ProofIn (w.alloc (.cells #[bv, .bool t, .string k, .string v] 92)) w.heap.size bv t k v := heap_alloc_at w _ _ rfl
theorem ProofIn.grown {w w' : World} {B : Nat} {bv : Value} {t : Bool} {k v : ByteArray} (h : ProofIn w B bv t k v) (g : w.grownBy w' none) : ProofIn w' B bv t k v := g.heap h (by simp)
theorem ProofIn.cells {w : World} {B : Nat} {bv : Value} {t : Bool} {k v : ByteArray} (h : ProofIn w B bv t k v) : w.cell? ⟨B, 0, none⟩ = some bv ∧ w.cell? ⟨B, 1, none⟩ = some (.bool t) ∧ w.cell? ⟨B, 2, none⟩ = some (.string k) ∧ w.cell? ⟨B, 3, none⟩ = some (.string v) := by
  have h' : w.heap[B]? = _ := h
  exact ⟨by rw [cell_of h']; rfl, by rw [cell_of h']; rfl, by rw [cell_of h']; rfl, by rw [cell_of h']; rfl⟩
end Go.Proofs.YtbhoeiopckmfhaaGreatDoor

namespace Go.Proofs.YtbhoeiopckmfhaaGreatDoor
open Go.RowKit Go.Maps
attribute [local irreducible] shaL

set_option maxRecDepth 100000 in
set_option maxHeartbeats 3200000 in
theorem top_trees (w : World) (hr : ShaReady w) : Calls Tryz.prog 23 #[] w fun e w' => e = .returned (.bool true) ∧ w.grownBy w' none := by
  have HR := Lib.hid hr
  have HNEW := Lib.hid (tnew_any w.heap.size [] w (by simp) (Nat.le_refl _))
  have HSG := Lib.hid (fun (w' : World) (q : w.grownBy w' none) => top_signs w' (hr.grown q))
  have hk : (tagS 1 [⟨#[97]⟩]).size = 16 := tagS_size _ _
  have HTG : Hid (∀ w0, w.grownBy w0 none → Calls Tryz.prog 26 #[.int .u8 1, .slice (some ⟨w0.heap.size, 0, none⟩) 1 1] (w0.alloc (.cells #[.string ⟨#[97]⟩] 9)) fun e w' => e = .returned (.string (tagS 1 [⟨#[97]⟩])) ∧ w0.grownBy w' none) := Lib.hid fun w0 q =>
    tagged_new w0 1 [⟨#[97]⟩] [.string ⟨#[97]⟩] 1 1 rfl rfl rfl (hr.grown q) (by decide) (by intro s hs; rw [List.mem_singleton.1 hs]; decide)
  generalize tagS 1 [⟨#[97]⟩] = K at HTG hk
  clear hr
  go_enter Tryz.func23, Tryz.ntmps23
  go_wp2_with fail
  refine HNEW.out.mono ?_
  rintro e w1 ⟨rfl, hT1, g1⟩
  obtain ⟨TB, hTB⟩ : ∃ TB, w.heap.size = TB := ⟨_, rfl⟩
  rw [hTB] at hT1 ⊢
  have HTB := Lib.hid hTB
  have HT1 := Lib.hid hT1
  have HG1 := Lib.hid g1
  have HK := Lib.hid hk
  clear hT1 g1 hTB HNEW hk
  go_wp2_with fail
  refine (HTG.out _ HG1.out).mono ?_
  rintro e w2 ⟨rfl, g2⟩
  have HG2 := Lib.hid (grownBy_trans HG1.out g2)
  have HPUT := Lib.hid (tput_any TB [] w2 TB [] K ⟨#[118]⟩ (HT1.out.grown g2) (by simp) (by have := HG2.out.size; have := HTB.out; omega) HK.out (by decide) (by decide))
  clear g2 HT1
  go_wp2_with fail
  refine HPUT.out.mono ?_
  rintro e w3 ⟨rfl, hT3, t3⟩
  have hb2 := below_grownBy HG2.out
  rw [HTB.out] at hb2
  have HG3 : Hid (w.grownBy w3 none) := by
    have h6 := t3.bel hb2 (by have := hb2.size; rw [HTB.out] at this; exact this)
    rw [← HTB.out] at h6
    exact Lib.hid (grownBy_below h6)
  have hM1 : setM [] (K, (⟨#[118]⟩ : ByteArray)) = [(K, ⟨#[118]⟩)] := rfl
  have hP : Plain [(K, (⟨#[118]⟩ : ByteArray))] := plain_of (by intro x hx; rw [List.mem_singleton.1 hx]; exact ⟨HK.out, by show 1 ≤ 20; decide⟩) (by show 1 ≤ 12; decide)
  rw [hM1] at hT3
  have HT3 := Lib.hid hT3
  have HP := Lib.hid hP
  have hvs : ∀ x ∈ [(K, (⟨#[118]⟩ : ByteArray))], x.2.size ≤ 1000 := by intro x hx; rw [List.mem_singleton.1 hx]; show 1 ≤ 1000; decide
  have e1 : valM [(K, (⟨#[118]⟩ : ByteArray))] K = ⟨#[118]⟩ := by unfold valM; simp
  have e2 : hasM [(K, (⟨#[118]⟩ : ByteArray))] K = true := by unfold hasM; simp
  have HPR : Hid (∀ (w' : World), w.grownBy w' none → w3.grownBy w' none → Calls Tryz.prog 36 #[.pointer (some ⟨TB, 0, none⟩), .string K, .int .i64 0] w' fun e w'' => ∃ bv, e = .returned (.tuple #[.agg #[bv, .bool true, .string K, .string ⟨#[118]⟩], .int .i64 0]) ∧ OwnP w'' bv [(K, ⟨#[118]⟩)] K 0 ∧ w'.grownBy w'' none) := by
    intro w' q q3
    have h := prove_own TB [] w' TB [(K, ⟨#[118]⟩)] K 0 (HT3.out.grown q3) HP.out hvs HK.out (Nat.zero_le _) (HR.out.grown q)
    rw [(rest_single _ K).1] at h
    exact h
  obtain ⟨R, hR⟩ : ∃ R, nodeN 128 [(K, (⟨#[118]⟩ : ByteArray))] 0 = R := ⟨_, rfl⟩
  have HHAS : Hid (∀ (bv : Value) (w' : World), OwnP w' bv [(K, ⟨#[118]⟩)] K 0 → Calls Tryz.prog 37 #[.agg #[bv, .bool true, .string K, .string ⟨#[118]⟩], .string R, .string K, .string ⟨#[118]⟩, .int .i64 0] w' fun e w'' => e = .returned (.bool true) ∧ w'.grownBy w'' none) := by
    intro bv w' h
    have h1 := h.has ⟨#[118]⟩
    rw [(rest_single _ K).1, node_single, hR, e1, e2] at h1
    exact h1
  have HRO := Lib.hid (fun (w' : World) (q : w.grownBy w' none) (q3 : w3.grownBy w' none) => troot_any TB [] w' TB _ (HT3.out.grown q3) HP.out (HR.out.grown q))
  have HOF := Lib.hid (fun (w' : World) => bof_any K HK.out 2 (by decide) w')
  have HBD : Hid (∀ w', Calls Tryz.prog 30 #[.string K, .int .i64 2] w' fun e w'' => e = .returned (.int .i64 (bandN K 2 : Nat)) ∧ w'.grownBy w'' none) := Lib.hid (fun (w' : World) => band_any K (by rw [HK.out]; unfold maxLen; omega) 2 (by decide) w')
  rw [hR] at HRO
  obtain ⟨BN, hBN⟩ : ∃ n, bandN K 2 = n := ⟨_, rfl⟩
  rw [hBN] at HOF HBD
  clear hT3 t3 hb2 HPUT hM1 hP hvs e1 e2 hR hBN
  go_wp2_with fail
  refine (HPR.out w3 HG3.out (World.grownBy.refl _ _)).mono ?_
  rintro e w5 ⟨b5, rfl, ho5, g5⟩
  obtain ⟨a5, q5, rfl⟩ := ho5.form
  obtain ⟨n5, hn5⟩ : ∃ n, (wayT [(K, (⟨#[118]⟩ : ByteArray))] K 0).length = n := ⟨_, rfl⟩
  rw [hn5] at ho5 ⊢
  have hp6 := ProofIn.new w5 (.slice a5 n5 q5) true K ⟨#[118]⟩
  have hg6 : w5.grownBy (w5.alloc (.cells #[.slice a5 n5 q5, .bool true, .string K, .string ⟨#[118]⟩] 92)) none := World.grownBy_alloc _ _ _
  go_wp2_with fail
  obtain ⟨W6, hW6⟩ : ∃ W6, w5.alloc (.cells #[.slice a5 n5 q5, .bool true, .string K, .string ⟨#[118]⟩] 92) = W6 := ⟨_, rfl⟩
  rw [hW6] at hp6 hg6 ⊢
  obtain ⟨P, hP⟩ : ∃ P, w5.heap.size = P := ⟨_, rfl⟩
  rw [hP] at hp6 ⊢
  have HO5 := Lib.hid (ho5.grown hg6)
  have HP6 := Lib.hid hp6
  have HG5 := Lib.hid (And.intro (grownBy_trans HG3.out (grownBy_trans g5 hg6)) (grownBy_trans g5 hg6))
  clear ho5 g5 hn5 hp6 hg6 hW6 hP
  refine (HOF.out _).mono ?_
  rintro e w6 ⟨rfl, g6⟩
  have HW : Hid (OwnP w6 (.slice a5 n5 q5) [(K, ⟨#[118]⟩)] K 0 ∧ w.grownBy w6 none ∧ w3.grownBy w6 none) := ⟨HO5.out.grown g6, grownBy_trans HG5.out.1 g6, grownBy_trans HG5.out.2 g6⟩
  have c2 := (HP6.out.grown g6).cells
  have HS : Hid (∀ w', w6.grownBy w' none → w6.grownBy w' none ∧ (w'.cell? ⟨P, 0, none⟩ = some (.slice a5 n5 q5) ∧ w'.cell? ⟨P, 1, none⟩ = some (.bool true) ∧ w'.cell? ⟨P, 2, none⟩ = some (.string K) ∧ w'.cell? ⟨P, 3, none⟩ = some (.string ⟨#[118]⟩))) := fun w' g => ⟨g, ⟨g.cell c2.1 (by simp), g.cell c2.2.1 (by simp), g.cell c2.2.2.1 (by simp), g.cell c2.2.2.2 (by simp)⟩⟩
  have gk := grownBy_drew (World.grownBy.refl w6 none)
  clear c2 g6
  go_wp2_with fail
  go_region_held3 (fun w' => w6.grownBy w' none ∧ (w'.cell? ⟨P, 0, none⟩ = some (.slice a5 n5 q5) ∧ w'.cell? ⟨P, 1, none⟩ = some (.bool true) ∧ w'.cell? ⟨P, 2, none⟩ = some (.string K) ∧ w'.cell? ⟨P, 3, none⟩ = some (.string ⟨#[118]⟩))) (exact HS.out _ gk)
    (first
      | (go_at_call 34; (with_reducible refine (HRO.out _ (grownBy_trans HW.out.2.1 gk) (grownBy_trans HW.out.2.2 gk)).mono ?_); rintro e w9 ⟨rfl, g9⟩; have gk := grownBy_trans gk g9; clear g9)
      | (go_at_call 54; (with_reducible refine (HSG.out _ (grownBy_trans HW.out.2.1 gk)).mono ?_); rintro e w9 ⟨rfl, g9⟩; have gk := grownBy_trans gk g9; clear g9)
      | (go_at_call 37; (with_reducible refine (HHAS.out _ _ (HW.out.1.grown gk)).mono ?_); rintro e w9 ⟨rfl, g9⟩; have gk := grownBy_trans gk g9; clear g9)
      | (go_at_call 30; (with_reducible refine (HBD.out _).mono ?_); rintro e w9 ⟨rfl, g9⟩; have gk := grownBy_trans gk g9; clear g9))
  have GK := Lib.hid (grownBy_trans HW.out.2.1 gk)
  clear gk
  go_wp2_with fail
  go_ret
  exact ⟨rfl, GK.out⟩
end Go.Proofs.YtbhoeiopckmfhaaGreatDoor

namespace Go.Proofs.YtbhoeiopckmfhaaGreatDoor
open Go.RowKit Go.Maps
attribute [local irreducible] shaL

/-- the pairs of a band -/
def bandS (M : List PairS) (d b : Nat) : List PairS := M.filter fun x => bandN x.1 d == b
def nodesB (M : List PairS) (d : Nat) : List ByteArray := (List.range (2 ^ d)).map fun b => nodeN (128 - d) (bandS M d b) d
theorem nodesB_len (M : List PairS) (d : Nat) : (nodesB M d).length = 2 ^ d := by simp [nodesB]
theorem band_first {s : ByteArray} {b d : Nat} (hb : b < 2 ^ d) (hs : ∀ i, bitS s i = if i < d then b / 2 ^ (d - 1 - i) % 2 else 0) (k : ByteArray) : belowB k s d = (bandN k d == b) := by
  have hN : bandN s d = b := by
    have h := band_of_bits s b d (fun i hi => by rw [hs i, if_pos hi]) d (Nat.le_refl _)
    rw [h, Nat.sub_self, Nat.pow_zero, Nat.div_one, Nat.mod_eq_of_lt hb]
  rw [Bool.eq_iff_iff, belowB_iff, beq_iff_eq]
  constructor
  · intro h
    rw [bandN_same k s d h, hN]
  · intro h i hi
    rw [← bandN_bit k d i hi, ← bandN_bit s d i hi, h, hN]
theorem start_band {s : ByteArray} {b d : Nat} (hb : b < 2 ^ d) (hs : ∀ i, bitS s i = if i < d then b / 2 ^ (d - 1 - i) % 2 else 0) (M : List PairS) : startM M s d = bandS M d b := by
  unfold startM bandS
  exact List.filter_congr fun x _ => band_first hb hs x.1
theorem first_intB (b d : Nat) (hd : d ≤ 16) (hb : b < 2 ^ d) (w : World) :
    Calls Tryz.prog 62 #[.int .i64 b, .int .i64 d] w fun e w' => ∃ s : ByteArray, e = .returned (.string s) ∧ (s.size ≤ maxLen ∧ ∀ i, bitS s i = if i < d then b / 2 ^ (d - 1 - i) % 2 else 0) ∧ w.grownBy w' none := by
  refine (first_any b d hd hb w).mono ?_
  rintro e w' ⟨l, rfl, ⟨hl, hbits⟩, g⟩
  exact ⟨str l, rfl, ⟨by show l.length ≤ maxLen; unfold maxLen; omega, hbits⟩, g⟩
set_option maxRecDepth 100000 in
set_option maxHeartbeats 3200000 in
theorem bnodes_any (n0 : Nat) (X : List Nat) (w : World) (tb : Nat) (M : List PairS) (d : Nat) (hT : TreeK n0 X w tb M) (hP : Plain M) (hd : d ≤ 4) (hr : ShaReady w) :
    Calls Tryz.prog 28 #[.pointer (some ⟨tb, 0, none⟩), .int .i64 d] w fun e w' => ∃ v, e = .returned (.tuple #[v, .int .i64 0]) ∧ w'.ownsRow w.heap.size 9 1 v (nodesB M d).length (strsV (nodesB M d)) ∧ w.grownBy w' none := by
  obtain ⟨i0, hti, hz0, hz1, hz2⟩ := info_parts infoStrW
  have HC := Lib.hid (fun w' => bcount_in d hd w')
  have hpos : 0 < 2 ^ d := Nat.pow_pos (by decide)
  have hle : 2 ^ d ≤ 2 ^ 4 := Nat.pow_le_pow_right (by decide) hd
  have HF := Lib.hid (fun (b : Nat) (hb : b < 2 ^ d) (w' : World) => first_intB b d (by omega) hb w')
  have HN : Hid (∀ (b : Nat) (s : ByteArray) (w' : World), b < 2 ^ d → (s.size ≤ maxLen ∧ ∀ i, bitS s i = if i < d then b / 2 ^ (d - 1 - i) % 2 else 0) → w.grownBy w' none → Calls Tryz.prog 61 #[.pointer (some ⟨tb, 0, none⟩), .string s, .int .i64 d] w' fun e w'' => e = .returned (.string (nodeN (128 - d) (bandS M d b) d)) ∧ w'.grownBy w'' none) := by
    intro b s w' hb hs g
    have h := tnode_any n0 X w' tb M s (d : Int) (hT.grown g) hP hs.1 (hr.grown g)
    rw [capD_at d (by omega)] at h
    unfold nodeAt at h
    rw [start_band hb hs.2] at h
    exact h
  have hlen := nodesB_len M d
  have hat : ∀ i, i < 2 ^ d → (nodesB M d)[i]? = some (nodeN (128 - d) (bandS M d i) d) := fun i hi => by unfold nodesB; rw [List.getElem?_map, List.getElem?_range hi]; rfl
  obtain ⟨NB, hNB⟩ : ∃ l, nodesB M d = l := ⟨_, rfl⟩
  rw [hNB] at hlen hat ⊢
  obtain ⟨N, hN⟩ : ∃ N, 2 ^ d = N := ⟨_, rfl⟩
  rw [hN] at HC HF HN hlen hat hpos hle
  have HLA := Lib.hid (And.intro hlen hat)
  have hp0 : ((N : Int) == 0) = false := beq_eq_false_iff_ne.2 (by omega)
  have h16 : N ≤ 16 := hle
  clear hT hP hd hr hlen hat hNB hN hle
  go_enter Tryz.func28, Tryz.ntmps28
  go_wp2_with fail
  refine (HC.out _).mono ?_
  rintro e w1 ⟨rfl, rfl⟩
  go_wp2_with fail
  refine (HC.out _).mono ?_
  rintro e w1 ⟨rfl, rfl⟩
  go_wp2_with fail
  go_loopw [6, 7, 13] (fun vv _ iv wr => ∃ i : Nat, i ≤ N ∧ iv = .int .i64 i ∧ Hid (wr.ownsRow w.heap.size 9 1 vv i (strsV (NB.take i))) ∧ Hid (w.grownBy wr none)) (fun _ _ iv _ => N - (intOf iv).toNat)
  case atStart => exact ⟨0, Nat.zero_le _, rfl, World.ownsRow_nil _ _ _ _, World.grownBy.refl _ _⟩
  case round =>
    obtain ⟨i, hi, rfl, HO, HG⟩ := hrel
    obtain ⟨av, cv, rfl⟩ := slice_own' HO.out
    by_cases hlt : i < N
    · have e1 : (i : Int) < (N : Int) := by omega
      have htk := take_succ_at (HLA.out.2 i hlt)
      obtain ⟨x, hx⟩ : ∃ x, nodeN (128 - d) (bandS M d i) d = x := ⟨_, rfl⟩
      rw [hx] at htk
      have hnn := HN.out i
      rw [hx] at hnn
      have HNN := Lib.hid (fun s w' hs g => hnn s w' hlt hs g)
      have HTK := Lib.hid htk
      have HFF := Lib.hid (HF.out i hlt)
      have hlm : i + 1 ≤ maxLen := by unfold maxLen; omega
      have hlm2 : (i + 1) * 16 ≤ 140737488355328 := by omega
      have HLM := Lib.hid (And.intro hlm (And.intro hlm2 (show ∀ u ∈ [Value.string x], u.oneCell' = true from fun u hu => by rw [List.mem_singleton.1 hu]; rfl)))
      clear htk hx hnn hlm hlm2
      go_wp2_with fail
      refine (HFF.out _).mono ?_
      rintro e w2 ⟨s, rfl, hs, g2⟩
      have HN2 := Lib.hid (HNN.out s w2 hs (grownBy_trans HG.out g2))
      have HG2 := Lib.hid (And.intro (grownBy_trans HG.out g2) g2)
      clear hs g2
      go_wp2_with fail
      refine HN2.out.mono ?_
      rintro e w3 ⟨rfl, g3⟩
      have g3' := grownBy_trans HG2.out.2 g3
      have HO3 := Lib.hid (And.intro (own_keep HO.out g3' (fun _ _ e => by cases e)) (grownBy_trans HG2.out.1 g3))
      clear g3 g3'
      go_wp2_with (at_builtin; refine wpList_append_own _ rfl _ _ 33 rfl w.heap.size 9 i0 (.string ⟨#[]⟩) 1 16 Tryz.underlying33 hti hz0 hz1 hz2 rfl (by decide) _ _ _ rfl (HO3.out.1.alloc _) ⟨w3.heap.size, 0, none⟩ 1 1 [.string x] rfl rfl (cell_one_new _ _ _) HLM.out.2.2 HLM.out.1 HLM.out.2.1 (Nat.le_trans HO3.out.2.size (by simp)) ?_)
      intro v' w4 ho hg4 _
      have HO4 := Lib.hid (And.intro ho hg4)
      clear ho hg4
      go_wp2_with fail
      go_roundw
      case rel =>
        refine ⟨i + 1, by omega, by go_num, ?_, ?_⟩
        · show World.ownsRow _ _ _ _ _ _ _
          have ho := HO4.out.1
          rw [push_strs] at ho
          rw [HTK.out]
          exact ho
        · exact grown_row (grownBy_alloc' HO3.out.2 _) HO4.out.2 (fun g e => (HO3.out.1.lt g e).1)
      case measure => simp [intOf]; omega
    · have e1 : ¬ (i : Int) < (N : Int) := by omega
      have hin : NB.take i = NB := List.take_of_length_le (by have := HLA.out.1; omega)
      have hiN : i = NB.length := by have := HLA.out.1; omega
      rw [hin] at HO
      have HIN := Lib.hid hiN
      clear hin hiN
      go_wp2_with fail
      go_returns
      refine ⟨_, rfl, ?_, HG.out⟩
      rw [← HIN.out]
      exact HO.out
end Go.Proofs.YtbhoeiopckmfhaaGreatDoor

namespace Go.Proofs.YtbhoeiopckmfhaaGreatDoor
attribute [local irreducible] shaL

/-- the nodes above each two -/
def joinedL (L : List ByteArray) : List ByteArray := (List.range (L.length / 2)).map fun k => joinN (entT L (2 * k)) (entT L (2 * k + 1))
theorem joinedL_len (L : List ByteArray) : (joinedL L).length = L.length / 2 := by simp [joinedL]
theorem band_side (M : List PairS) (d b c : Nat) (hc : c ≤ 1) : side c d (bandS M d b) = bandS M (d + 1) (2 * b + c) := by
  unfold side bandS
  rw [List.filter_filter]
  refine List.filter_congr fun x _ => ?_
  have hb := bitS_le x.1 d
  rw [Bool.eq_iff_iff, Bool.and_eq_true, beq_iff_eq, beq_iff_eq, beq_iff_eq]
  show _ ↔ 2 * bandN x.1 d + bitS x.1 d = 2 * b + c
  omega
theorem entT_nodes (M : List PairS) (d k : Nat) (hk : k < 2 ^ d) : entT (nodesB M d) k = nodeN (128 - d) (bandS M d k) d := by
  unfold entT nodesB
  rw [List.getD_eq_getElem?_getD, List.getElem?_map, List.getElem?_range hk]
  rfl
theorem nodes_join (M : List PairS) (d : Nat) (hd : d ≤ 15) : joinedL (nodesB M (d + 1)) = nodesB M d := by
  have h2 : 2 ^ (d + 1) / 2 = 2 ^ d := by rw [Nat.pow_succ, Nat.mul_div_cancel _ (by decide)]
  unfold joinedL
  rw [nodesB_len, h2]
  show _ = (List.range (2 ^ d)).map fun b => nodeN (128 - d) (bandS M d b) d
  refine List.map_congr_left fun k hk => ?_
  have hk2 : k < 2 ^ d := List.mem_range.1 hk
  have hp : 2 ^ (d + 1) = 2 * 2 ^ d := by rw [Nat.pow_succ, Nat.mul_comm]
  rw [entT_nodes M (d + 1) (2 * k) (by omega), entT_nodes M (d + 1) (2 * k + 1) (by omega)]
  have e0 : side 0 d (bandS M d k) = bandS M (d + 1) (2 * k) := band_side M d k 0 (by omega)
  have e1 := band_side M d k 1 (by omega)
  rw [← e0, ← e1, show 128 - (d + 1) = 127 - d by omega]
  exact join_half (bandS M d k) d hd
/-- the one that is left -/
theorem nodes_root (M : List PairS) : nodesB M 0 = [nodeN 128 M 0] := by
  unfold nodesB
  have e : bandS M 0 0 = M := List.filter_eq_self.2 (fun _ _ => rfl)
  show [nodeN 128 (bandS M 0 0) 0] = _
  rw [e]
end Go.Proofs.YtbhoeiopckmfhaaGreatDoor

namespace Go.Proofs.YtbhoeiopckmfhaaGreatDoor
open Go.RowKit Go.Shelf
attribute [local irreducible] shaL
attribute [local go_sem] Oper.semAt_some

theorem chunk_any (a : Option Addr) (n c : Nat) (w : World) : Calls Tryz.prog 119 #[.slice a n c, .int .i64 2] w fun e w' => e = .returned (.func (.func 160) #[] #[.pointer (some ⟨w.heap.size, 0, none⟩), .pointer (some ⟨w.heap.size + 1, 0, none⟩)]) ∧ (w.alloc (.cells #[.slice a n c] 33)).alloc (.cells #[.int .i64 2] 3) = w' := by
  have hb2 := heap_alloc_at (w.alloc (.cells #[.slice a n c] 33)) (.cells #[.int .i64 2] 3) _ rfl
  have hsz : (w.alloc (.cells #[.slice a n c] 33)).heap.size = w.heap.size + 1 := by simp
  rw [hsz] at hb2
  have c2 : ((w.alloc (.cells #[.slice a n c] 33)).alloc (.cells #[.int .i64 2] 3)).cell? ⟨w.heap.size + 1, 0, none⟩ = some (.int .i64 2) := by rw [cell_of hb2]; rfl
  clear hb2 hsz
  go_enter Tryz.func119, Tryz.ntmps119
  go_wp2_with fail
  go_ret
  exact ⟨rfl, rfl⟩
/-- the x-th chunk of a row at g, o (beyond the last one: the last one) -/
def chunkV (g o m x : Nat) : Value := .slice (some ⟨g, o + 2 * min x (m - 1), none⟩) 2 2
set_option maxRecDepth 100000 in
set_option maxHeartbeats 2000000 in
theorem chunk1_in (F : Fence) (n : Nat) (h27 : F.fn 160) (hro : F.round = none) (hn : 1 ≤ n) (l Bs n₀ nb m cw g o : Nat) (hm0 : 0 < m) (hlen : m ≤ 1000000) (hcw : 2 * m ≤ cw) (hBs : Bs + 1 < n₀) (hBn : Bs ≠ nb ∧ Bs + 1 ≠ nb) (J Jx : List Nat → World → Prop) (hJd : ∀ s X, J s X → J s X.drew)
    (hY : ∀ pre x W, J pre W → pre.length < m → YieldAt F (n - 1) Tryz.prog l #[chunkV g o m x] W fun e W' =>
      (e = .returned (.bool true) ∧ J (pre ++ [x]) W' ∧ Turn (butOne n₀ nb) W W') ∨ (e = .returned (.bool false) ∧ Jx (pre ++ [x]) W'))
    (W : World) (hnW : n₀ ≤ W.heap.size) (hBc : W.cell? ⟨Bs, 0, none⟩ = some (.slice (some ⟨g, o, none⟩) (2 * m) cw)) (hBd : W.cell? ⟨Bs + 1, 0, none⟩ = some (.int .i64 2)) (h0 : J [] W) :
    CallsIn F n Tryz.prog 160 #[.func (.yield l) #[] #[], .pointer (some ⟨Bs, 0, none⟩), .pointer (some ⟨Bs + 1, 0, none⟩)] W fun e W' => (∃ v, e = .returned v) ∧
      ((∃ ys, ys = List.range m ∧ J ys W') ∨ (∃ pre, (∃ k, k < m ∧ pre = List.range (k + 1)) ∧ Jx pre W')) := by
  refine callsIn_of_wp Tryz.func160 rfl h27 ?_ hro
  simp only [Tryz.ntmps160, List.size_toArray, List.length_cons, List.length_nil, Nat.reduceAdd, Nat.reduceSub, Array.replicate_succ, Array.replicate_zero, List.push_toArray, List.append_toArray, List.nil_append, List.cons_append]
  obtain ⟨M2, hM2⟩ : ∃ k, 2 * m = k := ⟨_, rfl⟩
  rw [hM2] at hBc hcw
  gi_wp2
  gi_loopw [4, 5] (fun i _ wr => ∃ r : Nat, i = .int .i64 (2 * r : Nat) ∧ r ≤ m ∧ J (List.range r) wr ∧ Turn (butOne n₀ nb) W wr)
    (fun i _ _ => M2 - (intOf i).toNat)
  case atStart => exact ⟨0, rfl, Nat.zero_le _, h0, Turn.refl _ _⟩
  case round =>
    obtain ⟨r, rfl, hr, hJs, hnx⟩ := hrel
    have hBc' : wr.cell? ⟨Bs, 0, none⟩ = some (.slice (some ⟨g, o, none⟩) M2 cw) := (hnx.cell (by omega) (fun q => by rcases q with q | q <;> omega) 0).trans hBc
    have hBd' : wr.cell? ⟨Bs + 1, 0, none⟩ = some (.int .i64 2) := (hnx.cell (by omega) (fun q => by rcases q with q | q <;> omega) 0).trans hBd
    obtain ⟨R, hR⟩ : ∃ k, 2 * r = k := ⟨_, rfl⟩
    rw [hR]
    by_cases hlt : r < m
    · have e1 : (R : Int) < (M2 : Int) := by omega
      have e0 : (0 : Int) ≤ (R : Int) := by omega
      have e2 : (R : Int) ≤ (M2 : Int) := by omega
      have e3 : min (2 : Int) ((M2 - R : Nat) : Int) = 2 := by omega
      have e8 : ¬ cw = R := by omega
      have e4 : IntKind.i64.wrap ((R : Int) + 2) = (R : Int) + 2 := IntWalk.i64_in _ (by omega)
      have e5 : (0 : Int) ≤ (R : Int) + 2 := by omega
      have e6 : (R : Int) + 2 ≤ (cw : Int) := by omega
      have e7 : (R : Int) ≤ (R : Int) + 2 := by omega
      have hYr := hY (List.range r) r wr.drew (hJd _ _ hJs) (by rw [List.length_range]; exact hlt)
      have hcv : chunkV g o m r = .slice (some ⟨g, o + R, none⟩) 2 2 := by unfold chunkV; rw [Nat.min_eq_left (by omega), hR]
      rw [hcv] at hYr
      obtain ⟨fn, tmps, assign, body, hy, hRR⟩ := hYr
      have hsub1 : ((R : Int) + 2 - (R : Int)) = 2 := by omega
      have hsub2 : (((R : Int) + 2).toNat - R) = 2 := by omega
      gi_wp2
      gi_region
      all_goals
        gi_wp2
        refine hRR.mono ?_
        rintro e W3 (⟨rfl, hJ3, hk3⟩ | ⟨rfl, hJx3⟩)
        · have hJ3' : J (List.range (r + 1)) W3 := by rw [List.range_succ]; exact hJ3
          have hk3' : Turn (butOne n₀ nb) wr W3 := Turn.trans (Turn.of_grown (grownBy_drew (World.grownBy.refl wr none))) hk3 (fun _ _ q => q)
          have hb3 : W3.cell? ⟨Bs + 1, 0, none⟩ = some (.int .i64 2) := ((hnx.then hk3').cell (by omega) (fun q => by rcases q with q | q <;> omega) 0).trans hBd
          gi_wp2
          go_roundw
          case rel => exact ⟨r + 1, by first | (congr 1; omega) | go_num, by omega, hJ3', hnx.then hk3'⟩
          case measure => simp [intOf]; omega
        · gi_wp2
          refine bodyPost_ret (results_none rfl _ _ _) rfl ?_
          exact ⟨⟨_, rfl⟩, .inr ⟨_, ⟨r, hlt, rfl⟩, by rw [List.range_succ]; exact hJx3⟩⟩
    · have e1 : ¬ (R : Int) < (M2 : Int) := by omega
      have hrm : r = m := by omega
      subst hrm
      gi_wp2
      go_end0
      exact ⟨⟨_, rfl⟩, .inl hJs⟩
end Go.Proofs.YtbhoeiopckmfhaaGreatDoor

namespace Go.Proofs.YtbhoeiopckmfhaaGreatDoor
open Go.RowKit Go.Shelf
attribute [local irreducible] shaL

theorem chunk_stops (F : Fence) (n : Nat) (h27 : F.fn 160) (hro : F.round = none) (hn : 1 ≤ n) (Bs n₀ nb m cw g o : Nat) (hm0 : 0 < m) (hlen : m ≤ 1000000) (hcw : 2 * m ≤ cw) (hBs : Bs + 1 < n₀) (hBn : Bs ≠ nb ∧ Bs + 1 ≠ nb) (w : World) (hn₀ : n₀ ≤ w.heap.size)
    (hBc : w.cell? ⟨Bs, 0, none⟩ = some (.slice (some ⟨g, o, none⟩) (2 * m) cw)) (hBd : w.cell? ⟨Bs + 1, 0, none⟩ = some (.int .i64 2)) :
    SeqStopsK F n Tryz.prog 160 #[.pointer (some ⟨Bs, 0, none⟩), .pointer (some ⟨Bs + 1, 0, none⟩)] (fun x => #[chunkV g o m x]) (Turn (butOne n₀ nb)) (fun ys => ys = List.range m) (fun pre => ∃ k, k < m ∧ pre = List.range (k + 1)) m w := fun l J Jx W hW hJ _ hY h0 => by
  have hc' := (hW.cell (p := ⟨Bs, 0, none⟩) (by show Bs < _; omega)).trans hBc
  have hd' := (hW.cell (p := ⟨Bs + 1, 0, none⟩) (by show Bs + 1 < _; omega)).trans hBd
  exact chunk1_in F n h27 hro hn l Bs n₀ nb m cw g o hm0 hlen hcw hBs hBn J Jx (fun s X h => hJ s X X.drew none h (grownBy_drew (World.grownBy.refl _ _)) (fun r e => by cases e)) hY W (Nat.le_trans hn₀ hW.size) hc' hd' h0
end Go.Proofs.YtbhoeiopckmfhaaGreatDoor

namespace Go.Proofs.YtbhoeiopckmfhaaGreatDoor
open Go.RowKit Go.Shelf

theorem ownsRow_far {W : World} {base : Nat} {e : TypeId} {size k : Nat} {v : Value} {xs : List Value} (h : W.ownsRow base e size v k xs) {j : Nat} (hj : v.ownBlock = some j) : base ≤ j ∧ ∃ o : Obj, W.heap[j]? = some o ∧ o.isCells = true := by
  rcases h.2 with ⟨rfl, _⟩ | ⟨g, cap, cur, rfl, hb, hgb, _⟩
  · simp [Value.ownBlock] at hj
  · obtain rfl : g = j := by simpa [Value.ownBlock] using hj
    exact ⟨hb, _, hgb, rfl⟩
theorem ownsRow_stays {W W' : World} {base : Nat} {e : TypeId} {size k : Nat} {v : Value} {xs : List Value} (h : W.ownsRow base e size v k xs) (hg : W.grownBy W' none) : W'.ownsRow base e size v k xs := by
  refine h.kept hg ?_
  cases hv : v.ownBlock with
  | none => exact .inl rfl
  | some g => exact .inr (by simp)
theorem append_round {W4 W w2 w8 : World} {n n₀ B : Nat} {t e : TypeId} {size k m : Nat} {v v' : Value} {xs ys : List Value} {tmp : Obj} (hte : t ≠ e) (hn : n < n₀) (hn₀ : n₀ ≤ W.heap.size) (hB : Below n W4 W) (b1 : Boxed W n t v) (hO : W.ownsRow n₀ e size v k xs) (g2 : W.grownBy w2 none)
    (ho8 : w8.ownsRow n₀ e size v' m ys) (hg8 : (w2.alloc tmp).grownBy w8 v.ownBlock) :
    (w8.cell? ⟨n, 0, none⟩ = some v ∧ w8.frozen? ⟨n, 0, none⟩ = false) ∧
    (KeepsFrom B W (w8.setCell ⟨n, 0, none⟩ v') ∧ Turn (butOne n₀ n) W (w8.setCell ⟨n, 0, none⟩ v') ∧ (∃ v, Boxed (w8.setCell ⟨n, 0, none⟩ v') n t v ∧ (w8.setCell ⟨n, 0, none⟩ v').ownsRow n₀ e size v m ys ∧ True) ∧ Below n W4 (w8.setCell ⟨n, 0, none⟩ v')) := by
  have b2 := b1.kept g2 (by simp)
  have hO2 := ownsRow_stays hO g2
  have hO3 := ownsRow_stays hO2 (World.grownBy_alloc w2 tmp none)
  have g3 : W.grownBy (w2.alloc tmp) none := grownBy_trans g2 (World.grownBy_alloc w2 tmp none)
  have b3 := b2.alloc tmp
  have b8 : Boxed w8 n t v := b3.kept hg8 (b3.not_row hte hO3)
  refine ⟨⟨b8.cell, b8.frozen⟩, ?_, ?_, ⟨v', b8.set v', ho8.kept (grownBy_setCell' w8 n v') (.inr (b8.not_row hte ho8).symm), trivial⟩, ?_⟩
  · refine (((KeepsOthers.of_grownBy g3 (fun j o ej _ => by cases ej)).trans (KeepsOthers.of_grownBy hg8 fun j o ej hj => ?_)).trans (KeepsOthers.setCell _ _ _)).from _
    obtain ⟨_, o', h1, h2⟩ := ownsRow_far hO3 ej
    rw [h1] at hj
    cases hj
    exact h2
  · have h0 : Turn (butOne n₀ n) W (w2.alloc tmp) := Turn.of_grown g3
    have h1 : Turn (butOne n₀ n) W w8 := h0.row hg8 (fun i _ ei => Or.inl (ownsRow_far hO3 ei).1)
    exact h1.setCell (k := n) (fun _ => Or.inr rfl) 0 v'
  · have hs := hB.size
    have h1 : Below n W4 (w2.alloc tmp) := hB.grown g3 (by omega) (fun k e => by cases e)
    have h2 : Below n W4 w8 := h1.grown hg8 (by have := g3.size; omega) (fun j ej => by have := (ownsRow_far hO3 ej).1; omega)
    exact h2.setCell (p := ⟨n, 0, none⟩) (Nat.le_refl _) v'
end Go.Proofs.YtbhoeiopckmfhaaGreatDoor

namespace Go.Proofs.YtbhoeiopckmfhaaGreatDoor
attribute [local irreducible] shaL

/-- beside a key that parts from a leaf's at a bit: nothing down to there, then the leaf -/
def partB (k : Nat) (x : PairS) : List ByteArray := List.replicate k emptyS ++ [leafS x.1 x.2]
theorem side_put_off (key v : ByteArray) (d : Nat) (l : List PairS) : offS key d (setM l (key, v)) = offS key d l := by
  unfold offS setM side
  rw [List.filter_append, List.filter_filter]
  have hb := bitS_le key d
  have e1 : ([(key, v)] : List PairS).filter (fun x => bitS x.1 d == 1 - bitS key d) = [] := by
    rw [List.filter_eq_nil_iff]
    intro x hx
    rw [List.mem_singleton.1 hx]
    show ¬ (bitS key d == 1 - bitS key d) = true
    simp
    omega
  rw [e1, List.append_nil]
  refine List.filter_congr fun x _ => ?_
  by_cases h : x.1 = key
  · rw [h]
    have : (bitS key d == 1 - bitS key d) = false := by simp; omega
    rw [this, Bool.false_and]
  · simp [h]
theorem side_put_on (key v : ByteArray) (d : Nat) (l : List PairS) : onS key d (setM l (key, v)) = setM (onS key d l) (key, v) := by
  unfold onS setM side
  rw [List.filter_append, List.filter_filter, List.filter_filter]
  have e1 : ([(key, v)] : List PairS).filter (fun x => bitS x.1 d == bitS key d) = [(key, v)] := by simp
  rw [e1]
  congr 1
  refine List.filter_congr fun x _ => ?_
  rw [Bool.and_comm]
theorem two_way (key v : ByteArray) (x : PairS) (c : Nat) (hc : c < 128) (hne : bitS key c ≠ bitS x.1 c) : ∀ (k f d : Nat), d + f = 128 → c = d + k → (∀ i, i < c → bitS key i = bitS x.1 i) → wayB key f [x, (key, v)] d = partB k x ∧ restB key f [x, (key, v)] d = [(key, v)] := by
  have e1 : ∀ (f : Nat) (l : List PairS) (d : Nat), wayB key (f + 1) l d = if l.length < 2 then [] else nodeN f (offS key d l) (d + 1) :: wayB key f (onS key d l) (d + 1) := fun _ _ _ => rfl
  have e2 : ∀ (f : Nat) (l : List PairS) (d : Nat), restB key (f + 1) l d = if l.length < 2 then l else restB key f (onS key d l) (d + 1) := fun _ _ _ => rfl
  have hb := bitS_le key
  have hx := bitS_le x.1
  intro k
  induction k with
  | zero =>
    intro f d hd hcd hcommon
    have hd' : c = d := by omega
    subst hd'
    obtain ⟨f, rfl⟩ : ∃ g, f = g + 1 := ⟨f - 1, by omega⟩
    · have hon : onS key c [x, (key, v)] = [(key, v)] := by
        unfold onS side
        have : (bitS x.1 c == bitS key c) = false := by simp; exact fun e => hne e.symm
        simp [this]
      have hoff : offS key c [x, (key, v)] = [x] := by
        unfold offS side
        have h1 : (bitS x.1 c == 1 - bitS key c) = true := by have := hb c; have := hx c; simp; omega
        have h2 : (bitS key c == 1 - bitS key c) = false := by have := hb c; simp; omega
        simp [h1, h2]
      rw [e1, e2, if_neg (by simp), if_neg (by simp), hon, hoff, nodeN_one]
      have h3 : wayB key f [(key, v)] (c + 1) = [] ∧ restB key f [(key, v)] (c + 1) = [(key, v)] := by
        match f with
        | 0 => exact ⟨rfl, rfl⟩
        | f + 1 => rw [e1, e2, if_pos (by simp), if_pos (by simp)]; exact ⟨rfl, rfl⟩
      rw [h3.1, h3.2]
      exact ⟨rfl, rfl⟩
  | succ k ih =>
    intro f d hd hcd hcommon
    obtain ⟨f, rfl⟩ : ∃ g, f = g + 1 := ⟨f - 1, by omega⟩
    · have hsame := hcommon d (by omega)
      have hon : onS key d [x, (key, v)] = [x, (key, v)] := by
        unfold onS side
        simp [← hsame]
      have hoff : offS key d [x, (key, v)] = [] := by
        unfold offS side
        have h2 : (bitS key d == 1 - bitS key d) = false := by have := hb d; simp; omega
        simp [← hsame, h2]
      rw [e1, e2, if_neg (by simp), if_neg (by simp), hon, hoff, nodeN_nil]
      have h3 := ih f (d + 1) (by omega) (by omega) hcommon
      rw [h3.1, h3.2]
      exact ⟨rfl, rfl⟩
/-- what stands beside, once the key has a value: as before; or on to where it parts from the leaf that is there -/
def extB (key : ByteArray) (c n : Nat) : List PairS → List ByteArray
  | [] => []
  | x :: _ => if x.1 = key then [] else partB (c - n) x
theorem way_put (key v : ByteArray) (c : Nat) : ∀ (f d : Nat) (l : List PairS), d + f = 128 → Alike d l → (∀ x ∈ l, ∀ i, i < d → bitS key i = bitS x.1 i) → (∀ x ∈ restB key f l d, x.1 ≠ key → c < 128 ∧ bitS key c ≠ bitS x.1 c ∧ ∀ i, i < c → bitS key i = bitS x.1 i) →
    wayB key f (setM l (key, v)) d = wayB key f l d ++ extB key c (d + (wayB key f l d).length) (restB key f l d) ∧ restB key f (setM l (key, v)) d = [(key, v)] := by
  have e1 : ∀ (f : Nat) (l : List PairS) (d : Nat), wayB key (f + 1) l d = if l.length < 2 then [] else nodeN f (offS key d l) (d + 1) :: wayB key f (onS key d l) (d + 1) := fun _ _ _ => rfl
  have e2 : ∀ (f : Nat) (l : List PairS) (d : Nat), restB key (f + 1) l d = if l.length < 2 then l else restB key f (onS key d l) (d + 1) := fun _ _ _ => rfl
  have hsingle : ∀ (f d : Nat), wayB key f [(key, v)] d = [] ∧ restB key f [(key, v)] d = [(key, v)] := by
    intro f d
    match f with
    | 0 => exact ⟨rfl, rfl⟩
    | f + 1 => rw [e1, e2, if_pos (by simp), if_pos (by simp)]; exact ⟨rfl, rfl⟩
  have hsmall : ∀ (f d : Nat) (l : List PairS), d + f = 128 → l.length < 2 → (∀ x ∈ l, ∀ i, i < d → bitS key i = bitS x.1 i) → (∀ x ∈ l, x.1 ≠ key → c < 128 ∧ bitS key c ≠ bitS x.1 c ∧ ∀ i, i < c → bitS key i = bitS x.1 i) →
      wayB key f (setM l (key, v)) d = extB key c d l ∧ restB key f (setM l (key, v)) d = [(key, v)] := by
    intro f d l hd hl hag hc
    match l, hl with
    | [], _ => exact hsingle f d
    | [x], _ =>
      by_cases hk : x.1 = key
      · have : setM [x] (key, v) = [(key, v)] := by simp [setM, hk]
        rw [this]
        have h := hsingle f d
        rw [h.1, h.2]
        exact ⟨by simp [extB, hk], rfl⟩
      · have : setM [x] (key, v) = [x, (key, v)] := by simp [setM, hk]
        rw [this]
        have hcx := hc x List.mem_cons_self hk
        have hcd : d ≤ c := by
          rcases Nat.lt_or_ge c d with q | q
          · exact absurd (hag x List.mem_cons_self c q) hcx.2.1
          · exact q
        have h := two_way key v x c hcx.1 hcx.2.1 (c - d) f d hd (by omega) hcx.2.2
        exact ⟨by rw [h.1]; simp [extB, hk], h.2⟩
  intro f
  induction f with
  | zero =>
    intro d l hd hA hag hc
    have hl : l.length < 2 := by have := hA.few (by omega); omega
    exact hsmall 0 d l hd hl hag hc
  | succ f ih =>
    intro d l hd hA hag hc
    by_cases hl : l.length < 2
    · have h1 : wayB key (f + 1) l d = [] := by rw [e1, if_pos hl]
      have h2 : restB key (f + 1) l d = l := by rw [e2, if_pos hl]
      rw [h2] at hc
      rw [h1, h2]
      exact hsmall (f + 1) d l hd hl hag hc
    · have hl2 : ¬ (setM l (key, v)).length < 2 := by
        have hon := off_len key d l
        intro q
        have h3 : (setM l (key, v)).length = (l.filter fun p => !(decide (p.1 = key))).length + 1 := by simp [setM]
        have h4 : (l.filter fun p => !(decide (p.1 = key))).length = 0 := by omega
        have h5 := List.filter_eq_nil_iff.1 (List.length_eq_zero_iff.1 h4)
        have h6 : ∀ x ∈ l, x.1 = key := fun x hx => by have := h5 x hx; simpa using this
        have hp := hA.one
        rcases l with _ | ⟨x, _ | ⟨y, r⟩⟩
        · exact hl (by simp)
        · exact hl (by simp)
        · have := (List.pairwise_cons.1 hp).1 y List.mem_cons_self
          exact this ((h6 x List.mem_cons_self).trans (h6 y (List.mem_cons_of_mem _ List.mem_cons_self)).symm)
      have h1 : wayB key (f + 1) l d = nodeN f (offS key d l) (d + 1) :: wayB key f (onS key d l) (d + 1) := by rw [e1, if_neg hl]
      have h2 : restB key (f + 1) l d = restB key f (onS key d l) (d + 1) := by rw [e2, if_neg hl]
      rw [h2] at hc
      have h3 := ih (d + 1) (onS key d l) (by omega) hA.side (fun x hx i hi => by
        have hx2 := List.mem_filter.1 hx
        rcases Nat.lt_or_ge i d with q | q
        · exact hag x hx2.1 i q
        · have : i = d := by omega
          subst this
          have := hx2.2
          simp at this
          exact this.symm) hc
      have h5 : wayB key (f + 1) (setM l (key, v)) d = nodeN f (offS key d (setM l (key, v))) (d + 1) :: wayB key f (onS key d (setM l (key, v))) (d + 1) := by rw [e1, if_neg hl2]
      have h6 : restB key (f + 1) (setM l (key, v)) d = restB key f (onS key d (setM l (key, v))) (d + 1) := by rw [e2, if_neg hl2]
      rw [h5, h6, side_put_off, side_put_on, h3.1, h3.2, h1, h2]
      refine ⟨?_, rfl⟩
      rw [List.cons_append, List.length_cons, show d + 1 + (wayB key f (onS key d l) (d + 1)).length = d + ((wayB key f (onS key d l) (d + 1)).length + 1) by omega]
end Go.Proofs.YtbhoeiopckmfhaaGreatDoor

namespace Go.Proofs.YtbhoeiopckmfhaaGreatDoor
open Go.RowKit Go.Maps
attribute [local irreducible] shaL

theorem clone_own (B : Nat) (v : Value) (L : List ByteArray) (w : World) (hv : w.ownsRow B 9 1 v L.length (strsV L)) (hl : L.length ≤ 1000000) :
    Calls Tryz.prog 85 #[v] w fun e w' => ∃ v', e = .returned v' ∧ w'.ownsRow w.heap.size 9 1 v' L.length (strsV L) ∧ w.grownBy w' none := by
  rcases own_form' hv with ⟨rfl, h0⟩ | ⟨r, c, rfl, _, _⟩
  · refine (Tryz.slices_Clone_string_nil 0 0 w).mono ?_
    rintro e w'' ⟨rfl, rfl⟩
    rw [List.eq_nil_of_length_eq_zero h0]
    exact ⟨_, rfl, World.ownsRow_nil _ _ _ _, World.grownBy.refl _ _⟩
  · by_cases h0 : L.length = 0
    · rw [h0]
      refine (Tryz.slices_Clone_string_zero ⟨r, 0, none⟩ c w).mono ?_
      rintro e w'' ⟨v', rfl, q1, _, q2⟩
      rw [List.eq_nil_of_length_eq_zero h0]
      exact ⟨_, rfl, q1, grownBy_below q2⟩
    · refine (Tryz.slices_Clone_string r 0 L.length c L w (Nat.le_refl _) (by omega) (fun j hj => ?_)).mono ?_
      · rw [Nat.zero_add, str_cell hv (List.getElem?_eq_getElem hj), List.getD_eq_getElem?_getD, List.getElem?_eq_getElem hj]
        rfl
      · rintro e w'' ⟨v', rfl, q1, _, q2⟩
        rw [List.take_of_length_le (Nat.le_refl _)] at q1
        exact ⟨_, rfl, q1, grownBy_below q2⟩
set_option maxRecDepth 100000 in
set_option maxHeartbeats 4000000 in
theorem parted_any (B : Nat) (a : Option Addr) (c : Nat) (Wy : List ByteArray) (pk pv key : ByteArray) (d : Nat) (w : World) (hr : ShaReady w) (hv : w.ownsRow B 9 1 (.slice a Wy.length c) Wy.length (strsV Wy)) (hk : key.size = 16) (hpk : pk.size = 16) (hpv : pv.size ≤ 1000) (hd : d + Wy.length ≤ 128) (hbel : belowB pk key (d + Wy.length) = true) :
    Calls Tryz.prog 116 #[.agg #[.slice a Wy.length c, .bool true, .string pk, .string pv], .string key, .int .i64 d] w fun e w' => ∃ (cc : Nat) (v' : Value), e = .returned v' ∧ (cc ≤ 128 ∧ belowB key pk cc = true ∧ (cc < 128 → bitS key cc ≠ bitS pk cc)) ∧ (∃ B', w.heap.size ≤ B' ∧ w'.ownsRow B' 9 1 v' (Wy ++ partB (cc - (d + Wy.length)) (pk, pv)).length (strsV (Wy ++ partB (cc - (d + Wy.length)) (pk, pv)))) ∧ w.grownBy w' none := by
  obtain ⟨i0, hti, hz0, hz1, hz2⟩ := info_parts infoStrW
  have hb0 := ProofIn.new w (.slice a Wy.length c) true pk pv
  have hg0 : w.grownBy (w.alloc (.cells #[.slice a Wy.length c, .bool true, .string pk, .string pv] 92)) none := World.grownBy_alloc _ _ _
  have hcl := clone_own B _ Wy _ (own_keep hv hg0 (fun _ _ e => by cases e)) (by omega)
  have HCL := Lib.hid hcl
  have HR := Lib.hid hr
  have HCO := Lib.hid (fun (w' : World) => common_any key pk (by rw [hk]; decide) 16 hk hpk w')
  have HLF := Lib.hid (fun (w' : World) (q : w.grownBy w' none) => tleaf_any pk pv (by omega) (by omega) w' (hr.grown q))
  have HBEL := Lib.hid hbel
  obtain ⟨n, hn⟩ : ∃ n, Wy.length = n := ⟨_, rfl⟩
  have HN := Lib.hid hn
  rw [hn] at hd
  have HD := Lib.hid hd
  obtain ⟨W0, hW0⟩ : ∃ W0, w.alloc (.cells #[.slice a Wy.length c, .bool true, .string pk, .string pv] 92) = W0 := ⟨_, rfl⟩
  rw [hW0] at HCL hb0 hg0
  have h0c := hb0.cells
  have HW0 := Lib.hid hW0
  have H0 := Lib.hid (And.intro hb0 hg0)
  have hsz : w.heap.size < W0.heap.size := (Array.getElem?_eq_some_iff.1 hb0).1
  have HSZ := Lib.hid hsz
  clear hb0 hg0 hcl hr hv hbel hd hpv hsz
  rw [hn] at HCL h0c HW0 ⊢
  clear hn hW0
  go_enter Tryz.func116, Tryz.ntmps116
  go_wp2_with (rw [HW0.out])
  refine HCL.out.mono ?_
  rintro e w1 ⟨v1, rfl, ho1, g1⟩
  obtain ⟨a1, c1, rfl⟩ := slice_own' ho1
  have x0 := g1.cell h0c.1 (by simp)
  have x2 := g1.cell h0c.2.2.1 (by simp)
  have x3 := g1.cell h0c.2.2.2 (by simp)
  have H1 := Lib.hid (And.intro ho1 (And.intro (grownBy_trans H0.out.2 g1) g1))
  clear ho1 g1 h0c HCL
  go_wp2_with fail
  go_region_held3 (fun w' => w'.cell? ⟨w.heap.size, 0, none⟩ = some (.slice a n c) ∧ w'.cell? ⟨w.heap.size, 2, none⟩ = some (.string pk)) (first | exact ck | exact ⟨x0, x2⟩)
    (first
      | (go_at_call 158; (with_reducible refine (HCO.out _).mono ?_); rintro e w6 ⟨cc, rfl, hcc, g6⟩; have ck : w6.cell? ⟨w.heap.size, 0, none⟩ = some (.slice a n c) ∧ w6.cell? ⟨w.heap.size, 2, none⟩ = some (.string pk) := ⟨g6.cell x0 (by simp), g6.cell x2 (by simp)⟩; have hcc1 := hcc.1; have hdn := HD.out; have r1 : IntKind.i64.wrap ((cc : Int) - (d : Int)) = (cc : Int) - (d : Int) := IntWalk.i64_in _ (by omega); have r2 : IntKind.i64.wrap ((cc : Int) - (d : Int) - (n : Int)) = (cc : Int) - (d : Int) - (n : Int) := IntWalk.i64_in _ (by omega)))
  have hge : d + n ≤ cc := by
    rcases Nat.lt_or_ge cc (d + n) with q | q
    · exact absurd ((belowB_iff pk key (d + n)).1 (by rw [← HN.out]; exact HBEL.out) cc q).symm (hcc.2.2 (by omega))
    · exact q
  obtain ⟨k, hkk⟩ : ∃ k, cc - (d + n) = k := ⟨_, rfl⟩
  have hki : (cc : Int) - (d : Int) - (n : Int) = (k : Int) := by omega
  have hk128 : n + k ≤ 128 := by omega
  rw [hki]
  have g6' := grownBy_trans (grownBy_drew (World.grownBy.refl w1 none)) g6
  have y3 := g6'.cell x3 (by simp)
  have H6 : Hid (w6.ownsRow W0.heap.size 9 1 (.slice a1 n c1) n (strsV Wy) ∧ w.grownBy w6 none ∧ W0.heap.size ≤ w6.heap.size) := ⟨own_keep H1.out.1 g6' (fun _ _ e => by cases e), grownBy_trans H1.out.2.1 g6', Nat.le_trans H1.out.2.2.size g6'.size⟩
  have HCC := Lib.hid (And.intro hcc (And.intro hkk (And.intro ck.2 y3)))
  have hone : ∀ u ∈ [Value.string emptyS], u.oneCell' = true := one_textP emptyS
  have hfill : ∀ i, (Wy ++ List.replicate i emptyS).length = n + i := fun i => by rw [List.length_append, List.length_replicate, HN.out]
  have HF := Lib.hid (And.intro hone hfill)
  clear x0 x2 x3 ck hcc hcc1 hdn r1 r2 hge hkk hki g6 g6' y3 H1 hone hfill
  go_wp2_with fail
  go_loopw [7, 21] (fun vv iv wr => ∃ i : Nat, i ≤ k ∧ iv = .int .i64 i ∧ Hid (wr.ownsRow W0.heap.size 9 1 vv (n + i) (strsV (Wy ++ List.replicate i emptyS)) ∧ w.grownBy wr none ∧ W0.heap.size ≤ wr.heap.size) ∧ Hid (wr.cell? ⟨w.heap.size, 2, none⟩ = some (.string pk) ∧ wr.cell? ⟨w.heap.size, 3, none⟩ = some (.string pv))) (fun _ iv _ => k - (intOf iv).toNat)
  case atStart => exact ⟨0, Nat.zero_le _, rfl, Lib.hid ⟨by rw [List.replicate_zero, List.append_nil]; exact H6.out.1, H6.out.2⟩, HCC.out.2.2⟩
  case round =>
    obtain ⟨i, hi, rfl, HO, HC2⟩ := hrel
    obtain ⟨av, cv, rfl⟩ := slice_own' HO.out.1
    by_cases hlt : i < k
    · have e1 : (i : Int) < (k : Int) := by omega
      have hlm : n + i + 1 ≤ maxLen := by unfold maxLen; omega
      have hlm2 : (n + i + 1) * 16 ≤ 140737488355328 := by omega
      have HLM := Lib.hid (And.intro hlm hlm2)
      clear hlm hlm2
      go_wp2_with (at_builtin; refine wpList_append_own _ rfl _ _ 33 rfl W0.heap.size 9 i0 (.string ⟨#[]⟩) 1 16 Tryz.underlying33 hti hz0 hz1 hz2 rfl (by decide) _ _ _ rfl (HO.out.1.alloc _) ⟨wr.heap.size, 0, none⟩ 1 1 [.string emptyS] rfl rfl (cell_one_new _ _ _) HF.out.1 HLM.out.1 HLM.out.2 (Nat.le_trans HO.out.2.2 (by simp)) ?_)
      intro v' w3 ho hg3 _
      have e8 : strsV (Wy ++ List.replicate i emptyS) ++ [.string emptyS] = strsV (Wy ++ List.replicate (i + 1) emptyS) := by rw [push_strs, List.append_assoc, ← List.replicate_succ']
      have ho2 : w3.ownsRow W0.heap.size 9 1 v' (n + (i + 1)) (strsV (Wy ++ List.replicate (i + 1) emptyS)) := by rw [← e8]; exact ho
      have hlo := fun g e => (HO.out.1.lt g e).1
      have hg4 : w.grownBy w3 none := grown_row (grownBy_alloc' HO.out.2.1 _) hg3 (fun g e => by have := hlo g e; have := HSZ.out; omega)
      have hs4 : W0.heap.size ≤ w3.heap.size := by have h1 := hg3.size; rw [World.size_alloc] at h1; have := HO.out.2.2; omega
      have hc4 : w3.cell? ⟨w.heap.size, 2, none⟩ = some (.string pk) ∧ w3.cell? ⟨w.heap.size, 3, none⟩ = some (.string pv) := by
        have hne : ∀ g, (Value.slice av (n + i) cv).ownBlock = some g → g ≠ w.heap.size := fun g e => by have := hlo g e; have := HSZ.out; omega
        have k := fun (o : Nat) (u : Value) (h : wr.cell? ⟨w.heap.size, o, none⟩ = some u) => hg3.cell ((World.grownBy_alloc wr (.cells #[.string emptyS] 9) none).cell h (by simp)) (fun e => hne _ e.symm rfl)
        exact ⟨k 2 _ HC2.out.1, k 3 _ HC2.out.2⟩
      have HN4 := Lib.hid (And.intro ho2 (And.intro hg4 hs4))
      have HC4 := Lib.hid hc4
      clear ho hg3 e8 ho2 hlo hg4 hs4 hc4
      go_wp2_with fail
      go_roundw
      case rel => exact ⟨i + 1, by omega, by go_num, HN4.out, HC4.out⟩
      case measure => simp [intOf]; omega
    · have e1 : ¬ (i : Int) < (k : Int) := by omega
      have hik : i = k := by omega
      subst hik
      have c2 := HC2.out.1
      have c3 := HC2.out.2
      have hlf := HLF.out wr HO.out.2.1
      obtain ⟨LL, hLL⟩ : ∃ l, leafS pk pv = l := ⟨_, rfl⟩
      rw [hLL] at hlf
      have HLL := Lib.hid hLL
      have hlm : n + i + 1 ≤ maxLen := by unfold maxLen; omega
      have hlm2 : (n + i + 1) * 16 ≤ 140737488355328 := by omega
      have HLM := Lib.hid (And.intro hlm (And.intro hlm2 (one_textP LL)))
      have HLF2 := Lib.hid hlf
      clear hlm hlm2 hLL hlf
      go_wp2_with fail
      refine HLF2.out.mono ?_
      rintro e w4 ⟨rfl, g4⟩
      have HO4 := Lib.hid (And.intro (own_keep HO.out.1 g4 (fun _ _ e => by cases e)) (And.intro (grownBy_trans HO.out.2.1 g4) (Nat.le_trans HO.out.2.2 g4.size)))
      clear g4
      go_wp2_with (at_builtin; refine wpList_append_own _ rfl _ _ 33 rfl W0.heap.size 9 i0 (.string ⟨#[]⟩) 1 16 Tryz.underlying33 hti hz0 hz1 hz2 rfl (by decide) _ _ _ rfl (HO4.out.1.alloc _) ⟨w4.heap.size, 0, none⟩ 1 1 [.string LL] rfl rfl (cell_one_new _ _ _) HLM.out.2.2 HLM.out.1 HLM.out.2.1 (Nat.le_trans HO4.out.2.2 (by simp)) ?_)
      intro v' w5 ho hg5 _
      have HO5 := Lib.hid (And.intro ho hg5)
      clear ho hg5
      go_wp2_with fail
      go_ret
      refine ⟨cc, _, rfl, HCC.out.1, ⟨W0.heap.size, Nat.le_of_lt HSZ.out, ?_⟩, ?_⟩
      · have ho := HO5.out.1
        rw [push_strs] at ho
        have e9 : Wy ++ partB (cc - (d + n)) (pk, pv) = Wy ++ List.replicate i emptyS ++ [LL] := by
          rw [HCC.out.2.1, List.append_assoc, ← HLL.out]
          rfl
        rw [e9]
        have e10 : (Wy ++ List.replicate i emptyS ++ [LL]).length = n + i + 1 := by rw [List.length_append, HF.out.2]; rfl
        rw [e10]
        exact ho
      · exact grown_row (grownBy_alloc' HO4.out.2.1 _) HO5.out.2 (fun g e => by have := (HO4.out.1.lt g e).1; have := HSZ.out; omega)
end Go.Proofs.YtbhoeiopckmfhaaGreatDoor

namespace Go.Proofs.YtbhoeiopckmfhaaGreatDoor
open Go.RowKit Go.Maps
attribute [local irreducible] shaL

theorem start_put (M : List PairS) (key v : ByteArray) (d : Nat) : startM (setM M (key, v)) key d = setM (startM M key d) (key, v) := by
  unfold startM setM
  rw [List.filter_append, List.filter_filter, List.filter_filter]
  have e1 : ([(key, v)] : List PairS).filter (fun x => belowB x.1 key d) = [(key, v)] := by
    refine List.filter_eq_self.2 fun x hx => ?_
    rw [List.mem_singleton.1 hx]
    exact belowB_self _ _
  rw [e1]
  congr 1
  refine List.filter_congr fun x _ => ?_
  rw [Bool.and_comm]
theorem after_node {M : List PairS} (hone : M.Pairwise (fun p q => p.1 ≠ q.1)) (h16 : ∀ x ∈ M, x.1.size = 16) (key v : ByteArray) (hk : key.size = 16) (d : Nat) (hd : d ≤ 128) (c : Nat)
    (hc : ∀ x ∈ restT M key d, x.1 ≠ key → c < 128 ∧ bitS key c ≠ bitS x.1 c ∧ ∀ i, i < c → bitS key i = bitS x.1 i) :
    climbN key d (wayT M key d ++ extB key c (d + (wayT M key d).length) (restT M key d)) (leafS key v) = nodeAt (setM M (key, v)) key d := by
  have hA := start_alike hone h16 key d
  have h1 := way_put key v c (128 - d) d (startM M key d) (by omega) hA (fun x hx i hi => ((belowB_iff x.1 key d).1 (List.mem_filter.1 hx).2 i hi).symm) hc
  have hA2 := start_alike (setM_one hone (key, v)) (fun x hx => by
    rcases List.mem_append.1 hx with q | q
    · exact h16 x (List.mem_filter.1 q).1
    · rw [List.mem_singleton.1 q]; exact hk) key d
  have h2 := way_climb key (128 - d) d _ (by omega) hA2
  rw [start_put] at h2
  rw [h1.1, h1.2] at h2
  unfold nodeAt
  rw [start_put]
  exact h2
theorem OwnP.row' {w : World} {bv : Value} {M : List PairS} {key : ByteArray} {d : Nat} (h : OwnP w bv M key d) : ∃ B a c, bv = .slice a (wayT M key d).length c ∧ w.ownsRow B 9 1 (.slice a (wayT M key d).length c) (wayT M key d).length (strsV (wayT M key d)) := by
  obtain ⟨B, hB⟩ := h.row
  obtain ⟨a, c, rfl⟩ := slice_own' hB
  exact ⟨B, a, c, rfl, hB⟩
theorem key_ne (a b : ByteArray) (h : a ≠ b) : (a.toList == b.toList) = false := by rw [str_same]; simp [h]
theorem key_eq (a : ByteArray) : (a.toList == a.toList) = true := by simp
set_option maxRecDepth 100000 in
set_option maxHeartbeats 4000000 in
theorem OwnP.after {w : World} {bv : Value} {M : List PairS} {key : ByteArray} {d : Nat} (h : OwnP w bv M key d) (v : ByteArray) (hvs : v.size ≤ 1000) :
    Calls Tryz.prog 73 #[.agg #[bv, .bool (decide (restT M key d ≠ [])), .string (keyOf (restT M key d)), .string (valOf (restT M key d))], .string key, .string v, .int .i64 d] w fun e w' => e = .returned (.tuple #[.string (nodeAt (setM M (key, v)) key d), .int .i64 0]) ∧ w.grownBy w' none := by
  have hfew := restT_few h.one h.plain.k16 key d h.d128
  have hAN := after_node h.one h.plain.k16 key v h.k16 d h.d128
  have hGOOD := fun (w' : World) (g : w.grownBy w' none) => (h.grown g).good
  have hsizes := rest_size h.plain key d h.d128 h.vals
  have hLEAF := Lib.hid (fun (w' : World) (g : w.grownBy w' none) => tleaf_any key v (by rw [h.k16]; omega) (by omega) w' (h.ready.grown g))
  have hls : (leafS key v).size ≤ 17 := by rw [leafS_size]; exact Nat.le_refl _
  have hCL := fun (w' : World) (g : w.grownBy w' none) => h.climb (leafS key v) w' hls g
  obtain ⟨B, a, c, rfl, hrow⟩ := h.row'
  have hgd := goodT h.one h.plain.k16 key d h.d128
  have hlen := wayT_len M key d h.d128
  obtain ⟨LF, hLF⟩ : ∃ l, leafS key v = l := ⟨_, rfl⟩
  obtain ⟨ND, hND⟩ : ∃ l, nodeAt (setM M (key, v)) key d = l := ⟨_, rfl⟩
  rw [hLF] at hLEAF hCL hAN hls
  rw [hND] at hAN ⊢
  match hr : restT M key d, hfew with
  | [], _ =>
    rw [hr] at hGOOD hAN
    have hN := hAN 0 (fun x hx => by cases hx)
    have e0 : wayT M key d ++ extB key 0 (d + (wayT M key d).length) [] = wayT M key d := by simp [extB]
    rw [e0] at hN
    have hCL2 := hCL
    rw [hN] at hCL2
    obtain ⟨n, hn⟩ : ∃ n, (wayT M key d).length = n := ⟨_, rfl⟩
    rw [hn] at hGOOD hCL2 ⊢
    show Calls _ _ #[.agg #[.slice a n c, .bool false, .string ⟨#[]⟩, .string ⟨#[]⟩], _, _, _] w _
    have HG := Lib.hid (show ∀ (w' : World), w.grownBy w' none → Calls Tryz.prog 115 #[.agg #[.slice a n c, .bool false, .string ⟨#[]⟩, .string ⟨#[]⟩], .string key, .int .i64 d] w' fun e w'' => e = .returned (.bool true) ∧ w'.grownBy w'' none from hGOOD)
    have HCL := Lib.hid hCL2
    have hb0 := ProofIn.new w (.slice a n c) false ⟨#[]⟩ ⟨#[]⟩
    have hg0 : w.grownBy (w.alloc (.cells #[.slice a n c, .bool false, .string ⟨#[]⟩, .string ⟨#[]⟩] 92)) none := World.grownBy_alloc _ _ _
    clear hGOOD hAN hsizes hCL hrow hgd hlen hr hN e0 hCL2 hn h hLF hND hls
    go_enter Tryz.func73, Tryz.ntmps73
    go_wp2_with fail
    refine (HG.out _ hg0).mono ?_
    rintro e w1 ⟨rfl, g1⟩
    obtain ⟨x0, x1, x2, x3⟩ := (hb0.grown g1).cells
    have g1' := grownBy_trans hg0 g1
    obtain ⟨XB, hXB⟩ : ∃ XB, w.heap.size = XB := ⟨_, rfl⟩
    rw [hXB] at x0 x1 x2 x3 ⊢
    have G1 := Lib.hid g1'
    clear hb0 hg0 g1 g1' hXB
    go_wp2_with fail
    refine (hLEAF.out _ G1.out).mono ?_
    rintro e w2 ⟨rfl, g2⟩
    have G2 := Lib.hid (grownBy_trans G1.out g2)
    clear g2
    go_wp2_with fail
    refine (HCL.out _ G2.out).mono ?_
    rintro e w3 ⟨rfl, g3⟩
    have G3 := Lib.hid (grownBy_trans G2.out g3)
    clear g3
    go_wp2_with fail
    go_returns
    exact ⟨rfl, G3.out⟩
  | [x], _ =>
    obtain ⟨pk, pv⟩ := x
    rw [hr] at hGOOD hAN hsizes hgd
    have hkv : pk.size ≤ 1000 ∧ pv.size ≤ 1000 := hsizes
    show Calls _ _ #[.agg #[_, .bool true, .string pk, .string pv], _, _, _] w _
    have HG := Lib.hid (show ∀ (w' : World), w.grownBy w' none → Calls Tryz.prog 115 #[.agg #[.slice a (wayT M key d).length c, .bool true, .string pk, .string pv], .string key, .int .i64 d] w' fun e w'' => e = .returned (.bool true) ∧ w'.grownBy w'' none from hGOOD)
    have hb0 := ProofIn.new w (.slice a (wayT M key d).length c) true pk pv
    have hg0 : w.grownBy (w.alloc (.cells #[.slice a (wayT M key d).length c, .bool true, .string pk, .string pv] 92)) none := World.grownBy_alloc _ _ _
    by_cases hpk : pk = key
    · have hN := hAN 0 (fun y hy hne => absurd (by rw [List.mem_singleton.1 hy]; exact hpk) hne)
      have e0 : wayT M key d ++ extB key 0 (d + (wayT M key d).length) [(pk, pv)] = wayT M key d := by simp [extB, hpk]
      rw [e0] at hN
      have hCL2 := hCL
      rw [hN] at hCL2
      have HCL := Lib.hid hCL2
      obtain ⟨n, hn⟩ : ∃ n, (wayT M key d).length = n := ⟨_, rfl⟩
      rw [hn] at HG HCL hb0 hg0 ⊢
      have hkq := key_eq key
      subst hpk
      clear hGOOD hAN hsizes hCL hrow hgd hlen hr hN e0 hCL2 hn h hLF hND hls hkv
      go_enter Tryz.func73, Tryz.ntmps73
      go_wp2_with fail
      refine (HG.out _ hg0).mono ?_
      rintro e w1 ⟨rfl, g1⟩
      obtain ⟨x0, x1, x2, x3⟩ := (hb0.grown g1).cells
      have g1' := grownBy_trans hg0 g1
      obtain ⟨XB, hXB⟩ : ∃ XB, w.heap.size = XB := ⟨_, rfl⟩
      rw [hXB] at x0 x1 x2 x3 ⊢
      have G1 := Lib.hid g1'
      clear hb0 hg0 g1 g1' hXB
      go_wp2_with fail
      refine (hLEAF.out _ G1.out).mono ?_
      rintro e w2 ⟨rfl, g2⟩
      have G2 := Lib.hid (grownBy_trans G1.out g2)
      clear g2
      go_wp2_with fail
      refine (HCL.out _ G2.out).mono ?_
      rintro e w3 ⟨rfl, g3⟩
      have G3 := Lib.hid (grownBy_trans G2.out g3)
      clear g3
      go_wp2_with fail
      go_returns
      exact ⟨rfl, G3.out⟩
    · have hbel : pk.size = 16 ∧ belowB pk key (d + (wayT M key d).length) = true := by
        unfold goodB at hgd
        have h2 := (Bool.and_eq_true _ _ ▸ hgd).2
        have h3 : (decide (pk.size = 16) && belowB pk key (d + (wayT M key d).length)) = true := h2
        rw [Bool.and_eq_true, decide_eq_true_iff] at h3
        exact h3
      have hPT := fun (w' : World) (g : w.grownBy w' none) => parted_any B a c (wayT M key d) pk pv key d w' (h.ready.grown g) (own_keep hrow g (fun _ _ e => by cases e)) h.k16 hbel.1 hkv.2 hlen hbel.2
      have hws := way_small M key d
      have HH := Lib.hid (And.intro h.ready (And.intro h.k16 (And.intro hlen (And.intro hws (And.intro hls (And.intro hkv hbel))))))
      have HPT := Lib.hid hPT
      have HAN := Lib.hid hAN
      have HNE := Lib.hid hpk
      have hkn := key_ne pk key hpk
      obtain ⟨n, hn⟩ : ∃ n, (wayT M key d).length = n := ⟨_, rfl⟩
      have HWN := Lib.hid hn
      rw [hn] at HG HPT hb0 hg0 ⊢
      clear hGOOD hAN hsizes hCL hrow hgd hlen hr hn h hLF hND hls hkv hbel hPT hws hpk
      go_enter Tryz.func73, Tryz.ntmps73
      go_wp2_with fail
      refine (HG.out _ hg0).mono ?_
      rintro e w1 ⟨rfl, g1⟩
      obtain ⟨x0, x1, x2, x3⟩ := (hb0.grown g1).cells
      have g1' := grownBy_trans hg0 g1
      obtain ⟨XB, hXB⟩ : ∃ XB, w.heap.size = XB := ⟨_, rfl⟩
      rw [hXB] at x0 x1 x2 x3 ⊢
      have G1 := Lib.hid g1'
      clear hb0 hg0 g1 g1' hXB
      go_wp2_with fail
      refine (HPT.out _ G1.out).mono ?_
      rintro e w2 ⟨cc, v2, rfl, hcc, ⟨B2, hB2, ho2⟩, g2⟩
      have hcc128 : cc < 128 := by
        rcases Nat.lt_or_ge cc 128 with q | q
        · exact q
        · exact absurd (bits_key HH.out.2.2.2.2.2.2.1 HH.out.2.1 (fun i hi => ((belowB_iff key pk cc).1 hcc.2.1 i (by omega)).symm)) HNE.out
      have hN := HAN.out cc (fun y hy _ => by rw [List.mem_singleton.1 hy]; exact ⟨hcc128, hcc.2.2 hcc128, fun i hi => (belowB_iff key pk cc).1 hcc.2.1 i hi⟩)
      have e0 : extB key cc (d + (wayT M key d).length) [(pk, pv)] = partB (cc - (d + n)) (pk, pv) := by
        show (if pk = key then [] else partB (cc - (d + (wayT M key d).length)) (pk, pv)) = _
        rw [if_neg HNE.out, HWN.out]
      rw [e0] at hN
      have hge : d + n ≤ cc := by
        rcases Nat.lt_or_ge cc (d + n) with q | q
        · exact absurd ((belowB_iff pk key (d + (wayT M key d).length)).1 HH.out.2.2.2.2.2.2.2 cc (by rw [HWN.out]; exact q)).symm (hcc.2.2 hcc128)
        · exact q
      obtain ⟨a2, c2, rfl⟩ := slice_own' ho2
      have g12 := grownBy_trans G1.out g2
      have hcf := climb_fine _ _ key d w2 (HH.out.1.grown g12) (strs_own ho2) (fun s hs => by
        rcases List.mem_append.1 hs with q | q
        · have := HH.out.2.2.2.1 s q; omega
        · rcases List.mem_append.1 q with q | q
          · have := List.eq_of_mem_replicate q
            rw [this]; decide
          · rw [List.mem_singleton.1 q, leafS_size]; omega) HH.out.2.1 (by
        rw [List.length_append, HWN.out]
        simp [partB]
        omega) (fun g e => (ho2.lt g e).2)
      have HCF := Lib.hid (fun (w' : World) (g : w2.grownBy w' none) => hcf LF w' HH.out.2.2.2.2.1 g)
      rw [hN] at HCF
      obtain ⟨m, hm⟩ : ∃ m, (wayT M key d ++ partB (cc - (d + n)) (pk, pv)).length = m := ⟨_, rfl⟩
      rw [hm] at HCF ⊢
      have G2 := Lib.hid g12
      have HB2 := Lib.hid True.intro
      clear hcc hcc128 hN e0 hge g2 g12 hcf hB2 ho2 hm
      go_wp2_with fail
      refine (hLEAF.out _ G2.out).mono ?_
      rintro e w3 ⟨rfl, g3⟩
      have G3 := Lib.hid (And.intro (grownBy_trans G2.out g3) g3)
      clear g3
      go_wp2_with fail
      refine (HCF.out _ G3.out.2).mono ?_
      rintro e w4 ⟨rfl, g4⟩
      have G4 := Lib.hid (grownBy_trans G3.out.1 g4)
      clear g4
      go_wp2_with fail
      go_returns
      exact ⟨rfl, G4.out⟩
end Go.Proofs.YtbhoeiopckmfhaaGreatDoor
