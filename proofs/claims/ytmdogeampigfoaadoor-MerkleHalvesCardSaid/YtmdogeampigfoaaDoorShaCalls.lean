/- The walk of sha.Tagged. -/
import Derived.Test.YtmdogeampigfoaaDoorShaSum
namespace Go.Proofs.YtmdogeampigfoaaDoor
open Go.RowKit
attribute [local irreducible] sched

/-- a slice that holds these texts -/
def StrsAt (w : World) (v : Value) (L : List ByteArray) : Prop :=
  ∃ a cap, v = .slice a L.length cap ∧ ∀ i (h : i < L.length), ∃ g o, a = some ⟨g, o, none⟩ ∧ w.cell? ⟨g, o + i, none⟩ = some (.string L[i])
theorem StrsAt.kept {w w' : World} {v : Value} {L : List ByteArray} (h : StrsAt w v L) (hb : Below w.heap.size w w') : StrsAt w' v L := by
  obtain ⟨a, cap, rfl, hc⟩ := h
  refine ⟨a, cap, rfl, fun i hi => ?_⟩
  obtain ⟨g, o, ha, hcell⟩ := hc i hi
  exact ⟨g, o, ha, (hb.cell (World.block_lt_of_cell? w _ hcell)).trans hcell⟩
/-- texts, one behind the other -/
def catB (L : List ByteArray) : List UInt8 := L.flatMap fun s => s.data.toList
theorem catB_take (L : List ByteArray) (i : Nat) (h : i < L.length) : catB (L.take (i + 1)) = catB (L.take i) ++ L[i].data.toList := by
  unfold catB
  rw [List.take_succ_eq_append_getElem h, List.flatMap_append, List.flatMap_singleton]
theorem catB_split (L : List ByteArray) (i : Nat) : catB L = catB (L.take i) ++ catB (L.drop i) := by
  unfold catB
  rw [← List.flatMap_append, List.take_append_drop]
theorem catB_take_le (L : List ByteArray) (i : Nat) : (catB (L.take i)).length ≤ (catB L).length := by
  rw [catB_split L i, List.length_append]
  omega
/-- the two tables of package sha in memory -/
structure ShaReady (w : World) : Prop where
  s : StartAt w
  r : RootsAt w
theorem ShaReady.lt {w : World} (h : ShaReady w) : 0 < w.heap.size ∧ 1 < w.heap.size :=
  ⟨World.block_lt_of_cell? w _ (h.s 0 _ rfl), World.block_lt_of_cell? w _ (h.r 0 (by decide))⟩
theorem ShaReady.kept {w w' : World} {row : Option Nat} (h : ShaReady w) (hg : w.grownBy w' row) (hs : row ≠ some 0) (hr : row ≠ some 1) : ShaReady w' := ⟨h.s.kept hg hs, h.r.kept hg hr⟩
theorem ShaReady.below {w w' : World} (h : ShaReady w) (hb : Below w.heap.size w w') : ShaReady w' := h.kept (grownBy_below hb) (by simp) (by simp)

/-- a new block's world, seen from ahead of it -/
theorem grown_new {a b c : World} {k : Nat} (h : a.grownBy b none) (hg : b.grownBy c (some k)) (hk : a.heap.size ≤ k) : a.grownBy c none :=
  ⟨hg.os.trans h.os, hg.tape.trans h.tape, hg.output.trans h.output, Nat.le_trans h.size hg.size, fun i hi _ => (hg.block i (Nat.lt_of_lt_of_le hi h.size) (by intro e; cases e; omega)).trans (h.block i hi (by simp))⟩

/-- what a tagged digest is of -/
def tagB (tag : UInt8) (L : List ByteArray) : List UInt8 := tag :: L.flatMap fun s => be s.size 4 ++ s.data.toList
theorem tagB_take (tag : UInt8) (L : List ByteArray) (i : Nat) (h : i < L.length) : tagB tag (L.take (i + 1)) = tagB tag (L.take i) ++ be L[i].size 4 ++ L[i].data.toList := by
  unfold tagB
  rw [List.take_succ_eq_append_getElem h, List.flatMap_append, List.flatMap_singleton, ← List.cons_append, List.append_assoc]
theorem tagB_take_le (tag : UInt8) (L : List ByteArray) (i : Nat) : (tagB tag (L.take i)).length ≤ (tagB tag L).length := by
  have e : tagB tag L = tagB tag (L.take i) ++ (L.drop i).flatMap fun s => be s.size 4 ++ s.data.toList := by
    unfold tagB
    rw [List.cons_append, ← List.flatMap_append, List.take_append_drop]
  rw [e, List.length_append]
  omega

set_option maxRecDepth 100000 in
set_option maxHeartbeats 800000 in
theorem tagged_any (w : World) (tag : UInt8) (v : Value) (L : List ByteArray) (hv : StrsAt w v L) (hr : ShaReady w) (hn : L.length ≤ maxLen) (hl : (tagB tag L).length ≤ 100000000000000000) :
    Calls Tryd.prog 28 #[.int .u8 tag.toNat, v] w fun e w' => e = .returned (.string (str ((shaL (tagB tag L)).take 16))) ∧ w.grownBy w' none := by
  obtain ⟨a, cap, rfl, hc⟩ := hv
  have HC := Lib.hid hc
  have HR := Lib.hid hr
  unfold maxLen at hn
  clear hc hr
  go_enter Tryd.func28, Tryd.ntmps28
  go_wp2_with fail
  refine (newHash_any _ HR.out.s HR.out.r).mono ?_
  rintro e w1 ⟨rfl, h1, g1⟩
  have H1 := Lib.hid h1
  have G1 := Lib.hid g1
  clear h1 g1
  go_wp2_with fail
  refine (writeByte_any _ _ [] tag H1.out (by simp)).mono ?_
  rintro e w2 ⟨rfl, h2, g2⟩
  have H2 : Hid (Took w2 w.heap.size (tagB tag (L.take 0))) := h2
  have G2 := Lib.hid (grown_new G1.out g2 (Nat.le_refl _))
  clear h2 g2 G1 H1
  go_wp2_with fail
  go_loopw [14] (fun i wr => ∃ k : Nat, k ≤ L.length ∧ i = .int .i64 k ∧ Hid (Took wr w.heap.size (tagB tag (L.take k))) ∧ Hid (w.grownBy wr none)) (fun i _ => L.length - (intOf i).toNat)
  case atStart => exact ⟨0, Nat.zero_le _, rfl, H2.out, G2.out⟩
  case round =>
    obtain ⟨k, hk, rfl, HT, HG⟩ := hrel
    by_cases hlt : k < L.length
    · obtain ⟨g, o, rfl, hcell⟩ := HC.out k hlt
      have cw : wr.cell? ⟨g, o + k, none⟩ = some (.string L[k]) := HG.out.cell hcell (by simp)
      have hcs : (tagB tag (L.take k)).length + 4 + L[k].size ≤ (tagB tag L).length := by
        have h1 := tagB_take tag L k hlt
        have h2 := tagB_take_le tag L (k + 1)
        rw [h1] at h2
        simpa [be_length, Nat.add_assoc] using h2
      generalize hs : L[k] = s at cw hcs
      have HS := Lib.hid hs
      clear hs hcell
      have b1 : (0 : Int) ≤ (k : Int) := by omega
      have b2 : (k : Int) < (L.length : Int) := by omega
      have b3 : s.size ≤ 100000000000000000 := by omega
      go_wp2_with fail
      refine (writeNum_any _ w.heap.size _ s.size 4 HT.out (by omega) (by omega) (by omega)).mono ?_
      rintro e w3 ⟨rfl, h3, g3⟩
      have H3 := Lib.hid h3
      have G3 := Lib.hid (grown_new HG.out g3 (Nat.le_refl _))
      clear h3 g3
      go_wp2_with fail
      refine (write_any _ w.heap.size _ s H3.out (by rw [List.length_append, be_length]; omega)).mono ?_
      rintro e w4 ⟨rfl, h4, g4⟩
      have H4 := Lib.hid h4
      have G4 := Lib.hid (grown_new G3.out g4 (Nat.le_refl _))
      clear h4 g4
      go_wp2_with fail
      go_roundw
      case rel =>
        refine ⟨k + 1, by omega, by go_num, ?_, G4.out⟩
        show Took _ _ _
        rw [tagB_take tag L k hlt, HS.out]
        exact H4.out
      case measure => simp [intOf]; omega
    · have : k = L.length := by omega
      subst this
      have hT := HT.out
      rw [List.take_of_length_le (Nat.le_refl _)] at hT
      have HT2 := Lib.hid hT
      clear hT HT
      go_wp2_with fail
      refine (sum_any _ _ _ HT2.out (by omega)).mono ?_
      rintro e w2 ⟨rfl, g2⟩
      have G2 := Lib.hid (grown_new HG.out g2 (Nat.le_refl _))
      clear g2
      have hsz : (str (shaL (tagB tag L))).size = 32 := by rw [str_size, shaL_length]
      have hx : (str (shaL (tagB tag L))).extract 0 16 = str ((shaL (tagB tag L)).take 16) := by
        apply ByteArray.ext
        simp [str]
      generalize str (shaL (tagB tag L)) = S at hsz hx ⊢
      have HX := Lib.hid hx
      clear hx
      go_wp2_with fail
      go_ret
      refine ⟨?_, G2.out⟩
      rw [← HX.out]
      rfl
/-- 'f(x, y, ..)': the texts handed in, in a new block -/
theorem strs_new (w : World) (L : List ByteArray) (t : TypeId) (n : Nat) (hn : n = L.length) : StrsAt (w.alloc (.cells (L.map Value.string).toArray t)) (.slice (some ⟨w.heap.size, 0, none⟩) n n) L := by
  subst hn
  refine ⟨_, _, rfl, fun i hi => ⟨_, _, rfl, ?_⟩⟩
  rw [cell_of (heap_alloc_at w _ _ rfl)]
  simp [List.getElem?_eq_getElem hi]
end Go.Proofs.YtmdogeampigfoaaDoor
