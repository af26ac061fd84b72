/- What a book holds in memory; the walks of a half's with, of begin, takes, Left, and a book's writings. -/
import Derived.Test.YtfpbnfjlabhhoaaDoorLbB
import Derived.Test.YtfpbnfjlabhhoaaDoorSecK
import Derived.Test.YtfpbnfjlabhhoaaDoorBits
import Derived.Deep.AppendLies
import Derived.Handy
namespace Go.Proofs.YtfpbnfjlabhhoaaDoor
open Go.RowKit
attribute [local irreducible] shaL

theorem push_strs (P : List ByteArray) (x : ByteArray) : strsV P ++ [.string x] = strsV (P ++ [x]) := by simp [strsV]
theorem lit_one (w : World) (x : ByteArray) : ∀ j u, [Value.string x][j]? = some u → (w.alloc (.cells #[.string x] 9)).cell? ((⟨w.heap.size, 0, none⟩ : Addr).add j) = some u := by
  intro j u hj
  cases j with
  | zero =>
    simp at hj
    subst hj
    exact cell_of (heap_alloc_at _ _ _ rfl) 0
  | succ j => simp at hj

set_option maxRecDepth 100000 in
set_option maxHeartbeats 1600000 in
/-- with a record behind the others -/
theorem with_any (t used : Nat) (rv : Value) (L : List ByteArray) (s : ByteArray) (hs : s.size ≤ 1000000) (hu : used ≤ 1000000) (hL : L.length ≤ 1000000) (w : World) (hv : w.ownsRow 0 9 1 rv L.length (strsV L)) :
    Calls Tryd.prog 25 #[.agg #[.int .u32 t, rv, .int .i64 used], .string s] w fun e w' => ∃ g c, e = .returned (.agg #[.int .u32 t, .slice (some ⟨g, 0, none⟩) (L.length + 1) c, .int .i64 (used + partsN s.size : Nat)]) ∧
      w'.ownsRow 0 9 1 (.slice (some ⟨g, 0, none⟩) (L.length + 1) c) (L.length + 1) (strsV (L ++ [s])) ∧ w.grownBy w' rv.ownBlock ∧ (rv.ownBlock = some g ∨ w.heap.size ≤ g) := by
  obtain ⟨i0, hi, hz0, hz1, hz2⟩ := info_parts infoStrW
  obtain ⟨ra, rc, rfl⟩ := slice_own' hv
  have HPT := Lib.hid (fun w => parts_any s.size (by omega) w)
  have hpl : partsN s.size ≤ 1000001 := by unfold partsN; split <;> omega
  generalize partsN s.size = P at HPT hpl ⊢
  have HV := Lib.hid hv
  have hsz : (s.size : Int) ≤ 1000000 := by omega
  clear hv
  go_enter Tryd.func25, Tryd.ntmps25
  obtain ⟨B, hB⟩ : ∃ B, w.heap.size = B := ⟨_, rfl⟩
  obtain ⟨w1, hW1⟩ : ∃ w1, (w.alloc (.cells #[.int .u32 t, .slice ra L.length rc, .int .i64 used] 43)).alloc (.cells #[.int .u32 0, .slice none 0 0, .int .i64 0] 43) = w1 := ⟨_, rfl⟩
  have hh1 : w1.heap[B]? = some (.cells #[.int .u32 t, .slice ra L.length rc, .int .i64 used] 43 (0, 0)) := by
    rw [← hW1, Below.heap_alloc _ _ _ (by simp; omega)]; exact heap_alloc_at _ _ _ hB
  have hr1 : w1.heap[B + 1]? = some (.cells #[.int .u32 0, .slice none 0 0, .int .i64 0] 43 (0, 0)) := by
    rw [← hW1]; exact heap_alloc_at _ _ _ (by simp; omega)
  have hg1 : w.grownBy w1 none := by rw [← hW1]; exact grownBy_alloc' (World.grownBy_alloc _ _ _) _
  have hv1 := own_turn HV.out (S := fun _ => False) (Turn.of_grown hg1) (fun _ _ q => q)
  have c1 := cell_of hh1 1
  simp at c1
  have hrl : ∀ x, (Value.slice ra L.length rc).ownBlock = some x → x < B := fun x e => by rw [← hB]; exact (HV.out.lt x e).2
  have hB1 : w1.heap.size = B + 2 := by rw [← hW1]; simp; omega
  have HH := Lib.hid (And.intro hh1 hr1)
  have HG1 := Lib.hid hg1
  have HRL := Lib.hid hrl
  have hv2 : Hid ((w1.alloc (.cells #[.string s] 9)).ownsRow 0 9 1 (.slice ra L.length rc) L.length (strsV L)) := hv1.alloc _
  clear hh1 hr1 hg1 hv1 hrl
  go_wp2_with (at_builtin; refine wpList_append_lies _ rfl _ _ 32 rfl 0 9 i0 (.string ⟨#[]⟩) 1 16 Tryd.underlying32 hi hz0 hz1 hz2 rfl (by decide) _ _ _ rfl hv2.out ⟨B + 2, 0, none⟩ 1 1 [.string s] rfl rfl ?q1 ?q2 (by decide) ?q3 ?q4 ?q5 _ rfl ?_)
  case q1 => rw [← hB1]; exact lit_one w1 s
  case q2 => intro u hu; simp at hu; subst hu; rfl
  case q3 => unfold maxLen; omega
  case q4 => omega
  case q5 => exact Nat.zero_le _
  intro g cap w2 hown hg hat hlt
  rw [push_strs] at hown
  have hb2 : w2.heap[B]? = _ := hg.heap (World.grownBy_alloc w1 (.cells #[.string s] 9) none |>.heap HH.out.1 (by simp)) (fun e => by have := HRL.out B e; omega)
  have hr2 : w2.heap[B + 1]? = _ := hg.heap (World.grownBy_alloc w1 (.cells #[.string s] 9) none |>.heap HH.out.2 (by simp)) (fun e => by have := HRL.out _ e; omega)
  have hgB : g ≠ B ∧ g ≠ B + 1 := by
    rcases hat with e | e
    · have := HRL.out g e; omega
    · omega
  have HG2 : Hid (w.grownBy w2 (Value.slice ra L.length rc).ownBlock) := by
    refine ⟨hg.os.trans HG1.out.os, hg.tape.trans HG1.out.tape, hg.output.trans HG1.out.output, Nat.le_trans (Nat.le_trans HG1.out.size (by simp)) hg.size, fun i hi hne => ?_⟩
    rw [hg.block i (by simp; omega) hne, (World.grownBy_alloc w1 (.cells #[.string s] 9) none).block i (by omega) (by simp)]
    exact HG1.out.block i hi (by simp)
  have HAT : Hid ((Value.slice ra L.length rc).ownBlock = some g ∨ B ≤ g) := by
    rcases hat with e | e
    · exact .inl e
    · exact .inr (by omega)
  have HOW := Lib.hid hown
  have HB2 := Lib.hid hb2
  have HR2 := Lib.hid hr2
  have HGB := Lib.hid hgB
  have f1 := free_of hb2 1
  have c1' := cell_of hb2 1
  simp at c1'
  clear hg hown hat hb2 hr2 hgB HH c1
  go_wp2_with fail
  obtain ⟨w3, hW3⟩ : ∃ w3, w2.setCell ⟨B, 1, none⟩ (.slice (some ⟨g, 0, none⟩) (L.length + 1) cap) = w3 := ⟨_, rfl⟩
  rw [hW3]
  have hb3 : w3.heap[B]? = some (.cells #[.int .u32 t, .slice (some ⟨g, 0, none⟩) (L.length + 1) cap, .int .i64 used] 43 (0, 0)) := by
    rw [← hW3, heap_setCell HB2.out]; rfl
  have hr3 : w3.heap[B + 1]? = some (.cells #[.int .u32 0, .slice none 0 0, .int .i64 0] 43 (0, 0)) := by
    rw [← hW3, heap_setCell_ne _ _ _ _ (by omega)]; exact HR2.out
  have ho3 : Hid (w3.ownsRow 0 9 1 (.slice (some ⟨g, 0, none⟩) (L.length + 1) cap) (L.length + 1) (strsV (L ++ [s]))) := by
    rw [← hW3]
    exact own_turn HOW.out (S := fun i => i = B) ((Turn.refl (fun i => i = B) w2).setCell (fun _ => rfl) _ _) (fun x e q => by cases e; exact HGB.out.1 q)
  have hg3 : Hid (w.grownBy w3 (Value.slice ra L.length rc).ownBlock) := by rw [← hW3]; exact grownBy_setNew HG2.out (by omega) _ _
  have c2 := cell_of hb3 2
  simp at c2
  have f2 := free_of hb3 2
  have HB3 := Lib.hid hb3
  have HR3 := Lib.hid hr3
  have hu3 : (used : Int) ≤ 1000000 := by omega
  have hp3 : (P : Int) ≤ 1000001 := by omega
  clear hW3 hW1 c1' f1 HOW HB2 HR2 hb3 hr3 HG2 hv2
  have hw := wrap_i64_nat (used + P) (by omega)
  rw [Int.natCast_add] at hw
  have HBL := Lib.hid hB
  have HG1s := Lib.hid HG1.out.size
  clear HG1 hB
  go_region_with ((go_at_call 16; refine (HPT.out _).mono ?_; rintro e wq ⟨rfl, rfl⟩))
  all_goals
    obtain ⟨w4, hW4⟩ : ∃ w4, (w3.setCell ⟨B, 2, none⟩ (.int .i64 (↑used + ↑P))).drew = w4 := ⟨_, rfl⟩
    rw [hW4]
    have hb4 : w4.heap[B]? = some (.cells #[.int .u32 t, .slice (some ⟨g, 0, none⟩) (L.length + 1) cap, .int .i64 (↑used + ↑P)] 43 (0, 0)) := by
      rw [← hW4]; show (w3.setCell _ _).heap[B]? = _; rw [heap_setCell HB3.out]; rfl
    have hr4 : w4.heap[B + 1]? = some (.cells #[.int .u32 0, .slice none 0 0, .int .i64 0] 43 (0, 0)) := by
      rw [← hW4]; show (w3.setCell _ _).heap[B + 1]? = _; rw [heap_setCell_ne _ _ _ _ (by omega)]; exact HR3.out
    have HO4 : Hid (w4.ownsRow 0 9 1 (.slice (some ⟨g, 0, none⟩) (L.length + 1) cap) (L.length + 1) (strsV (L ++ [s]))) := by
      rw [← hW4]
      exact own_turn ho3.out (S := fun i => i = B) ((Turn.refl (fun i => i = B) w3).setCell (fun _ => rfl) _ _).drew (fun x e q => by cases e; exact HGB.out.1 q)
    have HG4 : Hid (w.grownBy w4 (Value.slice ra L.length rc).ownBlock) := by rw [← hW4]; exact grownBy_drew (grownBy_setNew hg3.out (by have := HBL.out; omega) _ _)
    have k0 := cell_of hb4 0
    have k1 := cell_of hb4 1
    have k2 := cell_of hb4 2
    have r0 := cell_of hr4 0
    have r1 := cell_of hr4 1
    have r2 := cell_of hr4 2
    have q0 := free_of hr4 0
    have q1 := free_of hr4 1
    have q2 := free_of hr4 2
    simp at k0 k1 k2 r0 r1 r2
    clear hW4 hb4 c2 f2 ho3 hg3 HB3 HR3
    go_wp2_with fail
    obtain ⟨w5, hW5⟩ : ∃ w5, ((w4.setCell ⟨B + 1, 0, none⟩ (.int .u32 t)).setCell ⟨B + 1, 1, none⟩ (.slice (some ⟨g, 0, none⟩) (L.length + 1) cap)).setCell ⟨B + 1, 2, none⟩ (.int .i64 (↑used + ↑P)) = w5 := ⟨_, rfl⟩
    rw [hW5]
    have hr5 : w5.heap[B + 1]? = some (.cells #[.int .u32 t, .slice (some ⟨g, 0, none⟩) (L.length + 1) cap, .int .i64 (↑used + ↑P)] 43 (0, 0)) := by
      rw [← hW5, heap_setCell (heap_setCell (heap_setCell hr4 0 _) 1 _) 2 _]; rfl
    have p0 := cell_of hr5 0
    have p1 := cell_of hr5 1
    have p2 := cell_of hr5 2
    simp at p0 p1 p2
    have HO5 : Hid (w5.ownsRow 0 9 1 (.slice (some ⟨g, 0, none⟩) (L.length + 1) cap) (L.length + 1) (strsV (L ++ [s]))) := by
      rw [← hW5]
      exact own_turn HO4.out (S := fun i => i = B + 1) ((((Turn.refl (fun i => i = B + 1) w4).setCell (fun _ => rfl) _ _).setCell (fun _ => rfl) _ _).setCell (fun _ => rfl) _ _) (fun x e q => by cases e; exact HGB.out.2 q)
    have HG5 : Hid (w.grownBy w5 (Value.slice ra L.length rc).ownBlock) := by
      rw [← hW5]
      exact grownBy_setNew (grownBy_setNew (grownBy_setNew HG4.out (by have := HBL.out; omega) _ _) (by have := HBL.out; omega) _ _) (by have := HBL.out; omega) _ _
    clear hW5 hr5 hr4 k0 k1 k2 r0 r1 r2 q0 q1 q2
    exact bodyPost_ret (v := .agg #[.int .u32 t, .slice (some ⟨g, 0, none⟩) (L.length + 1) cap, .int .i64 (↑used + ↑P)]) (by simp [results, Tryd.results25, go_sem, p0, p1, p2]; try rfl) rfl ⟨g, cap, by rw [Int.natCast_add], HO5.out, HG5.out, by rw [HBL.out]; exact HAT.out⟩
end Go.Proofs.YtfpbnfjlabhhoaaDoor
