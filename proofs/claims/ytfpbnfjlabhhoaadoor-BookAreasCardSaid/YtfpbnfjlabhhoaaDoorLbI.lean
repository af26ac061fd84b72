/- The walk of logbook.Open. -/
import Derived.Test.YtfpbnfjlabhhoaaDoorLbH
namespace Go.Proofs.YtfpbnfjlabhhoaaDoor
open Go.RowKit
attribute [local irreducible] shaL

structure HalfT where
  turn : Nat
  recs : List ByteArray
  used : Nat
/-- the book behind k halves -/
def pickS (first size : Nat) (hs : Nat → HalfT) : Nat → BookS
  | 0 => ⟨first, size, 0, 0, [], 0, false⟩
  | k + 1 => if (pickS first size hs k).turn < (hs k).turn then ⟨first, size, k, (hs k).turn, (hs k).recs, (hs k).used, false⟩ else pickS first size hs k
theorem pickS_area (first size : Nat) (hs : Nat → HalfT) (k : Nat) : (pickS first size hs k).first = first ∧ (pickS first size hs k).size = size ∧ (pickS first size hs k).failed = false := by
  induction k with
  | zero => exact ⟨rfl, rfl, rfl⟩
  | succ k ih =>
    rw [pickS]
    split
    · exact ⟨rfl, rfl, rfl⟩
    · exact ih
theorem pickS_ok (n first size : Nat) (hs : Nat → HalfT) (ha : first + 2 * size ≤ n) (hn : n ≤ 1024) (h4 : 4 ≤ size) (k : Nat) (hk : k ≤ 2) (hh : ∀ j, j < k → (hs j).turn ≤ 4294967295 ∧ (hs j).recs.length ≤ (hs j).used ∧ (hs j).used ≤ size) : BookOK n (pickS first size hs k) := by
  induction k with
  | zero => exact ⟨ha, hn, h4, Nat.zero_le _, Nat.zero_le _, Nat.le_refl _, Nat.zero_le _⟩
  | succ k ih =>
    rw [pickS]
    split
    · obtain ⟨h1, h2, h3⟩ := hh k (by omega)
      exact ⟨ha, hn, h4, by show k ≤ 1; omega, h1, h2, h3⟩
    · exact ih (by omega) (fun j hj => hh j (by omega))

theorem open_nil (f c : Int) (w : World) : Calls Tryd.prog 6 #[.pointer none, .int .i64 f, .int .i64 c] w fun e w' => e = .returned (.tuple #[.pointer none, .int .i64 1]) ∧ w.grownBy w' none := by
  go_enter Tryd.func6, Tryd.ntmps6
  go_wp2_with fail
  go_returns
  exact ⟨rfl, World.grownBy.refl _ _⟩
set_option maxRecDepth 100000 in
set_option maxHeartbeats 1600000 in
theorem open_bad (F : Nat → Prop) (b : Nat) (D : DiskS) (f c : Int) (w : World) (hD : DiskAt F w b D) (hl : D.last.length ≤ 1024) (hc2 : c ≤ 9223372036854775807) (h : c < 8 ∨ f < 0 ∨ (D.last.length : Int) - c < f) :
    Calls Tryd.prog 6 #[.pointer (some ⟨b, 0, none⟩), .int .i64 f, .int .i64 c] w fun e w' => e = .returned (.tuple #[.pointer none, .int .i64 1]) ∧ w.grownBy w' none := by
  have HC := Lib.hid (count_at F b D w hD)
  clear hD
  by_cases h1 : c < 8
  · go_enter Tryd.func6, Tryd.ntmps6
    go_wp2_with fail
    go_returns
    exact ⟨rfl, World.grownBy.refl _ _⟩
  · by_cases h2 : f < 0
    · go_enter Tryd.func6, Tryd.ntmps6
      go_wp2_with fail
      go_returns
      exact ⟨rfl, World.grownBy.refl _ _⟩
    · have h3 : (D.last.length : Int) - c < f := by omega
      have h4 : -9223372036854775808 ≤ (D.last.length : Int) - c := by omega
      have h5 : (D.last.length : Int) - c ≤ 1024 := by omega
      generalize D.last.length = N at HC hl h3 h4 h5 h
      go_enter Tryd.func6, Tryd.ntmps6
      go_wp2_with fail
      refine HC.out.mono ?_
      rintro e w1 ⟨rfl, rfl⟩
      go_wp2_with fail
      go_returns
      exact ⟨rfl, World.grownBy.refl _ _⟩

set_option maxRecDepth 100000 in
set_option maxHeartbeats 6400000 in
theorem open_any (F : Nat → Prop) (n : Nat) (w : World) (b : Nat) (D : DiskS) (first count size : Nat) (hD : DiskAt F w b D) (hnl : D.last.length = n) (hn : n ≤ 1024) (h8 : 8 ≤ count) (hsz : count / 2 = size) (ha : first + count ≤ n) (hon : D.on = true) (hwl : D.wait.length ≤ 1000000000)
    (hs : Nat → HalfT) (hh : ∀ j, j < 2 → (hs j).turn ≤ 4294967295 ∧ (hs j).recs.length ≤ (hs j).used ∧ (hs j).used ≤ size)
    (hH : ∀ p, p < 2 → ∀ w' v, w.grownBy w' none → StrsAt w' v (secsK D (first + p * size) size) → Calls Tryd.prog 14 #[v] w' fun e w'' => ∃ hv, e = .returned (.agg #[.int .u32 (hs p).turn, hv, .int .i64 (hs p).used]) ∧ w''.ownsRow w'.heap.size 9 1 hv (hs p).recs.length (strsV (hs p).recs) ∧ w'.grownBy w'' none) :
    Calls Tryd.prog 6 #[.pointer (some ⟨b, 0, none⟩), .int .i64 first, .int .i64 count] w fun e w' => ∃ g rv, e = .returned (.tuple #[.pointer (some ⟨g, 0, none⟩), .int .i64 0]) ∧ BookMem w' g b (pickS first size hs 2) rv ∧ w.heap.size ≤ g ∧ (∀ x, rv.ownBlock = some x → w.heap.size ≤ x ∧ x ≠ g) ∧ w.grownBy w' none := by
  have HC := Lib.hid (count_at F b D w hD)
  rw [hnl] at HC
  have e1 : ¬ (count : Int) < 8 := by omega
  have e2 : ¬ (first : Int) < 0 := by omega
  have e3 : ¬ (n : Int) - (count : Int) < (first : Int) := by omega
  have e4 : (n : Int) ≤ 1024 := by omega
  have e5 : (count : Int) / 2 = (size : Int) := by omega
  have e6 : (count : Int) ≤ 1024 := by omega
  have hsz2 : 2 * size ≤ count := by omega
  have hs4 : 4 ≤ size := by omega
  have HPA := Lib.hid (pickS_area first size hs)
  have HPO : Hid (∀ k, k ≤ 2 → BookOK n (pickS first size hs k)) := fun k hk => pickS_ok n first size hs (by omega) hn hs4 k hk (fun j hj => hh j (by omega))
  have HPS : Hid (∀ k, pickS first size hs (k + 1) = if (pickS first size hs k).turn < (hs k).turn then ⟨first, size, k, (hs k).turn, (hs k).recs, (hs k).used, false⟩ else pickS first size hs k) := fun _ => rfl
  have HP0 : Hid (pickS first size hs 0 = ⟨first, size, 0, 0, [], 0, false⟩) := rfl
  have HSC : Hid (∀ (w' : World) (g : Nat) (B : BookS) (rv : Value) (p : Nat), w.grownBy w' none → BookMem w' g b B rv → BookOK n B → B.first = first → B.size = size → p ≤ 1 → Calls Tryd.prog 13 #[.pointer (some ⟨g, 0, none⟩), .int .i64 p] w' fun e w'' => ∃ v, e = .returned (.tuple #[v, .int .i64 0]) ∧ w''.ownsRow w'.heap.size 9 1 v size (strsV (secsK D (first + p * size) size)) ∧ w'.grownBy w'' none) := by
    intro w' g B rv p hg hM hO hf hz hp
    have := sectors_any F n w' g b B D rv hM (hD.grown hg) hO hnl hon hwl p hp
    rw [hf, hz] at this
    exact this
  have HHO := Lib.hid hH
  have HHH := Lib.hid hh
  clear hD hH hh hsz hnl
  go_enter Tryd.func6, Tryd.ntmps6
  go_wp2_with fail
  refine HC.out.mono ?_
  rintro e w1 ⟨rfl, rfl⟩
  clear HC
  go_wp2_with fail
  generalize Value.bool (decide ((n : Int) - (count : Int) < (first : Int))) = q1
  have hb0 : BookMem (w.alloc (.cells (bookCells b (pickS first size hs 0) (.slice none 0 0)).toArray 45)) w.heap.size b (pickS first size hs 0) (.slice none 0 0) :=
    ⟨heap_alloc_at _ _ _ rfl, World.ownsRow_nil _ _ _ _⟩
  have HB0 : Hid (BookMem (w.alloc (.cells #[.pointer (some ⟨b, 0, none⟩), .int .i64 first, .int .i64 size, .int .i64 0, .int .u32 0, .slice none 0 0, .int .i64 0, .bool false] 45)) w.heap.size b (pickS first size hs 0) (.slice none 0 0)) := hb0
  clear hb0
  go_loopw [37] (fun iv wr => ∃ (k : Nat) (rv : Value), k ≤ 2 ∧ iv = .int .i64 k ∧ Hid (BookMem wr w.heap.size b (pickS first size hs k) rv ∧ ∀ x, rv.ownBlock = some x → w.heap.size < x) ∧ Hid (w.grownBy wr none)) (fun iv _ => 2 - (intOf iv).toNat)
  case atStart => exact ⟨0, .slice none 0 0, by decide, rfl, ⟨HB0.out, by simp [Value.ownBlock]⟩, World.grownBy_alloc _ _ _⟩
  case round =>
    clear HB0
    obtain ⟨k, rv, hk, rfl, HM, HG⟩ := hrel
    by_cases hlt : k < 2
    · have d1 : (k : Int) < 2 := by omega
      have hpa := HPA.out k
      have hok := HPO.out k (by omega)
      have HSK := Lib.hid (HSC.out wr w.heap.size (pickS first size hs k) rv k HG.out HM.out.1 hok hpa.1 hpa.2.1 (by omega))
      have hpk := HPS.out k
      have htk := hok.turn
      have HHK := Lib.hid (HHO.out k hlt)
      have hhk := HHH.out k hlt
      have HB := Lib.hid (And.intro hpa hok)
      clear hpa hok
      generalize hs k = T at HHK hhk hpk
      generalize pickS first size hs k = B at HSK hpk HM htk HB
      go_wp2_with fail
      refine HSK.out.mono ?_
      rintro e w2 ⟨v, rfl, hrow, g2⟩
      obtain ⟨va, vc, rfl⟩ := slice_own' hrow
      have HST := Lib.hid (strs_own hrow)
      have HG2 := Lib.hid (grownBy_trans HG.out g2)
      have HM2 := Lib.hid (HM.out.1.grown g2)
      have HG23 := Lib.hid HM2.out.lt.1
      clear hrow g2 HSK
      go_wp2_with fail
      refine (HHK.out w2 _ HG2.out HST.out).mono ?_
      rintro e w3 ⟨hv, rfl, hrow3, g3⟩
      obtain ⟨ha, hc, rfl⟩ := slice_own' hrow3
      have HR3 := Lib.hid hrow3
      have HG3 := Lib.hid (grownBy_trans HG2.out g3)
      have HM3 := Lib.hid (HM2.out.grown g3)
      clear hrow3 g3 HM2 HST HHK
      go_wp2_with fail
      obtain ⟨w4, hW4⟩ : ∃ w4, w3.alloc (.cells #[.int .u32 T.turn, .slice ha T.recs.length hc, .int .i64 T.used] 43) = w4 := ⟨_, rfl⟩
      rw [hW4]
      have hg4 : w3.grownBy w4 none := by rw [← hW4]; exact World.grownBy_alloc _ _ _
      have hh4 : w4.heap[w3.heap.size]? = some (.cells #[.int .u32 T.turn, .slice ha T.recs.length hc, .int .i64 T.used] 43 (0, 0)) := by rw [← hW4]; exact heap_alloc_at _ _ _ rfl
      have k0 := cell_of hh4 0
      have k1 := cell_of hh4 1
      have k2 := cell_of hh4 2
      simp at k0 k1 k2
      have hM4 := HM3.out.grown hg4
      obtain ⟨_, _, _, c3, c4, c5, c6, _⟩ := hM4.at_
      have HM4 := Lib.hid (And.intro hM4 (own_turn HR3.out (S := fun _ => False) (Turn.of_grown hg4) (fun _ _ q => q)))
      have HG4 := Lib.hid (grownBy_trans HG3.out hg4)
      clear hg4 hh4 hW4 HM3 HG3 HR3 hM4
      go_upto_region 11 with (fail)
      go_cut [58] (fun tv wx => tv = .bool (decide (B.turn < T.turn)) ∧ Hid (w4.grownBy wx none))
      case first =>
        by_cases hgt : B.turn < T.turn
        · have h1 : (B.turn : Int) < (T.turn : Int) := by omega
          go_region
          all_goals
            go_wp2_with fail
            go_meet
            case rel => exact ⟨by first | rfl | (simp [hgt]), grownBy_drew (World.grownBy.refl _ _)⟩
        · have h1 : ¬ (B.turn : Int) < (T.turn : Int) := by omega
          go_region
          all_goals
            go_wp2_with fail
            go_meet
            case rel => exact ⟨by first | rfl | (simp [hgt]), grownBy_drew (World.grownBy.refl _ _)⟩
      case rest =>
        obtain ⟨rfl, HWX⟩ := hcut
        have g5 := HWX.out
        have k0' := g5.cell k0 (by simp)
        have k1' := g5.cell k1 (by simp)
        have k2' := g5.cell k2 (by simp)
        have hM5 := HM4.out.1.grown g5
        have HR5 := Lib.hid (own_turn HM4.out.2 (S := fun _ => False) (Turn.of_grown g5) (fun _ _ q => q))
        have HG5 := Lib.hid (grownBy_trans HG4.out g5)
        have HM5 := Lib.hid hM5
        clear k0 k1 k2 g5 HWX HM4 HG4 c3 c4 c5 c6
        by_cases hgt : B.turn < T.turn
        · rw [if_pos hgt] at hpk
          have hdd : decide (B.turn < T.turn) = true := by simp [hgt]
          rw [hdd]
          obtain ⟨_, _, _, c3, c4, c5, c6, _⟩ := hM5.at_
          have f3 := free_of hM5.blk 3
          have f4 := free_of hM5.blk 4
          have f5 := free_of hM5.blk 5
          have f6 := free_of hM5.blk 6
          have HPK := Lib.hid hpk
          clear hM5 hpk
          go_wp2_with fail
          go_region
          all_goals
            go_wp2_with fail
            go_roundw
            case rel =>
              have hlt5 := HR5.out.lt
              have tt : Turn (fun i => i = w.heap.size) wc ((((wc.setCell ⟨w.heap.size, 3, none⟩ (.int .i64 k)).setCell ⟨w.heap.size, 4, none⟩ (.int .u32 T.turn)).setCell ⟨w.heap.size, 5, none⟩ (.slice ha T.recs.length hc)).setCell ⟨w.heap.size, 6, none⟩ (.int .i64 T.used)).drew :=
                (((((Turn.refl (fun i => i = w.heap.size) wc).setCell (fun _ => rfl) _ _).setCell (fun _ => rfl) _ _).setCell (fun _ => rfl) _ _).setCell (fun _ => rfl) _ _).drew
              refine ⟨k + 1, .slice ha T.recs.length hc, by omega, by go_num, ⟨?_, ?_⟩, ?_⟩
              · rw [HPK.out]
                refine ⟨?_, own_turn (own_down HR5.out (Nat.zero_le _)) tt (fun x e q => by have := (hlt5 x e).1; have := HG23.out; omega)⟩
                show ((((wc.setCell _ _).setCell _ _).setCell _ _).setCell _ _).heap[w.heap.size]? = _
                rw [heap_setCell (heap_setCell (heap_setCell (heap_setCell HM5.out.blk 3 _) 4 _) 5 _) 6 _]
                have e1 := HB.out.1.1
                have e2 := HB.out.1.2.1
                have e3 := HB.out.1.2.2
                simp only [bookCells, e1, e2, e3]
                rfl
              · intro x e
                have := (hlt5 x e).1
                have := HG23.out
                omega
              · exact grownBy_drew (grownBy_setNew (grownBy_setNew (grownBy_setNew (grownBy_setNew HG5.out (Nat.le_refl _) _ _) (Nat.le_refl _) _ _) (Nat.le_refl _) _ _) (Nat.le_refl _) _ _)
            case measure => simp [intOf]; omega
        · rw [if_neg hgt] at hpk
          have hdd : decide (B.turn < T.turn) = false := by simp [hgt]
          rw [hdd]
          have HPK := Lib.hid hpk
          clear hM5 hpk
          go_wp2_with fail
          go_roundw
          case rel => exact ⟨k + 1, rv, by omega, by go_num, ⟨by rw [HPK.out]; exact HM5.out, HM.out.2⟩, HG5.out⟩
          case measure => simp [intOf]; omega
    · have hk2 : k = 2 := by omega
      subst hk2
      go_wp2_with fail
      go_returns
      exact ⟨_, rv, rfl, HM.out.1, Nat.le_refl _, fun x e => ⟨Nat.le_of_lt (HM.out.2 x e), by have := HM.out.2 x e; omega⟩, HG.out⟩
end Go.Proofs.YtfpbnfjlabhhoaaDoor
