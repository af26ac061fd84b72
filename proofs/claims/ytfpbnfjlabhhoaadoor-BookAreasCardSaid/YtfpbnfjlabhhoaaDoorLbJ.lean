/- Books on new disks; the walk of the laws' speaks. -/
import Derived.Test.YtfpbnfjlabhhoaaDoorLbI
import Derived.Test.YtfpbnfjlabhhoaaDoorLbG
namespace Go.Proofs.YtfpbnfjlabhhoaaDoor
open Go.RowKit
attribute [local irreducible] shaL

theorem open_book {n0 : Nat} {X : List Nat} {w w' : World} {g b : Nat} {B : BookS} {D : DiskS} {rv : Value} (hD : KDisk n0 X w b D) (hX : ∀ x ∈ X, x < w.heap.size) (hn : n0 ≤ w.heap.size) (hM : BookMem w' g b B rv) (hg : w.heap.size ≤ g) (hr : ∀ x, rv.ownBlock = some x → w.heap.size ≤ x ∧ x ≠ g) (k : w.grownBy w' none) : KBook n0 X w' g b B D :=
  ⟨rv, hM, Nat.le_trans hn hg, fun hx => by have := hX g hx; omega, fun x e => ⟨Nat.le_trans hn (hr x e).1, fun hx => by have := hX x hx; have := (hr x e).1; omega, (hr x e).2⟩,
   hD.more k (fun i hi => by
     simp only [List.mem_append, List.mem_cons] at hi
     rcases hi with hi | rfl | hi
     · exact .inr (hr i (ownB_mem.1 hi)).1
     · exact .inr hg
     · exact .inl hi)⟩
theorem new_read (n i : Nat) (h : i < n) : readL (newD n).last (newD n).wait i = zeros 64 := by
  show ((List.replicate n (zeros 64)).getD i []) = _
  rw [List.getD_eq_getElem?_getD, List.getElem?_replicate, if_pos h]
  rfl
theorem turn_zero : turnOf (str (zeros 64)) = 0 := by decide
/-- the book of a new disk -/
def newB (first size : Nat) : BookS := ⟨first, size, 0, 0, [], 0, false⟩
theorem open_new (n0 : Nat) (X : List Nat) (n : Nat) (w : World) (b first count size : Nat) (hD : KDisk n0 X w b (newD n)) (hX : ∀ x ∈ X, x < w.heap.size) (hn0 : n0 ≤ w.heap.size) (hn : n ≤ 1024) (h8 : 8 ≤ count) (hsz : count / 2 = size) (ha : first + count ≤ n) :
    Calls Tryd.prog 6 #[.pointer (some ⟨b, 0, none⟩), .int .i64 first, .int .i64 count] w fun e w' => ∃ g, e = .returned (.tuple #[.pointer (some ⟨g, 0, none⟩), .int .i64 0]) ∧ KBook n0 X w' g b (newB first size) (newD n) ∧ w.grownBy w' none := by
  refine (open_any _ n w b (newD n) first count size hD (by show (List.replicate n (zeros 64)).length = n; simp) hn h8 hsz ha rfl (by show 0 ≤ _; decide) (fun _ => ⟨0, [], 0⟩) (fun j _ => ⟨Nat.zero_le _, Nat.le_refl _, Nat.zero_le _⟩) ?_).mono ?_
  · intro p hp w' v hg hv
    obtain ⟨s, r, hsr⟩ : ∃ s r, secsK (newD n) (first + p * size) size = s :: r := by
      cases e : secsK (newD n) (first + p * size) size with
      | nil => have := secsK_length (newD n) (first + p * size) size; rw [e] at this; simp at this; omega
      | cons s r => exact ⟨s, r, rfl⟩
    have hs0 : s = str (zeros 64) := by
      have h1 : (secsK (newD n) (first + p * size) size)[0]? = some s := by rw [hsr]; rfl
      unfold secsK at h1
      rw [List.getElem?_map, List.getElem?_range (by omega)] at h1
      have h2 := new_read n (first + p * size + 0) (by rcases (by omega : p = 0 ∨ p = 1) with rfl | rfl <;> omega)
      simp only [Option.map_some, Option.some.injEq] at h1
      rw [← h1, h2]
    have hl : r.length + 1 = size := by have := secsK_length (newD n) (first + p * size) size; rw [hsr] at this; exact this
    rw [hsr] at hv
    subst hs0
    refine (halfOf_none w' v _ r hv rfl turn_zero (by omega)).mono ?_
    rintro e w'' ⟨rfl, h2⟩
    exact ⟨.slice none 0 0, rfl, World.ownsRow_nil _ _ _ _, h2⟩
  · rintro e w' ⟨g, rv, rfl, hM, hg, hr, k⟩
    have hp : pickS first size (fun _ => ⟨0, [], 0⟩) 2 = newB first size := rfl
    rw [hp] at hM
    exact ⟨g, rfl, open_book hD hX hn0 hM hg hr k, k⟩

theorem writes_fine : ∀ (L : List ByteArray) (D : DiskS) (i : Nat), D.fuse < 0 → (writesS D i L).1 = 0 ∧ (writesS D i L).2.on = D.on ∧ (writesS D i L).2.fuse = D.fuse ∧ (writesS D i L).2.last.length = D.last.length ∧ (writesS D i L).2.wait = [] ∧ (writesS D i L).2.keep = D.keep
  | [], D, i, h => by
    rw [writesS, if_neg (by omega)]
    refine ⟨rfl, rfl, ?_, syncL_length _ _, rfl, rfl⟩
    show decF D.fuse = _
    unfold decF
    rw [if_pos h]
  | s :: r, D, i, h => by
    have e : (wroteD D i s).fuse = D.fuse := by show (if D.fuse < 0 then D.fuse else _) = _; rw [if_pos h]
    rw [writesS, if_neg (by omega)]
    have := writes_fine r (wroteD D i s) (i + 1) (by rw [e]; exact h)
    rw [e] at this
    exact this
/-- Put where nothing fails -/
theorem put_fine (B : BookS) (D : DiskS) (s : ByteArray) (hf : B.failed = false) (hs : s.size ≤ 900) (hl : partsN s.size ≤ B.size - B.used) (h : D.fuse < 0) :
    ∃ E, putS B D s = (0, { B with turn := max B.turn 1, recs := B.recs ++ [s], used := B.used + partsN s.size }, E) ∧ E.on = D.on ∧ E.fuse = D.fuse ∧ E.last.length = D.last.length ∧ E.wait = [] ∧ E.keep = D.keep := by
  have ht : takesI B s = 0 := by unfold takesI; rw [if_neg (by omega), hf]; rfl
  have hw := writes_fine (nextS (max B.turn 1) B.recs.length s) D (B.first + B.place * B.size + B.used) h
  refine ⟨_, ?_, hw.2⟩
  unfold putS
  rw [if_neg (by omega), if_neg (by omega)]
  unfold layS
  rw [if_pos hw.1]
theorem newB_ok (n first size : Nat) (ha : first + 2 * size ≤ n) (hn : n ≤ 1024) (h4 : 4 ≤ size) : BookOK n (newB first size) := ⟨ha, hn, h4, Nat.zero_le _, Nat.zero_le _, Nat.le_refl _, Nat.zero_le _⟩

set_option maxRecDepth 100000 in
set_option maxHeartbeats 3200000 in
theorem lb_speaks (w : World) (hr : ShaReady w) : Calls Tryd.prog 4 #[] w fun e w' => e = .returned (.bool true) ∧ w.grownBy w' none := by
  have HR := Lib.hid hr
  have HSX := Lib.hid hr.lt
  have HNEW := Lib.hid (new_k (n0 := w.heap.size) (X := []) 16 (by decide) (by decide) w (by simp) (Nat.le_refl _))
  clear hr
  go_enter Tryd.func4, Tryd.ntmps4
  go_wp2_with fail
  refine HNEW.out.mono ?_
  rintro e w1 ⟨b, rfl, hD, g1⟩
  have HOP := Lib.hid (open_new w.heap.size [] 16 w1 b 0 16 8 hD (by simp) g1.size (by decide) (by decide) (by decide) (by decide))
  have HG1 := Lib.hid g1
  clear hD g1 HNEW
  go_wp2_with fail
  refine HOP.out.mono ?_
  rintro e w2 ⟨g, rfl, hB, g2⟩
  have HG2 := Lib.hid (grownBy_trans HG1.out g2)
  have HP1 := Lib.hid (bput_any w.heap.size 16 [] w2 g b (newB 0 8) (newD 16) hB (by simp) HG2.out.size (newB_ok 16 0 8 (by decide) (by decide) (by decide)) rfl rfl (by decide) (by decide) (by decide) ⟨#[97]⟩ (by decide) (HR.out.grown HG2.out) (fun h => by have := HSX.out.1; omega) (fun h => by have := HSX.out.2; omega))
  obtain ⟨E1, hE1, on1, fu1, la1, wa1, ke1⟩ := put_fine (newB 0 8) (newD 16) ⟨#[97]⟩ rfl (by decide) (by decide) (by decide)
  rw [hE1] at HP1
  have HE1 := Lib.hid (And.intro on1 (And.intro fu1 (And.intro la1 (And.intro wa1 ke1))))
  clear hE1 on1 fu1 la1 wa1 ke1 hB g2 HOP
  go_wp2_with fail
  refine HP1.out.mono ?_
  rintro e w3 ⟨rfl, hB3, t3⟩
  have HG3 := Lib.hid (grownBy_below (t3.bel (below_grownBy HG2.out) HG2.out.size))
  have hr3 : ShaReady w3 := HR.out.grown HG3.out
  have HP2 := Lib.hid (bput_any w.heap.size 16 [] w3 g b ⟨0, 8, 0, 1, [⟨#[97]⟩], 1, false⟩ E1 hB3 (by simp) HG3.out.size ⟨by decide, by decide, by decide, by decide, by decide, by decide, by decide⟩ HE1.out.2.2.1 HE1.out.1 (by rw [HE1.out.2.2.2.1]; decide) (by rw [HE1.out.2.1]; decide) (by rw [HE1.out.2.2.2.2]; decide) ⟨#[98]⟩ (by decide) hr3 (fun h => by have := HSX.out.1; omega) (fun h => by have := HSX.out.2; omega))
  obtain ⟨E2, hE2, _⟩ := put_fine ⟨0, 8, 0, 1, [⟨#[97]⟩], 1, false⟩ E1 ⟨#[98]⟩ rfl (by decide) (by decide) (by rw [HE1.out.2.1]; decide)
  rw [hE2] at HP2
  clear hE2 hB3 t3 hr3 HP1
  go_wp2_with fail
  refine HP2.out.mono ?_
  rintro e w4 ⟨rfl, ⟨rv, hB4⟩, t4⟩
  have HG4 := Lib.hid (grownBy_below (t4.bel (below_grownBy HG3.out) HG3.out.size))
  have hM4 : BookMem w4 g b ⟨0, 8, 0, 1, [⟨#[97]⟩, ⟨#[98]⟩], 2, false⟩ rv := hB4.mem
  have HRC := Lib.hid (records_any w4 g b _ rv hM4 (by decide))
  have HM4 := Lib.hid hM4
  clear hM4 hB4 t4 HP2
  go_wp2_with fail
  refine HRC.out.mono ?_
  rintro e w5 ⟨v, rfl, hv, g5⟩
  obtain ⟨va, vc, rfl⟩ := hv.form
  obtain ⟨vg, vo, rfl, c0⟩ := hv.at_ 0 ⟨#[97]⟩ rfl
  obtain ⟨vg', vo', he, c1⟩ := hv.at_ 1 ⟨#[98]⟩ rfl
  cases he
  rw [Nat.add_zero] at c0
  have HLF := Lib.hid (bleft_any w5 g b _ rv (HM4.out.grown g5) 16 ⟨by decide, by decide, by decide, by decide, by decide, by decide, by decide⟩)
  have HG5 := Lib.hid (grownBy_trans HG4.out g5)
  clear hv g5 HRC
  go_wp2_with fail
  refine HLF.out.mono ?_
  rintro e w6 ⟨rfl, g6⟩
  go_wp2_with fail
  go_ret
  exact ⟨by first | rfl | (simp), grownBy_trans HG5.out g6⟩
end Go.Proofs.YtfpbnfjlabhhoaaDoor
